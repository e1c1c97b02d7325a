/- The names of a tree's functions: code and specification. -/
import Derived.Test.YtpfglgfmebjeiaaDoorFuncWalk
import Derived.Test.YtpfglgfmebjeiaaDoorSWalk3
import Derived.Test.YtpfglgfmebjeiaaDoorStrStep
namespace Go.Proofs.YtpfglgfmebjeiaaDoor
open Go.RowKit Go.Joins
set_option linter.unusedVariables false

theorem Grown.kids {w : World} {G B : Nat} {L : Lay} {ns : List TN} {root : Int} {loc : Nat → Nat} {l : List Nat} {d x : Nat} {n : TN} (hT : TreeP ns root l d) (hG : Grown w G B L ns root loc l) (hn : ns[x]? = some n) : ∃ pb cb, w.cell? ⟨loc x, 7, none⟩ = some (.slice pb n.kids.length cb) ∧ KidsUp w ns loc pb n.kids := by
  have hxl := (List.getElem?_eq_some_iff.1 hn).1
  obtain ⟨n', pb, cb, hn', _, c0, c1, c2, c3, c4, c5, c7, hP, hj⟩ := hG.br x (hT.2.2.2 x hxl)
  rw [hn] at hn'
  obtain rfl := Option.some.inj hn'
  refine ⟨pb, cb, c7, fun m hm => ?_⟩
  obtain ⟨bp, e, _, hc⟩ := hP m (by rw [List.length_map]; exact hm)
  rw [List.getElem_map] at hc
  obtain ⟨h0, hjl⟩ := hT.2.1.1.kid x (hT.2.2.2 x hxl) n hn n.kids[m] (List.getElem_mem hm)
  obtain ⟨y, _, _, hy, _, k0, _, k2, _⟩ := hG.br n.kids[m].toNat hjl
  exact ⟨bp, y, e, hc, h0, hy, k0, k2⟩
theorem KidsUp.mem {w : World} {ns : List TN} {loc : Nat → Nat} {pb : Option Addr} {ks : List Int} (h : KidsUp w ns loc pb ks) {j : Int} (hj : j ∈ ks) : w.cell? ⟨loc j.toNat, 2, none⟩ = some (.string (textAt ns j)) := by
  obtain ⟨m, hm, rfl⟩ := List.getElem_of_mem hj
  obtain ⟨bp, x, e, c, h0, hx, k0, k2⟩ := h m hm
  rw [textAt_of hx]; exact k2
set_option maxRecDepth 100000 in
theorem fieldFL (p : Option Addr) (n c b : Nat) (w : World) : (Instr.field 87 (.agg #[.slice p n c, .map (some b)]) 0).run Tryd.prog w = .ok (.slice p n c) w := by kernel_rfl
def FuncsOfRes (ns : List TN) (root : Int) (zs : List ByteArray) (c : Int) : Prop := (¬ TreeOkP ns root ∧ zs = [] ∧ c = 1) ∨ (TreeOkP ns root ∧ (zs = namesF ns root ∧ zs.length ≤ 1048576) ∧ c = 0)
theorem FuncsOfRes.det {ns : List TN} {root : Int} {zs zs' : List ByteArray} {c c' : Int} (h : FuncsOfRes ns root zs c) (h' : FuncsOfRes ns root zs' c') : zs = zs' ∧ c = c' := by
  rcases h with ⟨h1, rfl, rfl⟩ | ⟨h1, ⟨rfl, _⟩, rfl⟩ <;> rcases h' with ⟨g1, rfl, rfl⟩ | ⟨g1, ⟨rfl, _⟩, rfl⟩
  all_goals first | exact ⟨rfl, rfl⟩ | exact absurd h1 g1 | exact absurd g1 h1
theorem FuncsOfRes.len {ns : List TN} {root : Int} {zs : List ByteArray} {c : Int} (h : FuncsOfRes ns root zs c) : zs.length ≤ 1048576 := by
  rcases h with ⟨h1, rfl, rfl⟩ | ⟨h1, ⟨_, h2⟩, rfl⟩
  · simp
  · exact h2
theorem namesF_len {ns : List TN} {root : Int} {r : TN} (h : ns[root.toNat]? = some r) : (namesF ns root).length ≤ r.kids.length := by
  unfold namesF funsOf
  rw [List.length_map, rootKids_of h]
  exact fnsIn_len _ _

set_option maxHeartbeats 2000000 in
set_option maxRecDepth 100000 in
theorem implFuncsOf_any (ns : List TN) (root : Int) (L : Lay) (w : World) (hN : NodesAt w L ns) (hsm : Small ns) (htab : Hid (TabAt w 1 srcWords)) :
    Calls Tryd.prog 23 #[.agg #[.slice L.p ns.length L.cap, .int .i64 root]] w fun e w' => ∃ v zs c, e = .returned (.tuple #[v, .int .i64 c]) ∧ FuncsOfRes ns root zs c ∧ StrBuf w' w.heap.size v zs ∧ Below w.heap.size w w' := by
  have HN := hide hN
  have HS := hide hsm
  clear hN hsm
  go_enter Tryd.func23, Tryd.ntmps23
  go_wp2_with fail
  refine (rootOf_any ns root L _ ((unhide HN).later (nx_alloc _ _)) (unhide HS) (hide ((unhide htab).later (nx_alloc _ _)))).mono ?_
  rintro e w1 ⟨hb, hres⟩
  have hB := hide (nx_trans (nx_alloc _ _) hb)
  have hw1 : w.heap.size < w1.heap.size := by have := hb.size; simp at this; omega
  clear hb
  rcases hres with ⟨rfl, hno⟩ | ⟨G, B, loc, l, d, hT, hG, x, hxr, rfl⟩
  · have hD : Hid (FuncsOfRes ns root [] 1) := hide (.inl ⟨hno, rfl, rfl⟩)
    clear hno
    go_wp2
    go_ret2
    exact ⟨_, [], 1, rfl, unhide hD, StrBuf.nil _ _, unhide hB⟩
  obtain ⟨r, hr, _⟩ := hT.2.2.1
  have hrl : r.kids.length ≤ 1048576 := ((unhide HS).2 r (List.mem_of_getElem? hr)).2.2.1
  have hnl := namesF_len hr
  have hD : Hid (FuncsOfRes ns root (namesF ns root) 0) := hide (.inr ⟨⟨l, d, hT⟩, ⟨rfl, by omega⟩, rfl⟩)
  have hrx : ns[x]? = some r := by rw [← hxr, Int.toNat_natCast] at hr; exact hr
  obtain ⟨pb, cb, c7, hKU⟩ := hG.kids hT hrx
  have HF : Hid (namesF ns root = (fnsIn ns r.kids).map (textAt ns)) := hide (by unfold namesF funsOf; rw [rootKids_of hr])
  have HKU := hide hKU
  have HC := hide (listFunctions_any ns loc (loc x) cb pb r.kids w1 c7 hKU hrl (fun y hy => ((unhide HS).2 y hy).1))
  have hfl := fnsIn_len ns r.kids
  have HMJ : Hid (∀ j ∈ fnsIn ns r.kids, j ∈ r.kids) := hide (fun j hj => (fnsIn_mem.1 hj).1)
  clear hT hG hxr hr hrx hKU c7 hnl
  rw [unhide HF] at hD
  generalize loc x = gx at HC
  generalize hfs : fnsIn ns r.kids = fs at HC hD hfl HMJ
  go_wp2_with fail
  refine (unhide HC).mono ?_
  rintro e w2 ⟨v, b, n, rfl, hP, hM, hbl, hb2⟩
  obtain ⟨pv, cv, rfl, hPI⟩ := hP.ptrs (A := fun j => j < w2.heap.size) (fun j hj => (hP.own_lt j hj).2)
  have hB2 := hide (nx_trans (unhide hB) hb2)
  have hw2 := hb2.size
  have HPI := hide hPI
  have HK2 := hide ((unhide HKU).later hb2)
  clear hP hM hb2 hPI HKU
  rw [List.length_map]
  have hfld := fieldFL pv fs.length cv b w2
  go_wp2
  clear hfld
  go_loopw [6, 21] (fun s i wx => ∃ m : Nat, m ≤ fs.length ∧ i = .int .i64 m ∧ Hid (StrBuf wx w2.heap.size s ((fs.take m).map (textAt ns))) ∧ Hid (Below w2.heap.size w2 wx)) (fun _ i _ => fs.length - (intOf i).toNat)
  case atStart => exact ⟨0, by omega, rfl, hide (by simpa using StrBuf.nil _ _), hide (Below.refl _ _)⟩
  case round =>
    obtain ⟨m, hm, rfl, hS, hBx⟩ := hrel
    obtain ⟨ps, cs, rfl⟩ := (unhide hS).slice
    have hwx := (unhide hBx).size
    have hlm : ((fs.take m).map (textAt ns)).length = m := by rw [List.length_map, List.length_take]; omega
    by_cases hlt : m < fs.length
    · obtain ⟨bp, e1, hbp, y0⟩ := unhide HPI m (by rw [List.length_map]; exact hlt)
      subst e1
      rw [List.getElem_map] at y0
      have k2 := (unhide HK2).mem (unhide HMJ fs[m] (List.getElem_mem hlt))
      have y1 : wr.cell? ⟨bp, m, none⟩ = some (.pointer (some ⟨loc fs[m].toNat, 0, none⟩)) := by rw [(unhide hBx).cell (p := ⟨bp, m, none⟩) hbp]; exact y0
      have k3 : wr.cell? ⟨loc fs[m].toNat, 2, none⟩ = some (.string (textAt ns fs[m])) := by rw [(unhide hBx).cell (p := ⟨loc fs[m].toNat, 2, none⟩) (World.block_lt_of_cell? _ _ k2)]; exact k2
      have HTK : Hid ((fs.take m).map (textAt ns) ++ [textAt ns fs[m]] = (fs.take (m + 1)).map (textAt ns)) := hide (by rw [List.take_succ_eq_append_getElem hlt, List.map_append]; rfl)
      have hgl : loc fs[m].toNat < wr.heap.size := World.block_lt_of_cell? _ _ k3
      clear y0 k2
      rw [hlm] at hS ⊢
      generalize textAt ns fs[m] = u at k3 HTK
      generalize (fs.take m).map (textAt ns) = zs at hS HTK hlm
      generalize loc fs[m].toNat = gj at y1 k3 hgl
      go_wp2_with (at_builtin; refine wp_appStr _ rfl _ _ rfl w2.heap.size wr.heap.size _ zs u rfl ((unhide hS).alloc _) rfl (by simp) ?c1 ?c2 ?c3)
      case c1 => simp; omega
      case c2 => rw [hlm]; omega
      case c3 =>
        intro v' w3 hS3 hb3
        have HS3 : Hid (StrBuf w3 w2.heap.size v' ((fs.take (m + 1)).map (textAt ns))) := hide (by rw [← unhide HTK]; exact hS3)
        have HB3 := hide (((unhide hBx).alloc hwx _).trans hb3)
        clear hS3 hb3
        go_wp2
        go_roundw
        case rel => exact ⟨m + 1, by omega, by go_num, hide (unhide HS3), hide (unhide HB3)⟩
        case measure => simp [intOf]; omega
    · have HF3 : Hid (StrBuf wr w.heap.size (.slice ps ((fs.take m).map (textAt ns)).length cs) (fs.map (textAt ns))) := hide (by
        have := unhide hS
        rw [show m = fs.length by omega, List.take_length] at this ⊢
        exact ownsRow_le this (by omega))
      have HB3 := hide ((unhide hB2).trans ((unhide hBx).mono (by omega)))
      rw [hlm] at HF3 ⊢
      go_wp2
      go_ret2
      exact ⟨_, _, 0, rfl, unhide hD, unhide HF3, unhide HB3⟩

set_option maxHeartbeats 2000000 in
set_option maxRecDepth 100000 in
theorem specFuncsOf_any (ns : List TN) (root : Int) (L : Lay) (w : World) (hN : NodesAt w L ns) (hsm : Small ns) :
    Calls Tryd.prog 22 #[.agg #[.slice L.p ns.length L.cap, .int .i64 root]] w fun e w' => ∃ v zs c, e = .returned (.tuple #[v, .int .i64 c]) ∧ FuncsOfRes ns root zs c ∧ StrBuf w' w.heap.size v zs ∧ Below w.heap.size w w' := by
  have HN := hide hN
  have HS := hide hsm
  have hl := hsm.1
  clear hN hsm
  go_enter Tryd.func22, Tryd.ntmps22
  go_wp2_with fail
  refine (specTreeOK_any ns root L _ ((unhide HN).later (nx_alloc _ _)) (unhide HS)).mono ?_
  rintro e w1 ⟨b, rfl, hb, hb1⟩
  have hB := hide (nx_trans (nx_alloc _ _) hb1)
  have hw1 : w.heap.size < w1.heap.size := by have := hb1.size; simp at this; omega
  have c1 : ∀ o, w1.cell? ⟨w.heap.size, o, none⟩ = (w.alloc (.cells #[.slice L.p ns.length L.cap, .int .i64 root] 25)).cell? ⟨w.heap.size, o, none⟩ := fun o => hb1.cell (p := ⟨w.heap.size, o, none⟩) (by simp)
  have d0 : w1.cell? ⟨w.heap.size, 0, none⟩ = some (.slice L.p ns.length L.cap) := by rw [c1]; simp
  have d1 : w1.cell? ⟨w.heap.size, 1, none⟩ = some (.int .i64 root) := by rw [c1]; simp
  clear hb1 c1
  have HE : Hid (StrBuf (w1.alloc (.cells #[] 9)) w.heap.size (.slice (some ⟨w1.heap.size, 0, none⟩) 0 0) []) := hide (by simpa using StrBuf.lit w1 w.heap.size [] (by omega) (by decide))
  have HE1 : Hid (StrBuf (w1.alloc (.cells #[] 9)) w1.heap.size (.slice (some ⟨w1.heap.size, 0, none⟩) 0 0) []) := hide (by simpa using StrBuf.lit w1 w1.heap.size [] (by omega) (by decide))
  cases b
  · have hD : Hid (FuncsOfRes ns root [] 1) := hide (.inl ⟨fun h => (by have := hb.2 h; cases this), rfl, rfl⟩)
    clear hb
    go_wp2
    go_ret2
    exact ⟨_, [], 1, rfl, unhide hD, unhide HE, nx_al (unhide hB)⟩
  obtain ⟨l, d, hT⟩ := hb.1 rfl
  obtain ⟨hr0, hrl, hrn⟩ := hT.root
  obtain ⟨a, rfl⟩ : ∃ a : Nat, root = (a : Int) := ⟨root.toNat, by omega⟩
  rw [Int.toNat_natCast] at hrl hrn
  have hr : ns[(a : Int).toNat]? = some ns[a] := by rw [Int.toNat_natCast]; exact List.getElem?_eq_getElem hrn
  have hkl : ns[a].kids.length ≤ 1048576 := ((unhide HS).2 ns[a] (List.getElem_mem hrn)).2.2.1
  have hnl := namesF_len hr
  have HF : Hid (namesF ns (a : Int) = (fnsIn ns ns[a].kids).map (textAt ns)) := hide (by unfold namesF funsOf; rw [rootKids_of hr])
  have hD : Hid (FuncsOfRes ns (a : Int) ((fnsIn ns ns[a].kids).map (textAt ns)) 0) := hide (.inr ⟨⟨l, d, hT⟩, ⟨(unhide HF).symm, by rw [← unhide HF]; omega⟩, rfl⟩)
  have HKD : Hid (∀ j ∈ ns[a].kids, ∃ c : Nat, j = (c : Int) ∧ c < ns.length) := hide (fun j hj => by
    obtain ⟨h0, hm⟩ := hT.2.1.1.kid a hrl ns[a] (List.getElem?_eq_getElem hrn) j hj
    exact ⟨j.toNat, by omega, hT.2.1.1.lt _ hm⟩)
  obtain ⟨bn, off, hp, q0, q1, q2, q3, q4, q5, q6⟩ := (unhide HN).later (unhide hB) a hrn
  have HQ6 := hide q6
  have HNx := hide ((unhide HN).later (unhide hB))
  have hbn : bn < w1.heap.size := World.block_lt_of_cell? _ _ q4
  have hbn' : ¬ bn = w1.heap.size := by omega
  have hwb : w.heap.size < w1.heap.size := hw1
  clear hT hr hr0 hrl hb q0 q1 q2 q3 q5 q6 hnl HF
  rw [hp] at d0
  generalize ns[a].kids = ks at q4 HQ6 hkl hD HKD
  generalize L.pk a = pk at q4 HQ6
  generalize L.ck a = ck at q4
  go_wp2
  go_loopw [4, 6] (fun s i wx => ∃ m : Nat, m ≤ ks.length ∧ i = .int .i64 m ∧ Hid (StrBuf wx w1.heap.size s ((fnsIn ns (ks.take m)).map (textAt ns))) ∧ Hid (Below w1.heap.size w1 wx)) (fun _ i _ => ks.length - (intOf i).toNat)
  case atStart => exact ⟨0, by omega, rfl, hide (by simpa [fnsIn] using unhide HE1), hide ((Below.refl _ _).alloc (Nat.le_refl _) _)⟩
  case round =>
    clear HE HE1
    obtain ⟨m, hm, rfl, hS, hBx⟩ := hrel
    obtain ⟨ps, cs, rfl⟩ := (unhide hS).slice
    have hwx := (unhide hBx).size
    have hll : ((fnsIn ns (ks.take m)).map (textAt ns)).length ≤ m := by rw [List.length_map]; exact Nat.le_trans (fnsIn_len _ _) (by rw [List.length_take]; omega)
    by_cases hlt : m < ks.length
    · obtain ⟨bk, ok, hpk, y0⟩ := unhide HQ6 m hlt
      subst hpk
      obtain ⟨c, hkc, hcl⟩ := unhide HKD ks[m] (List.getElem_mem hlt)
      obtain ⟨bn2, off2, hp2, x0, x1, x2, x3, x4, x5, x6⟩ := unhide HNx c hcl
      rw [hp] at hp2
      obtain ⟨rfl, rfl⟩ := (by simpa using hp2 : bn = bn2 ∧ off = off2)
      have hkx : kindAt ns ks[m] = ns[c].k := kindAt_of (by rw [hkc, Int.toNat_natCast]; exact List.getElem?_eq_getElem hcl)
      have htx : textAt ns ks[m] = ns[c].t := textAt_of (by rw [hkc, Int.toNat_natCast]; exact List.getElem?_eq_getElem hcl)
      have hbk : bk < w1.heap.size := World.block_lt_of_cell? _ _ y0
      have d0' := cellB (unhide hBx) hwb d0
      have y0' := cellB (unhide hBx) hbk y0
      have x0' := cellB (unhide hBx) hbn x0
      have x2' := cellB (unhide hBx) hbn x2
      rw [hkc] at y0'
      clear x1 x3 x4 x5 x6 x0 x2 y0 hp2
      by_cases h20 : ns[c].k = 20
      · have HTK : Hid ((fnsIn ns (ks.take m)).map (textAt ns) ++ [ns[c].t] = (fnsIn ns (ks.take (m + 1))).map (textAt ns)) := hide (by rw [fnsIn_yes hlt (by rw [hkx, h20]), List.map_append, ← htx]; rfl)
        rw [h20] at x0'
        clear hkx htx h20 hkc
        generalize ns[c].t = u at x2' HTK
        generalize (fnsIn ns (ks.take m)).map (textAt ns) = zs at hS HTK hll ⊢
        have D0 := hide (show wr.drew.cell? ⟨w.heap.size, 0, none⟩ = some (.slice (some ⟨bn, off, none⟩) ns.length L.cap) from d0')
        have Y0 := hide (show wr.drew.cell? ⟨bk, ok + m, none⟩ = some (.int .i64 (c : Int)) from y0')
        have X2 := hide (show wr.drew.cell? ⟨bn, off + c * 5 + 2, none⟩ = some (.string u) from x2')
        have hc0 : (0 : Int) ≤ (c : Int) := Int.natCast_nonneg _
        have hc1 : (c : Int) < (ns.length : Int) := by omega
        have hm0 : (0 : Int) ≤ (m : Int) := Int.natCast_nonneg _
        have hm1 : (m : Int) < (ks.length : Int) := by omega
        have HSD := hide ((unhide hS).later (Below.refl wr.heap.size wr).drew)
        have HBD := hide (unhide hBx).drew
        have hwd : w1.heap.size ≤ wr.drew.heap.size := hwx
        go_wp2
        go_region
        clear hS hBx
        generalize wr.drew = wd at D0 Y0 X2 HSD HBD hwd ⊢
        clear d0' y0' x0' x2'
        have f0 := unhide D0
        have f1 := unhide Y0
        have f2 := unhide X2
        have hbk' : ¬ bk = wd.heap.size := by omega
        have hbn2 : ¬ bn = wd.heap.size := by omega
        have hws2 : ¬ w.heap.size = wd.heap.size := by omega
        go_wp2
        go_region_held3 (fun x => x.cell? ⟨w.heap.size, 0, none⟩ = some (.slice (some ⟨bn, off, none⟩) ns.length L.cap) ∧ x.cell? ⟨bk, ok + m, none⟩ = some (.int .i64 (c : Int)) ∧ x.cell? ⟨bn, off + c * 5 + 2, none⟩ = some (.string u)) (first | go_keep | (go_split_ands; exact ⟨cellB hb3 (by omega) (by assumption), cellB hb3 (by omega) (by assumption), cellB hb3 (by omega) (by assumption)⟩)) ((refine step_appStr _ (by rfl) _ _ (by rfl) w1.heap.size wd.heap.size _ zs u (by rfl) (((unhide HSD).later (Below.refl wd.heap.size wd).drew).alloc _) (by rfl) (by simp) (by simp; omega) (by omega) ?_; intro v3 w3 hS3 hb3))
        have HS3 : Hid (StrBuf w3 w1.heap.size v3 ((fnsIn ns (ks.take (m + 1))).map (textAt ns))) := hide (by rw [← unhide HTK]; exact hS3)
        have HB3 : Hid (Below w1.heap.size w1 w3) := hide (((unhide HBD).drew.alloc hwd _).trans hb3)
        clear hS3 hb3
        go_wp2
        go_roundw
        case rel => exact ⟨m + 1, by omega, by go_num, hide (unhide HS3), hide (unhide HB3)⟩
        case measure => simp [intOf]; omega
      · have HTK : Hid ((fnsIn ns (ks.take m)).map (textAt ns) = (fnsIn ns (ks.take (m + 1))).map (textAt ns)) := hide (by rw [fnsIn_no hlt (by rw [hkx]; exact h20)])
        have HS2 : Hid (StrBuf wr w1.heap.size (.slice ps ((fnsIn ns (ks.take m)).map (textAt ns)).length cs) ((fnsIn ns (ks.take (m + 1))).map (textAt ns))) := hide (by rw [← unhide HTK]; exact unhide hS)
        have e20 : (ns[c].k == 20) = false := beq_eq_false_iff_ne.2 h20
        clear hkx htx hkc HTK h20 hS
        generalize ns[c].k = nk at x0' e20
        generalize ((fnsIn ns (ks.take m)).map (textAt ns)).length = nz at HS2 hll ⊢
        go_wp2
        go_region
        all_goals go_wp2
        all_goals (go_roundw; (case rel => exact ⟨m + 1, by omega, by go_num, hide ((unhide HS2).later (Below.refl _ _).drew), hide (unhide hBx).drew⟩); (case measure => simp [intOf]; omega))
    · have HF3 : Hid (StrBuf wr w.heap.size (.slice ps ((fnsIn ns (ks.take m)).map (textAt ns)).length cs) ((fnsIn ns ks).map (textAt ns))) := hide (by
        have := unhide hS
        rw [show m = ks.length by omega, List.take_length] at this ⊢
        exact ownsRow_le this (by omega))
      have HB3 := hide ((unhide hB).trans ((unhide hBx).mono (by omega)))
      generalize ((fnsIn ns (ks.take m)).map (textAt ns)).length = nz at HF3 hll ⊢
      clear hS
      go_wp2
      go_ret2
      exact ⟨_, _, 0, rfl, unhide hD, unhide HF3, unhide HB3⟩

end Go.Proofs.YtpfglgfmebjeiaaDoor
