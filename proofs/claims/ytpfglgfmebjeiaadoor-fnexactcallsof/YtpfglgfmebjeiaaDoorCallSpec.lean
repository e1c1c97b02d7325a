/- What is called from a node on, the specification's side. -/
import Derived.Test.YtpfglgfmebjeiaaDoorScopeWalk
import Derived.Test.YtpfglgfmebjeiaaDoorByteEq
import Derived.Test.YtpfglgfmebjeiaaDoorSSize
namespace Go.Proofs.YtpfglgfmebjeiaaDoor
open Go.RowKit Go.Joins
set_option linter.unusedVariables false

/-- the first function of a name -/
def FirstFn (ns : List TN) (root : Int) (s : ByteArray) (r : Int) : Prop := (s ∉ namesF ns root ∧ r = -1) ∨ ∃ i, ∃ hi : i < (funsOf ns root).length, placeIn (namesF ns root) s = some ((i : Nat) : Int) ∧ r = (funsOf ns root)[i]
theorem fnsIn_split (ns : List TN) (ks : List Int) (m : Nat) (h : m < ks.length) (hk : kindAt ns ks[m] = 20) : fnsIn ns ks = fnsIn ns (ks.take m) ++ ks[m] :: fnsIn ns (ks.drop (m + 1)) := by
  have e : ks = ks.take m ++ ks[m] :: ks.drop (m + 1) := by simp
  conv => lhs; rw [e]
  unfold fnsIn
  rw [List.filter_append, List.filter_cons_of_pos (by rw [hk]; rfl)]
theorem FirstFn.at {ns : List TN} {root : Int} {s : ByteArray} {ks : List Int} {m : Nat} (hr : rootKids ns root = ks) (h : m < ks.length) (hk : kindAt ns ks[m] = 20) (ht : textAt ns ks[m] = s) (hn : s ∉ (fnsIn ns (ks.take m)).map (textAt ns)) : FirstFn ns root s ks[m] := by
  have e := fnsIn_split ns ks m h hk
  have ef : funsOf ns root = fnsIn ns (ks.take m) ++ ks[m] :: fnsIn ns (ks.drop (m + 1)) := by unfold funsOf; rw [hr, e]
  refine .inr ⟨(fnsIn ns (ks.take m)).length, by rw [ef]; simp, ?_, ?_⟩
  · unfold namesF
    rw [ef, List.map_append, List.map_cons, ht]
    have := placeIn_first (r := (fnsIn ns (ks.drop (m + 1))).map (textAt ns)) hn
    rw [List.length_map] at this
    exact this
  · simp [ef]
theorem FirstFn.pos {ns : List TN} {root : Int} {s : ByteArray} {r : Int} (hT : TreeOkP ns root) (h : FirstFn ns root s r) : (s ∉ namesF ns root ∧ r < 0) ∨ (s ∈ namesF ns root ∧ 0 ≤ r) := by
  rcases h with ⟨h1, rfl⟩ | ⟨i, hi, h1, rfl⟩
  · exact .inl ⟨h1, by omega⟩
  · refine .inr ⟨Classical.byContradiction fun hc => ?_, ?_⟩
    · have := placeIn_not hc; rw [h1] at this; cases this
    · obtain ⟨l, d, hT⟩ := hT
      obtain ⟨hr0, hrl, hrn⟩ := hT.root
      have hm := (fnsIn_mem.1 (List.getElem_mem hi)).1
      rw [rootKids_of (List.getElem?_eq_getElem hrn)] at hm
      exact (hT.2.1.1.kid root.toNat hrl _ (List.getElem?_eq_getElem hrn) _ hm).1
theorem FirstFn.det {ns : List TN} {root : Int} {s : ByteArray} {r r' : Int} (h : FirstFn ns root s r) (h' : FirstFn ns root s r') : r = r' := by
  rcases h with ⟨h1, rfl⟩ | ⟨i, hi, h1, rfl⟩ <;> rcases h' with ⟨g1, rfl⟩ | ⟨i', hi', g1, rfl⟩
  · rfl
  · have := placeIn_not h1; rw [g1] at this; cases this
  · have := placeIn_not g1; rw [h1] at this; cases this
  · rw [h1] at g1
    have : i = i' := by injection g1 with g1; omega
    subst this; rfl

set_option maxHeartbeats 2000000 in
set_option maxRecDepth 100000 in
theorem l04Func_any (ns : List TN) (root : Int) (s : ByteArray) (L : Lay) (w : World) (hN : NodesAt w L ns) (hsm : Small ns) (hT : TreeOkP ns root) :
    Calls Tryd.prog 65 #[.agg #[.slice L.p ns.length L.cap, .int .i64 root], .string s] w fun e w' => ∃ r, e = .returned (.int .i64 r) ∧ FirstFn ns root s r ∧ Below w.heap.size w w' := by
  obtain ⟨l, d, hT⟩ := hT
  obtain ⟨hr0, hrl, hrn⟩ := hT.root
  obtain ⟨a, rfl⟩ : ∃ a : Nat, root = (a : Int) := ⟨root.toNat, by omega⟩
  rw [Int.toNat_natCast] at hrl hrn
  have hr : ns[(a : Int).toNat]? = some ns[a] := by rw [Int.toNat_natCast]; exact List.getElem?_eq_getElem hrn
  have hl := hsm.1
  have hkl : ns[a].kids.length ≤ 1048576 := (hsm.2 ns[a] (List.getElem_mem hrn)).2.2.1
  have HRK := hide (rootKids_of hr)
  have HKD : Hid (∀ j ∈ ns[a].kids, ∃ c : Nat, j = (c : Int) ∧ c < ns.length) := hide (fun j hj => by
    obtain ⟨h0, hm⟩ := hT.2.1.1.kid a hrl ns[a] (List.getElem?_eq_getElem hrn) j hj
    exact ⟨j.toNat, by omega, hT.2.1.1.lt _ hm⟩)
  obtain ⟨bn, off, hp, _⟩ := hN a hrn
  rw [hp]
  obtain ⟨bn', off', hp', q0, q1, q2, q3, q4, q5, q6⟩ := hN.later (nx_alloc w (.cells #[.slice (some ⟨bn, off, none⟩) ns.length L.cap, .int .i64 (a : Int)] 25)) a hrn
  rw [hp] at hp'
  obtain ⟨rfl, rfl⟩ := (by simpa using hp' : bn = bn' ∧ off = off')
  have HQ6 := hide q6
  have HNx := hide (hN.later (nx_alloc w (.cells #[.slice (some ⟨bn, off, none⟩) ns.length L.cap, .int .i64 (a : Int)] 25)))
  have d0 : (w.alloc (.cells #[.slice (some ⟨bn, off, none⟩) ns.length L.cap, .int .i64 (a : Int)] 25)).cell? ⟨w.heap.size, 0, none⟩ = some (.slice (some ⟨bn, off, none⟩) ns.length L.cap) := by simp
  have d1 : (w.alloc (.cells #[.slice (some ⟨bn, off, none⟩) ns.length L.cap, .int .i64 (a : Int)] 25)).cell? ⟨w.heap.size, 1, none⟩ = some (.int .i64 (a : Int)) := by simp
  clear hT hr hr0 hrl q0 q1 q2 q3 q5 q6 hN hsm
  generalize ns[a].kids = ks at q4 HQ6 hkl HKD HRK
  generalize L.pk a = pk at q4 HQ6
  generalize L.ck a = ck at q4
  have HB0 := hide (nx_alloc w (.cells #[.slice (some ⟨bn, off, none⟩) ns.length L.cap, .int .i64 (a : Int)] 25))
  go_enter Tryd.func65, Tryd.ntmps65
  go_wp2
  generalize w.alloc (.cells #[.slice (some ⟨bn, off, none⟩) ns.length L.cap, .int .i64 (a : Int)] 25) = w1 at d0 d1 q4 HQ6 HNx HB0 ⊢
  go_loopw [6] (fun i wx => ∃ m : Nat, m ≤ ks.length ∧ i = .int .i64 m ∧ Hid (s ∉ (fnsIn ns (ks.take m)).map (textAt ns)) ∧ Hid (wx.heap = w1.heap) ∧ Hid (Below w.heap.size w wx)) (fun i _ => ks.length - (intOf i).toNat)
  case atStart => exact ⟨0, by omega, rfl, hide (by simp [fnsIn]), hide rfl, HB0⟩
  case round =>
    obtain ⟨m, hm, rfl, hnm, hhp, hBx⟩ := hrel
    have hce : ∀ a : Addr, wr.cell? a = w1.cell? a := fun a => by unfold World.cell?; rw [unhide hhp]
    by_cases hlt : m < ks.length
    · obtain ⟨bk, ok, hpk, y0⟩ := unhide HQ6 m hlt
      subst hpk
      obtain ⟨c, hkc, hcl⟩ := unhide HKD ks[m] (List.getElem_mem hlt)
      obtain ⟨bn2, off2, hp2, x0, x1, x2, x3, x4, x5, x6⟩ := unhide HNx c hcl
      rw [hp] at hp2
      obtain ⟨rfl, rfl⟩ := (by simpa using hp2 : bn = bn2 ∧ off = off2)
      have hkx : kindAt ns ks[m] = ns[c].k := kindAt_of (by rw [hkc, Int.toNat_natCast]; exact List.getElem?_eq_getElem hcl)
      have htx : textAt ns ks[m] = ns[c].t := textAt_of (by rw [hkc, Int.toNat_natCast]; exact List.getElem?_eq_getElem hcl)
      have d0' := (hce _).trans d0
      have y0' := (hce _).trans y0
      have x0' := (hce _).trans x0
      have x2' := (hce _).trans x2
      have hc0 : (0 : Int) ≤ (c : Int) := Int.natCast_nonneg _
      have hc1 : (c : Int) < (ns.length : Int) := by omega
      have hm0 : (0 : Int) ≤ (m : Int) := Int.natCast_nonneg _
      have hm1 : (m : Int) < (ks.length : Int) := by omega
      have HFS : Hid (kindAt ns ks[m] = 20 → textAt ns ks[m] = s → FirstFn ns (a : Int) s (c : Int)) := hide (fun h1 h2 => by
        rw [← hkc]
        exact FirstFn.at (unhide HRK) hlt h1 h2 (unhide hnm))
      have HNY : Hid (kindAt ns ks[m] ≠ 20 ∨ textAt ns ks[m] ≠ s → s ∉ (fnsIn ns (ks.take (m + 1))).map (textAt ns)) := hide (fun h => by
        by_cases h20 : kindAt ns ks[m] = 20
        · rw [fnsIn_yes hlt h20, List.map_append]
          intro hm
          rcases List.mem_append.1 hm with hm | hm
          · exact unhide hnm hm
          · rcases h with h | h
            · exact h h20
            · exact h (List.mem_singleton.1 hm).symm
        · rw [fnsIn_no hlt h20]
          exact unhide hnm)
      rw [hkx, htx] at HFS HNY
      rw [hkc] at y0'
      have DHP : Hid (wr.drew.heap = w1.heap) := hide (unhide hhp)
      have DB : Hid (Below w.heap.size w wr.drew) := hide (unhide hBx).drew
      clear x1 x3 x4 x5 x6 x0 x2 y0 hp2 hkx htx hce
      generalize ns[c].k = nk at x0' HFS HNY
      generalize ns[c].t = nt at x2' HFS HNY
      by_cases h20 : nk = 20
      · subst h20
        by_cases ht : nt = s
        · subst ht
          have e1 := ba_self nt
          have e2 := bl_self nt
          have hd := hide (unhide HFS rfl rfl)
          clear HFS HNY hkc
          go_wp2
          go_region
          all_goals go_wp2
          all_goals go_ret
          all_goals exact ⟨_, rfl, unhide hd, unhide DB⟩
        · have e1 := ba_ne ht
          have e2 := bl_ne ht
          have hd := hide (unhide HNY (.inr ht))
          clear HFS HNY hkc ht
          go_wp2
          go_region
          all_goals go_wp2
          all_goals (go_roundw; (case rel => exact ⟨m + 1, by omega, by go_num, hide (unhide hd), hide (unhide DHP), hide (unhide DB)⟩); (case measure => simp [intOf]; omega))
      · have e20 : (nk == 20) = false := beq_eq_false_iff_ne.2 h20
        have hd := hide (unhide HNY (.inl h20))
        clear HFS HNY hkc h20
        go_wp2
        go_region
        all_goals go_wp2
        all_goals (go_roundw; (case rel => exact ⟨m + 1, by omega, by go_num, hide (unhide hd), hide (unhide DHP), hide (unhide DB)⟩); (case measure => simp [intOf]; omega))
    · have hd : Hid (FirstFn ns (a : Int) s (-1)) := hide (.inl ⟨by
        have := unhide hnm
        rw [show m = ks.length by omega, List.take_length] at this
        unfold namesF funsOf
        rw [unhide HRK]; exact this, rfl⟩)
      go_wp2
      go_ret
      exact ⟨-1, rfl, unhide hd, unhide hBx⟩

set_option maxHeartbeats 8000000 in
set_option maxRecDepth 100000 in
theorem l04Calls_any (ns : List TN) (root : Int) (L : Lay) (hsm : Hid (Small ns)) (hT : Hid (TreeOkP ns root)) : ∀ (D d a : Nat) (l : List Nat) (acc : List ByteArray) (base : Nat) (v : Value) (w : World), d ≤ D → Vis ns [(a : Int)] l d → acc.length + l.length ≤ 1000 → NodesAt w L ns → StrBuf w base v acc → base ≤ w.heap.size →
    Calls Tryd.prog 62 #[.agg #[.slice L.p ns.length L.cap, .int .i64 root], .int .i64 (a : Int), v] w fun e w' => ∃ v' acc', e = .returned v' ∧ NodeC ns (fun s => s ∈ namesF ns root) (a : Int) acc acc' ∧ StrBuf w' base v' acc' ∧ Below w.heap.size w w' := by
  intro D
  induction D with
  | zero =>
    intro d a l acc base v w hd hv
    obtain ⟨_, _, _, _, _, _, _, _, _, _, rfl⟩ := hv.inv
    omega
  | succ D ih =>
    intro d a l acc base v w hd hv hlen hN hS hbase
    obtain ⟨nd, l1, l2, d1, d2, h0, hx, v1, v2, rfl, rfl⟩ := hv.inv
    cases v2
    rw [Int.toNat_natCast] at hx
    rw [List.append_nil] at hlen
    have hd' : d1 ≤ D := by omega
    have hl1 : acc.length + l1.length + 1 ≤ 1000 := by rw [List.length_cons] at hlen; omega
    obtain ⟨ha, hxe⟩ := List.getElem?_eq_some_iff.1 hx
    obtain ⟨pa, cap, rfl⟩ := hS.slice
    obtain ⟨bn, off, hp, q0, q1, q2, q3, q4, q5, q6⟩ := hN a ha
    rw [hxe] at q0 q1 q2 q3 q4 q6
    have IH := hide ih
    have HV := hide v1
    have hnl := (unhide hsm).1
    have hkl : nd.kids.length ≤ 1048576 := ((unhide hsm).2 nd (List.mem_of_getElem? hx)).2.2.1
    have htl : nd.t.size ≤ 1048576 := ((unhide hsm).2 nd (List.mem_of_getElem? hx)).1
    have HN := hide hN
    have HS := hide hS
    have HQ6 := hide q6
    have HR : Hid (∀ a1 a2, CallsR ns (fun s => s ∈ namesF ns root) nd.kids acc a1 → addC (fun s => s ∈ namesF ns root) nd a1 a2 → NodeC ns (fun s => s ∈ namesF ns root) (a : Int) acc a2) := hide (fun a1 a2 h1 h2 => ⟨nd, a1, by omega, by rw [Int.toNat_natCast]; exact hx, h1, h2⟩)
    rw [hp]
    rw [hp] at IH
    have hbl : bn < w.heap.size := World.block_lt_of_cell? _ _ q0
    clear ih v1 hv hN hS hx hlen hd q5 q6 hxe
    generalize L.pn a = pn at q3
    generalize L.cn a = cn at q3
    generalize L.pk a = pk at q4 HQ6
    generalize L.ck a = ck at q4
    generalize hnn : nd.names.length = nn at q3
    clear hnn
    have T0 : Hid (((w.alloc (.cells #[.slice (some ⟨bn, off, none⟩) ns.length L.cap, .int .i64 root] 25)).alloc (.cells #[.int .i64 nd.k, .int .i64 nd.n, .string nd.t, .slice pn nn cn, .slice pk nd.kids.length ck] 36)).cell? ⟨w.heap.size, 0, none⟩ = some (.slice (some ⟨bn, off, none⟩) ns.length L.cap)) := hide (cell_later (nx_alloc _ _) (by simp))
    have T1 : Hid (((w.alloc (.cells #[.slice (some ⟨bn, off, none⟩) ns.length L.cap, .int .i64 root] 25)).alloc (.cells #[.int .i64 nd.k, .int .i64 nd.n, .string nd.t, .slice pn nn cn, .slice pk nd.kids.length ck] 36)).cell? ⟨w.heap.size, 1, none⟩ = some (.int .i64 root)) := hide (cell_later (nx_alloc _ _) (by simp))
    have N0 : Hid (((w.alloc (.cells #[.slice (some ⟨bn, off, none⟩) ns.length L.cap, .int .i64 root] 25)).alloc (.cells #[.int .i64 nd.k, .int .i64 nd.n, .string nd.t, .slice pn nn cn, .slice pk nd.kids.length ck] 36)).cell? ⟨w.heap.size + 1, 0, none⟩ = some (.int .i64 nd.k)) := hide (by simp)
    have N2 : Hid (((w.alloc (.cells #[.slice (some ⟨bn, off, none⟩) ns.length L.cap, .int .i64 root] 25)).alloc (.cells #[.int .i64 nd.k, .int .i64 nd.n, .string nd.t, .slice pn nn cn, .slice pk nd.kids.length ck] 36)).cell? ⟨w.heap.size + 1, 2, none⟩ = some (.string nd.t)) := hide (by simp)
    have N4 : Hid (((w.alloc (.cells #[.slice (some ⟨bn, off, none⟩) ns.length L.cap, .int .i64 root] 25)).alloc (.cells #[.int .i64 nd.k, .int .i64 nd.n, .string nd.t, .slice pn nn cn, .slice pk nd.kids.length ck] 36)).cell? ⟨w.heap.size + 1, 4, none⟩ = some (.slice pk nd.kids.length ck)) := hide (by simp)
    have HB0 : Hid (Below w.heap.size w ((w.alloc (.cells #[.slice (some ⟨bn, off, none⟩) ns.length L.cap, .int .i64 root] 25)).alloc (.cells #[.int .i64 nd.k, .int .i64 nd.n, .string nd.t, .slice pn nn cn, .slice pk nd.kids.length ck] 36))) := hide (nx_al (nx_alloc _ _))
    have hs0 : Hid (((w.alloc (.cells #[.slice (some ⟨bn, off, none⟩) ns.length L.cap, .int .i64 root] 25)).alloc (.cells #[.int .i64 nd.k, .int .i64 nd.n, .string nd.t, .slice pn nn cn, .slice pk nd.kids.length ck] 36)).heap.size = w.heap.size + 1 + 1) := hide (by simp)
    go_enter Tryd.func62, Tryd.ntmps62
    go_wp2
    generalize ((w.alloc (.cells #[.slice (some ⟨bn, off, none⟩) ns.length L.cap, .int .i64 root] 25)).alloc (.cells #[.int .i64 nd.k, .int .i64 nd.n, .string nd.t, .slice pn nn cn, .slice pk nd.kids.length ck] 36)) = w0 at T0 T1 N0 N2 N4 HB0 hs0 ⊢
    go_loopw [2, 8] (fun s i wx => ∃ (m : Nat) (am : List ByteArray) (lm : List Nat) (dm : Nat), m ≤ nd.kids.length ∧ i = .int .i64 m ∧ am.length ≤ acc.length + lm.length ∧ lm.length ≤ l1.length ∧ Hid (Vis ns (nd.kids.take m) lm dm) ∧ Hid (CallsR ns (fun s => s ∈ namesF ns root) (nd.kids.take m) acc am) ∧ Hid (StrBuf wx base s am) ∧ Hid (Below w0.heap.size w0 wx)) (fun _ i _ => nd.kids.length - (intOf i).toNat)
    case atStart => exact ⟨0, acc, [], 0, by omega, rfl, by simp, by simp, hide (by simpa using Vis.nil), hide (by simpa using CallsR.nil _), hide ((unhide HS).later (unhide HB0)), hide (Below.refl _ _)⟩
    case round =>
      obtain ⟨m, am, lm, dm, hm, rfl, ham, hlm, hvm, hcr, hSx, hBx⟩ := hrel
      obtain ⟨ps, cs, rfl⟩ := (unhide hSx).slice
      have hw0 := unhide hs0
      have hsz : w0.heap.size ≤ wr.heap.size := (unhide hBx).size
      have hsz2 : w.heap.size + 1 + 1 ≤ wr.heap.size := by omega
      have t0 := cell_later (unhide hBx) (unhide T0)
      have t1 := cell_later (unhide hBx) (unhide T1)
      have n0 := cell_later (unhide hBx) (unhide N0)
      have n2 := cell_later (unhide hBx) (unhide N2)
      have n4 := cell_later (unhide hBx) (unhide N4)
      have hBw : Hid (Below w.heap.size w wr) := hide (nx_trans (unhide HB0) (unhide hBx))
      have haml : am.length ≤ 1000 := by omega
      clear hw0
      by_cases hlt : m < nd.kids.length
      · obtain ⟨bk, ok, hpk, y1⟩ := unhide HQ6 m hlt
        subst hpk
        have y0 := cell_later (unhide hBw) y1
        clear y1
        have hj : Hid (nd.kids[m]? = some nd.kids[m]) := hide (List.getElem?_eq_getElem hlt)
        obtain ⟨lj, dj, vj, hlj, hdj, hj0, hll⟩ := (unhide HV).at (unhide hj)
        have hjx : nd.kids[m] = ((nd.kids[m].toNat : Nat) : Int) := (Int.toNat_of_nonneg hj0).symm
        have hnv := hide ((unhide hvm).take_succ (unhide hj) vj)
        have hle2 : (lm ++ lj).length ≤ l1.length := (unhide HV).take_len (m + 1) (unhide hnv)
        have hap : (lm ++ lj).length = lm.length + lj.length := List.length_append
        obtain ⟨y, _, _, _, _, _, hy, _⟩ := vj.inv
        have hcl : nd.kids[m].toNat < ns.length := (List.getElem?_eq_some_iff.1 hy).1
        have hye : ns[nd.kids[m].toNat] = y := (List.getElem?_eq_some_iff.1 hy).2
        obtain ⟨bn2, off2, hp2, x0, _⟩ := (unhide HN).later (unhide hBw) nd.kids[m].toNat hcl
        rw [hp] at hp2
        obtain ⟨rfl, rfl⟩ := (by simpa using hp2 : bn = bn2 ∧ off = off2)
        rw [hye] at x0
        have HSY : Hid (y.k = 20 → CallsR ns (fun s => s ∈ namesF ns root) (nd.kids.take (m + 1)) acc am) := hide (fun h => (unhide hcr).snoc_yes hlt hj0 hy h)
        have HSN : Hid (y.k ≠ 20 → ∀ a2, NodeC ns (fun s => s ∈ namesF ns root) nd.kids[m] am a2 → CallsR ns (fun s => s ∈ namesF ns root) (nd.kids.take (m + 1)) acc a2) := hide (fun h a2 h2 => (unhide hcr).snoc_no hlt hj0 hy h h2)
        have HLN : Hid (∀ a2, NodeC ns (fun s => s ∈ namesF ns root) nd.kids[m] am a2 → a2.length ≤ am.length + lj.length) := hide (fun a2 h => by
          obtain ⟨a3, h3, _, hu⟩ := NodeC.ex (fun s => s ∈ namesF ns root) vj am
          rw [h.det h3]; exact hu)
        have HC := hide (fun wx (hb : Below wr.heap.size wr wx) => unhide IH dj nd.kids[m].toNat lj am base (.slice ps am.length cs) wx (by omega) (by rw [← hjx]; exact vj) (by omega) ((unhide HN).later (nx_trans (unhide hBw) hb)) ((unhide hSx).later hb) (by have := hb.size; omega))
        rw [← hjx] at HC
        generalize hkj : nd.kids[m].toNat = c at x0 hcl hjx
        rw [hjx] at y0 HC HSN HLN
        have hc0 : (0 : Int) ≤ (c : Int) := Int.natCast_nonneg _
        have hc1 : (c : Int) < (ns.length : Int) := by omega
        have hm0 : (0 : Int) ≤ (m : Int) := Int.natCast_nonneg _
        have hm1 : (m : Int) < (nd.kids.length : Int) := by omega
        clear vj hlj hjx hj hcr hp2 hye hy hkj hj0
        generalize y.k = yk at x0 HSY HSN
        by_cases h20 : yk = 20
        · have HCR := hide (unhide HSY h20)
          subst h20
          clear HSY HSN HLN HC
          go_wp2
          go_region
          all_goals go_wp2
          all_goals (go_roundw; (case rel => exact ⟨m + 1, am, lm ++ lj, _, by omega, by go_num, by omega, hle2, hide (unhide hnv), hide (unhide HCR), hide ((unhide hSx).later (nx_drew (Below.refl wr.heap.size wr))), hide (unhide hBx).drew⟩); (case measure => simp [intOf]; omega))
        · have e20 : (yk != 20) = true := by simp [h20]
          have HSN2 := hide (unhide HSN h20)
          clear HSY HSN h20
          have T0D := hide (show wr.drew.cell? ⟨w.heap.size, 0, none⟩ = some (.slice (some ⟨bn, off, none⟩) ns.length L.cap) from t0)
          have T1D := hide (show wr.drew.cell? ⟨w.heap.size, 1, none⟩ = some (.int .i64 root) from t1)
          have N4D := hide (show wr.drew.cell? ⟨w.heap.size + 1, 4, none⟩ = some (.slice (some ⟨bk, ok, none⟩) nd.kids.length ck) from n4)
          have Y0D := hide (show wr.drew.cell? ⟨bk, ok + m, none⟩ = some (.int .i64 (c : Int)) from y0)
          have HCD := hide (unhide HC wr.drew.drew (nx_drew (nx_drew (Below.refl wr.heap.size wr))))
          have HBD := hide (unhide hBx).drew
          go_wp2
          go_region
          clear HC t0 t1 n0 n2 n4 y0 x0 hSx hBx hBw
          generalize wr.drew = wd at T0D T1D N4D Y0D HCD HBD ⊢
          have f0 := unhide T0D
          have f1 := unhide T1D
          have f2 := unhide N4D
          have f3 := unhide Y0D
          have E0 := hide (show wd.drew.cell? ⟨w.heap.size, 0, none⟩ = some (.slice (some ⟨bn, off, none⟩) ns.length L.cap) from f0)
          have E1 := hide (show wd.drew.cell? ⟨w.heap.size, 1, none⟩ = some (.int .i64 root) from f1)
          have E2 := hide (show wd.drew.cell? ⟨w.heap.size + 1, 4, none⟩ = some (.slice (some ⟨bk, ok, none⟩) nd.kids.length ck) from f2)
          have E3 := hide (show wd.drew.cell? ⟨bk, ok + m, none⟩ = some (.int .i64 (c : Int)) from f3)
          go_wp2
          go_region_held3 (fun z => z.cell? ⟨w.heap.size, 0, none⟩ = some (.slice (some ⟨bn, off, none⟩) ns.length L.cap) ∧ z.cell? ⟨w.heap.size, 1, none⟩ = some (.int .i64 root) ∧ z.cell? ⟨w.heap.size + 1, 4, none⟩ = some (.slice (some ⟨bk, ok, none⟩) nd.kids.length ck) ∧ z.cell? ⟨bk, ok + m, none⟩ = some (.int .i64 (c : Int))) (go_keep) ((go_at_call 62; refine (unhide HCD).mono ?_; rintro e y ⟨v2, a2, rfl, hN2, hS2, hby⟩; have z0 := cell_later hby (unhide E0); have z1 := cell_later hby (unhide E1); have z2 := cell_later hby (unhide E2); have z3 := cell_later hby (unhide E3); have HN2 := hide hN2; have HS2 := hide hS2; have HBY := hide hby; clear hby hN2 hS2))
          have HCR := hide (unhide HSN2 a2 (unhide HN2))
          have hl2 := unhide HLN a2 (unhide HN2)
          have HB2 : Hid (Below w0.heap.size w0 y) := hide (nx_trans (nx_drew (unhide HBD)) (unhide HBY))
          clear HN2 HCD HSN2 HLN HBY
          go_wp2
          go_roundw
          case rel => exact ⟨m + 1, a2, lm ++ lj, _, by omega, by go_num, by omega, hle2, hide (unhide hnv), hide (unhide HCR), hide (unhide HS2), hide (unhide HB2)⟩
          case measure => simp [intOf]; omega
      · have hmm : m = nd.kids.length := by omega
        have HCR : Hid (CallsR ns (fun s => s ∈ namesF ns root) nd.kids acc am) := hide (by
          have := unhide hcr
          rw [hmm, List.take_length] at this
          exact this)
        have HFX : Hid (¬ (nd.k = 10 ∧ nd.t ∈ namesF ns root ∧ nd.t ∉ am) → NodeC ns (fun s => s ∈ namesF ns root) (a : Int) acc am) := hide (fun h => unhide HR am am (unhide HCR) (.inr ⟨h, rfl⟩))
        have HFY : Hid ((nd.k = 10 ∧ nd.t ∈ namesF ns root ∧ nd.t ∉ am) → NodeC ns (fun s => s ∈ namesF ns root) (a : Int) acc (am ++ [nd.t])) := hide (fun h => unhide HR am _ (unhide HCR) (.inl ⟨h, rfl⟩))
        clear hcr HCR hvm HR IH
        by_cases h10 : nd.k = 10
        · have HC := hide (l04Func_any ns root nd.t L wr ((unhide HN).later (unhide hBw)) (unhide hsm) (unhide hT))
          rw [hp] at HC
          rw [h10] at n0
          go_wp2_with fail
          refine (unhide HC).mono ?_
          rintro e w2 ⟨r, rfl, hr, hb2⟩
          have n2' := cell_later hb2 n2
          have HB2 := hide (nx_trans (unhide hBw) hb2)
          have HS2 := hide ((unhide hSx).later hb2)
          have hw2 := hb2.size
          clear hb2 HC
          rcases hr.pos (unhide hT) with ⟨hni, hr0⟩ | ⟨hin, hr0⟩
          · have HD := hide (unhide HFX (fun h => hni h.2.1))
            clear hni HFX HFY hr h10
            go_wp2
            go_ret
            exact ⟨_, am, rfl, unhide HD, unhide HS2, unhide HB2⟩
          · have hr1 : ¬ r < 0 := by omega
            have HIN := hide hin
            clear hin hr t0 t1 n0 n2 n4 hSx hBx hBw
            go_wp2
            go_loopw [9] (fun i wx => ∃ k : Nat, k ≤ am.length ∧ i = .int .i64 k ∧ Hid (nd.t ∉ am.take k) ∧ Hid (Below w.heap.size w wx) ∧ Hid (StrBuf wx base (.slice ps am.length cs) am) ∧ Hid (wx.cell? ⟨w.heap.size + 1, 2, none⟩ = some (.string nd.t)) ∧ Hid (w.heap.size + 1 + 1 ≤ wx.heap.size)) (fun i _ => am.length - (intOf i).toNat)
            case atStart => exact ⟨0, by omega, rfl, hide (by simp), hide (unhide HB2), hide (unhide HS2), hide n2', hide (by omega)⟩
            case round =>
              clear HB2 HS2 n2'
              obtain ⟨k, hk, rfl, hnk, hB3, hS3, hn3, hz3⟩ := hrel
              have m2 := unhide hn3
              by_cases hlt2 : k < am.length
              · obtain ⟨a', c', ea, hst⟩ := (unhide hS3).strs
                injection ea with ea _ ec
                subst ea ec
                obtain ⟨bu, ou, rfl, u0⟩ := hst k hlt2
                have HUM := hide (List.getElem_mem hlt2)
                have HUT := hide (List.take_succ_eq_append_getElem hlt2)
                have hk0 : (0 : Int) ≤ (k : Int) := Int.natCast_nonneg _
                have hk1 : (k : Int) < (am.length : Int) := by omega
                generalize am[k] = u at u0 HUM HUT
                clear hst
                by_cases hu : u = nd.t
                · have HD := hide (unhide HFX (fun h => h.2.2 (hu ▸ unhide HUM)))
                  rw [hu] at u0
                  have e1 := ba_self nd.t
                  have e2 := bl_self nd.t
                  clear HFX HFY hu HUM HUT h10
                  generalize nd.t = nt at u0 m2 e1 e2
                  go_wp2
                  go_region
                  all_goals go_wp2
                  all_goals go_ret
                  all_goals exact ⟨_, am, rfl, unhide HD, (unhide hS3).later (nx_drew (Below.refl wr.heap.size wr)), (unhide hB3).drew⟩
                · have HD : Hid (nd.t ∉ am.take (k + 1)) := hide (by
                    rw [unhide HUT]
                    intro h
                    rcases List.mem_append.1 h with h | h
                    · exact unhide hnk h
                    · exact hu (List.mem_singleton.1 h).symm)
                  have e1 := ba_ne hu
                  have e2 := bl_ne hu
                  have HM3 : Hid (wr.drew.cell? ⟨w.heap.size + 1, 2, none⟩ = some (.string nd.t)) := hide m2
                  have HZ3 : Hid (w.heap.size + 1 + 1 ≤ wr.drew.heap.size) := hide (unhide hz3)
                  clear hu HUM HUT hn3
                  go_wp2
                  go_region
                  all_goals go_wp2
                  all_goals (go_roundw; (case rel => exact ⟨k + 1, by omega, by go_num, hide (unhide HD), hide (unhide hB3).drew, hide ((unhide hS3).later (nx_drew (Below.refl wr.heap.size wr))), hide (unhide HM3), hide (unhide HZ3)⟩); (case measure => simp [intOf]; omega))
              · have HD := hide (unhide HFY ⟨h10, unhide HIN, by
                  have := unhide hnk
                  rw [show k = am.length by omega, List.take_length] at this
                  exact this⟩)
                have hz := unhide hz3
                have hwb : w.heap.size ≤ wr.heap.size := by omega
                have hne : ¬ w.heap.size + 1 = wr.heap.size := by omega
                clear HFX HFY h10 HIN hnk hn3
                generalize nd.t = nt at m2 HD
                have LA : Hid (StrBuf (wr.drew.alloc (.cells #[] 9)) wr.heap.size (.slice (some ⟨wr.heap.size, 0, none⟩) 0 0) []) := hide (by simpa using StrBuf.lit wr.drew wr.heap.size [] (Nat.le_refl _) (by decide))
                have LC : Hid (StrBuf ((wr.drew.alloc (.cells #[.string nt] 9)).alloc (.cells #[] 9)) wr.heap.size (.slice (some ⟨wr.heap.size + 1, 0, none⟩) 0 0) []) := hide (by
                  have := StrBuf.lit (wr.drew.alloc (.cells #[.string nt] 9)) wr.heap.size [] (by simp) (by decide)
                  simpa using this)
                have SD := hide ((unhide hS3).later (nx_drew (Below.refl wr.heap.size wr)))
                have BF : Hid (∀ w4, Below wr.heap.size wr.drew w4 → Below w.heap.size w w4) := hide (fun w4 h => (unhide hB3).drew.trans (h.mono hwb))
                have hlen : (2 : Nat) ≤ 5 := by omega
                go_wp2
                go_region_held3 (fun z => z.cell? ⟨w.heap.size + 1, 2, none⟩ = some (.string nt)) (first | go_keep | exact cellB hb4 (by omega) (by assumption) | exact cellB hb3 (by omega) (by assumption)) ((first | (refine step_appBufG _ (by rfl) _ _ (by rfl) wr.heap.size base _ _ [] am (by rfl) (unhide LA) (by rfl) ((unhide SD).alloc _) (by simp) (by simp; omega) ?_; intro v3 w3 hS4 hb3 hg3) | (refine step_appBufG _ (by rfl) _ _ (by rfl) wr.heap.size base _ _ [] am (by rfl) ((unhide LA).alloc _) (by rfl) (((unhide SD).alloc _).alloc _) (by simp; omega) (by simp; omega) ?_; intro v3 w3 hS4 hb3 hg3) | (refine step_appBufG _ (by rfl) _ _ (by rfl) wr.heap.size base _ _ [] am (by rfl) (unhide LC) (by rfl) (((unhide SD).alloc _).alloc _) (by simp; omega) (by simp; omega) ?_; intro v3 w3 hS4 hb3 hg3) | (refine step_appStrG _ (by rfl) _ _ (by rfl) wr.heap.size w3.heap.size _ _ nt (by rfl) (hS4.alloc _) (by rfl) (by simp) (by have := hb3.size; simp at this ⊢; omega) (by simp; omega) ?_; intro v4 w4 hS5 hb4 hg4) | (refine step_appStrG _ (by rfl) _ _ (by rfl) wr.heap.size (wr.heap.size + 1) _ _ nt (by rfl) hS4 (by rfl) (hg3.cell (a := ⟨wr.heap.size + 1, 0, none⟩) (by simp) (by simp [Value.ownBlock])) (by have := hb3.size; simp at this ⊢; omega) (by simp; omega) ?_; intro v4 w4 hS5 hb4 hg4) | (refine step_appStrG _ (by rfl) _ _ (by rfl) wr.heap.size wr.heap.size _ _ nt (by rfl) hS4 (by rfl) (hg3.cell (a := ⟨wr.heap.size, 0, none⟩) (by simp) (by simp [Value.ownBlock])) (by have := hb3.size; simp at this ⊢; omega) (by simp; omega) ?_; intro v4 w4 hS5 hb4 hg4)))
                all_goals (
                  have hs3 := hb3.size
                  simp at hs3
                  have hB4 : Below wr.heap.size wr w4 := by
                    first
                      | exact ((((Below.refl wr.heap.size wr).alloc (Nat.le_refl _) _).drew.trans hb3).alloc (by omega) _).trans hb4
                      | exact ((((Below.refl wr.heap.size wr).alloc (Nat.le_refl _) _).alloc (by simp) _).drew.trans hb3).trans hb4
                  have HF := hide (And.intro (hS5.low (base' := base) (by omega)) ((unhide hB3).trans (hB4.mono hwb)))
                  rw [List.nil_append] at HF
                  clear hS5 hB4 hb3 hb4 hg3 hg4 hS4
                  go_wp2
                  go_ret
                  exact ⟨_, _, rfl, unhide HD, (unhide HF).1, (unhide HF).2⟩)
        · have HD := hide (unhide HFX (fun h => h10 h.1))
          have e10 : (nd.k != 10) = true := by simp [h10]
          clear h10 HFX HFY
          go_wp2
          go_ret
          exact ⟨_, am, rfl, unhide HD, unhide hSx, unhide hBw⟩

end Go.Proofs.YtpfglgfmebjeiaaDoor
