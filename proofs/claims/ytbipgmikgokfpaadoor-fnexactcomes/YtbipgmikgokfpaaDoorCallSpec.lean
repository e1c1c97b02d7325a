/- What is called from a node on, the specification's side. -/
import Derived.Test.YtbipgmikgokfpaaDoorScopeWalk
import Derived.Test.YtbipgmikgokfpaaDoorByteEq
import Derived.Test.YtbipgmikgokfpaaDoorSSize
import Derived.Test.YtbipgmikgokfpaaDoorCallWalk1
import Derived.Test.YtbipgmikgokfpaaDoorStrBuf
import Derived.WalkMore
namespace Go.Proofs.YtbipgmikgokfpaaDoor
open Go.RowKit Go.Joins
set_option linter.unusedVariables false

/-- the first function of a name -/
def FirstFn (ns : List TN) (root : Int) (s : ByteArray) (r : Int) : Prop := (s ∉ namesF ns root ∧ r = -1) ∨ ∃ i, ∃ hi : i < (funsOf ns root).length, placeIn (namesF ns root) s = some ((i : Nat) : Int) ∧ r = (funsOf ns root)[i]
theorem fnsIn_split (ns : List TN) (ks : List Int) (m : Nat) (h : m < ks.length) (hk : kindAt ns ks[m] = 20) : fnsIn ns ks = fnsIn ns (ks.take m) ++ ks[m] :: fnsIn ns (ks.drop (m + 1)) := by
  have e : ks = ks.take m ++ ks[m] :: ks.drop (m + 1) := by simp
  conv => lhs; rw [e]
  unfold fnsIn
  rw [List.filter_append, List.filter_cons_of_pos (by rw [hk]; rfl)]
theorem FirstFn.at {ns : List TN} {root : Int} {s : ByteArray} {ks : List Int} {m : Nat} (hr : rootKids ns root = ks) (h : m < ks.length) (hk : kindAt ns ks[m] = 20) (ht : textAt ns ks[m] = s) (hn : s ∉ (fnsIn ns (ks.take m)).map (textAt ns)) : FirstFn ns root s ks[m] := by
  have e := fnsIn_split ns ks m h hk
  have ef : funsOf ns root = fnsIn ns (ks.take m) ++ ks[m] :: fnsIn ns (ks.drop (m + 1)) := by unfold funsOf; rw [hr, e]
  refine .inr ⟨(fnsIn ns (ks.take m)).length, by rw [ef]; simp, ?_, ?_⟩
  · unfold namesF
    rw [ef, List.map_append, List.map_cons, ht]
    have := placeIn_first (r := (fnsIn ns (ks.drop (m + 1))).map (textAt ns)) hn
    rw [List.length_map] at this
    exact this
  · simp [ef]
theorem FirstFn.pos {ns : List TN} {root : Int} {s : ByteArray} {r : Int} (hT : TreeOkP ns root) (h : FirstFn ns root s r) : (s ∉ namesF ns root ∧ r < 0) ∨ (s ∈ namesF ns root ∧ 0 ≤ r) := by
  rcases h with ⟨h1, rfl⟩ | ⟨i, hi, h1, rfl⟩
  · exact .inl ⟨h1, by omega⟩
  · refine .inr ⟨Classical.byContradiction fun hc => ?_, ?_⟩
    · have := placeIn_not hc; rw [h1] at this; cases this
    · obtain ⟨l, d, hT⟩ := hT
      obtain ⟨hr0, hrl, hrn⟩ := hT.root
      have hm := (fnsIn_mem.1 (List.getElem_mem hi)).1
      rw [rootKids_of (List.getElem?_eq_getElem hrn)] at hm
      exact (hT.2.1.1.kid root.toNat hrl _ (List.getElem?_eq_getElem hrn) _ hm).1
theorem FirstFn.det {ns : List TN} {root : Int} {s : ByteArray} {r r' : Int} (h : FirstFn ns root s r) (h' : FirstFn ns root s r') : r = r' := by
  rcases h with ⟨h1, rfl⟩ | ⟨i, hi, h1, rfl⟩ <;> rcases h' with ⟨g1, rfl⟩ | ⟨i', hi', g1, rfl⟩
  · rfl
  · have := placeIn_not h1; rw [g1] at this; cases this
  · have := placeIn_not g1; rw [h1] at this; cases this
  · rw [h1] at g1
    have : i = i' := by injection g1 with g1; omega
    subst this; rfl

set_option maxHeartbeats 2000000 in
set_option maxRecDepth 100000 in
theorem l04Func_any (ns : List TN) (root : Int) (s : ByteArray) (L : Lay) (w : World) (hN : NodesAt w L ns) (hsm : Small ns) (hT : TreeOkP ns root) :
    Calls Tryd.prog 83 #[.agg #[.slice L.p ns.length L.cap, .int .i64 root], .string s] w fun e w' => ∃ r, e = .returned (.int .i64 r) ∧ FirstFn ns root s r ∧ Below w.heap.size w w' := by
  obtain ⟨l, d, hT⟩ := hT
  obtain ⟨hr0, hrl, hrn⟩ := hT.root
  obtain ⟨a, rfl⟩ : ∃ a : Nat, root = (a : Int) := ⟨root.toNat, by omega⟩
  rw [Int.toNat_natCast] at hrl hrn
  have hr : ns[(a : Int).toNat]? = some ns[a] := by rw [Int.toNat_natCast]; exact List.getElem?_eq_getElem hrn
  have hl := hsm.1
  have hkl : ns[a].kids.length ≤ 1048576 := (hsm.2 ns[a] (List.getElem_mem hrn)).2.2.1
  have HRK := hide (rootKids_of hr)
  have HKD : Hid (∀ j ∈ ns[a].kids, ∃ c : Nat, j = (c : Int) ∧ c < ns.length) := hide (fun j hj => by
    obtain ⟨h0, hm⟩ := hT.2.1.1.kid a hrl ns[a] (List.getElem?_eq_getElem hrn) j hj
    exact ⟨j.toNat, by omega, hT.2.1.1.lt _ hm⟩)
  obtain ⟨bn, off, hp, _⟩ := hN a hrn
  rw [hp]
  obtain ⟨bn', off', hp', q0, q1, q2, q3, q4, q5, q6⟩ := hN.later (nx_alloc w (.cells #[.slice (some ⟨bn, off, none⟩) ns.length L.cap, .int .i64 (a : Int)] 25)) a hrn
  rw [hp] at hp'
  obtain ⟨rfl, rfl⟩ := (by simpa using hp' : bn = bn' ∧ off = off')
  have HQ6 := hide q6
  have HNx := hide (hN.later (nx_alloc w (.cells #[.slice (some ⟨bn, off, none⟩) ns.length L.cap, .int .i64 (a : Int)] 25)))
  have d0 : (w.alloc (.cells #[.slice (some ⟨bn, off, none⟩) ns.length L.cap, .int .i64 (a : Int)] 25)).cell? ⟨w.heap.size, 0, none⟩ = some (.slice (some ⟨bn, off, none⟩) ns.length L.cap) := by simp
  have d1 : (w.alloc (.cells #[.slice (some ⟨bn, off, none⟩) ns.length L.cap, .int .i64 (a : Int)] 25)).cell? ⟨w.heap.size, 1, none⟩ = some (.int .i64 (a : Int)) := by simp
  clear hT hr hr0 hrl q0 q1 q2 q3 q5 q6 hN hsm
  generalize ns[a].kids = ks at q4 HQ6 hkl HKD HRK
  generalize L.pk a = pk at q4 HQ6
  generalize L.ck a = ck at q4
  have HB0 := hide (nx_alloc w (.cells #[.slice (some ⟨bn, off, none⟩) ns.length L.cap, .int .i64 (a : Int)] 25))
  go_enter Tryd.func83, Tryd.ntmps83
  go_wp2
  generalize w.alloc (.cells #[.slice (some ⟨bn, off, none⟩) ns.length L.cap, .int .i64 (a : Int)] 25) = w1 at d0 d1 q4 HQ6 HNx HB0 ⊢
  go_loopw [6] (fun i wx => ∃ m : Nat, m ≤ ks.length ∧ i = .int .i64 m ∧ Hid (s ∉ (fnsIn ns (ks.take m)).map (textAt ns)) ∧ Hid (wx.heap = w1.heap) ∧ Hid (Below w.heap.size w wx)) (fun i _ => ks.length - (intOf i).toNat)
  case atStart => exact ⟨0, by omega, rfl, hide (by simp [fnsIn]), hide rfl, HB0⟩
  case round =>
    obtain ⟨m, hm, rfl, hnm, hhp, hBx⟩ := hrel
    have hce : ∀ a : Addr, wr.cell? a = w1.cell? a := fun a => by unfold World.cell?; rw [unhide hhp]
    by_cases hlt : m < ks.length
    · obtain ⟨bk, ok, hpk, y0⟩ := unhide HQ6 m hlt
      subst hpk
      obtain ⟨c, hkc, hcl⟩ := unhide HKD ks[m] (List.getElem_mem hlt)
      obtain ⟨bn2, off2, hp2, x0, x1, x2, x3, x4, x5, x6⟩ := unhide HNx c hcl
      rw [hp] at hp2
      obtain ⟨rfl, rfl⟩ := (by simpa using hp2 : bn = bn2 ∧ off = off2)
      have hkx : kindAt ns ks[m] = ns[c].k := kindAt_of (by rw [hkc, Int.toNat_natCast]; exact List.getElem?_eq_getElem hcl)
      have htx : textAt ns ks[m] = ns[c].t := textAt_of (by rw [hkc, Int.toNat_natCast]; exact List.getElem?_eq_getElem hcl)
      have d0' := (hce _).trans d0
      have y0' := (hce _).trans y0
      have x0' := (hce _).trans x0
      have x2' := (hce _).trans x2
      have hc0 : (0 : Int) ≤ (c : Int) := Int.natCast_nonneg _
      have hc1 : (c : Int) < (ns.length : Int) := by omega
      have hm0 : (0 : Int) ≤ (m : Int) := Int.natCast_nonneg _
      have hm1 : (m : Int) < (ks.length : Int) := by omega
      have HFS : Hid (kindAt ns ks[m] = 20 → textAt ns ks[m] = s → FirstFn ns (a : Int) s (c : Int)) := hide (fun h1 h2 => by
        rw [← hkc]
        exact FirstFn.at (unhide HRK) hlt h1 h2 (unhide hnm))
      have HNY : Hid (kindAt ns ks[m] ≠ 20 ∨ textAt ns ks[m] ≠ s → s ∉ (fnsIn ns (ks.take (m + 1))).map (textAt ns)) := hide (fun h => by
        by_cases h20 : kindAt ns ks[m] = 20
        · rw [fnsIn_yes hlt h20, List.map_append]
          intro hm
          rcases List.mem_append.1 hm with hm | hm
          · exact unhide hnm hm
          · rcases h with h | h
            · exact h h20
            · exact h (List.mem_singleton.1 hm).symm
        · rw [fnsIn_no hlt h20]
          exact unhide hnm)
      rw [hkx, htx] at HFS HNY
      rw [hkc] at y0'
      have DHP : Hid (wr.drew.heap = w1.heap) := hide (unhide hhp)
      have DB : Hid (Below w.heap.size w wr.drew) := hide (unhide hBx).drew
      clear x1 x3 x4 x5 x6 x0 x2 y0 hp2 hkx htx hce
      generalize ns[c].k = nk at x0' HFS HNY
      generalize ns[c].t = nt at x2' HFS HNY
      by_cases h20 : nk = 20
      · subst h20
        by_cases ht : nt = s
        · subst ht
          have e1 := ba_self nt
          have e2 := bl_self nt
          have hd := hide (unhide HFS rfl rfl)
          clear HFS HNY hkc
          go_wp2
          go_region
          all_goals go_wp2
          all_goals go_ret
          all_goals exact ⟨_, rfl, unhide hd, unhide DB⟩
        · have e1 := ba_ne ht
          have e2 := bl_ne ht
          have hd := hide (unhide HNY (.inr ht))
          clear HFS HNY hkc ht
          go_wp2
          go_region
          all_goals go_wp2
          all_goals (go_roundw; (case rel => exact ⟨m + 1, by omega, by go_num, hide (unhide hd), hide (unhide DHP), hide (unhide DB)⟩); (case measure => simp [intOf]; omega))
      · have e20 : (nk == 20) = false := beq_eq_false_iff_ne.2 h20
        have hd := hide (unhide HNY (.inl h20))
        clear HFS HNY hkc h20
        go_wp2
        go_region
        all_goals go_wp2
        all_goals (go_roundw; (case rel => exact ⟨m + 1, by omega, by go_num, hide (unhide hd), hide (unhide DHP), hide (unhide DB)⟩); (case measure => simp [intOf]; omega))
    · have hd : Hid (FirstFn ns (a : Int) s (-1)) := hide (.inl ⟨by
        have := unhide hnm
        rw [show m = ks.length by omega, List.take_length] at this
        unfold namesF funsOf
        rw [unhide HRK]; exact this, rfl⟩)
      go_wp2
      go_ret
      exact ⟨-1, rfl, unhide hd, unhide hBx⟩

set_option maxHeartbeats 8000000 in
set_option maxRecDepth 100000 in
theorem l04Calls_any (ns : List TN) (root : Int) (L : Lay) (hsm : Hid (Small ns)) (hT : Hid (TreeOkP ns root)) : ∀ (D d a : Nat) (l : List Nat) (acc : List ByteArray) (base : Nat) (v : Value) (w : World), d ≤ D → Vis ns [(a : Int)] l d → acc.length + l.length ≤ 1000 → NodesAt w L ns → StrBuf w base v acc → base ≤ w.heap.size →
    Calls Tryd.prog 80 #[.agg #[.slice L.p ns.length L.cap, .int .i64 root], .int .i64 (a : Int), v] w fun e w' => ∃ v' acc', e = .returned v' ∧ NodeC ns (fun s => s ∈ namesF ns root) (a : Int) acc acc' ∧ StrBuf w' base v' acc' ∧ Below w.heap.size w w' := by
  intro D
  induction D with
  | zero =>
    intro d a l acc base v w hd hv
    obtain ⟨_, _, _, _, _, _, _, _, _, _, rfl⟩ := hv.inv
    omega
  | succ D ih =>
    intro d a l acc base v w hd hv hlen hN hS hbase
    obtain ⟨nd, l1, l2, d1, d2, h0, hx, v1, v2, rfl, rfl⟩ := hv.inv
    cases v2
    rw [Int.toNat_natCast] at hx
    rw [List.append_nil] at hlen
    have hd' : d1 ≤ D := by omega
    have hl1 : acc.length + l1.length + 1 ≤ 1000 := by rw [List.length_cons] at hlen; omega
    obtain ⟨ha, hxe⟩ := List.getElem?_eq_some_iff.1 hx
    obtain ⟨pa, cap, rfl⟩ := hS.slice
    obtain ⟨bn, off, hp, q0, q1, q2, q3, q4, q5, q6⟩ := hN a ha
    rw [hxe] at q0 q1 q2 q3 q4 q6
    have IH := hide ih
    have HV := hide v1
    have hnl := (unhide hsm).1
    have hkl : nd.kids.length ≤ 1048576 := ((unhide hsm).2 nd (List.mem_of_getElem? hx)).2.2.1
    have htl : nd.t.size ≤ 1048576 := ((unhide hsm).2 nd (List.mem_of_getElem? hx)).1
    have HN := hide hN
    have HS := hide hS
    have HQ6 := hide q6
    have HR : Hid (∀ a1 a2, CallsR ns (fun s => s ∈ namesF ns root) nd.kids acc a1 → addC (fun s => s ∈ namesF ns root) nd a1 a2 → NodeC ns (fun s => s ∈ namesF ns root) (a : Int) acc a2) := hide (fun a1 a2 h1 h2 => ⟨nd, a1, by omega, by rw [Int.toNat_natCast]; exact hx, h1, h2⟩)
    rw [hp]
    rw [hp] at IH
    have hbl : bn < w.heap.size := World.block_lt_of_cell? _ _ q0
    clear ih v1 hv hN hS hx hlen hd q5 q6 hxe
    generalize L.pn a = pn at q3
    generalize L.cn a = cn at q3
    generalize L.pk a = pk at q4 HQ6
    generalize L.ck a = ck at q4
    generalize hnn : nd.names.length = nn at q3
    clear hnn
    have T0 : Hid (((w.alloc (.cells #[.slice (some ⟨bn, off, none⟩) ns.length L.cap, .int .i64 root] 25)).alloc (.cells #[.int .i64 nd.k, .int .i64 nd.n, .string nd.t, .slice pn nn cn, .slice pk nd.kids.length ck] 36)).cell? ⟨w.heap.size, 0, none⟩ = some (.slice (some ⟨bn, off, none⟩) ns.length L.cap)) := hide (cell_later (nx_alloc _ _) (by simp))
    have T1 : Hid (((w.alloc (.cells #[.slice (some ⟨bn, off, none⟩) ns.length L.cap, .int .i64 root] 25)).alloc (.cells #[.int .i64 nd.k, .int .i64 nd.n, .string nd.t, .slice pn nn cn, .slice pk nd.kids.length ck] 36)).cell? ⟨w.heap.size, 1, none⟩ = some (.int .i64 root)) := hide (cell_later (nx_alloc _ _) (by simp))
    have N0 : Hid (((w.alloc (.cells #[.slice (some ⟨bn, off, none⟩) ns.length L.cap, .int .i64 root] 25)).alloc (.cells #[.int .i64 nd.k, .int .i64 nd.n, .string nd.t, .slice pn nn cn, .slice pk nd.kids.length ck] 36)).cell? ⟨w.heap.size + 1, 0, none⟩ = some (.int .i64 nd.k)) := hide (by simp)
    have N2 : Hid (((w.alloc (.cells #[.slice (some ⟨bn, off, none⟩) ns.length L.cap, .int .i64 root] 25)).alloc (.cells #[.int .i64 nd.k, .int .i64 nd.n, .string nd.t, .slice pn nn cn, .slice pk nd.kids.length ck] 36)).cell? ⟨w.heap.size + 1, 2, none⟩ = some (.string nd.t)) := hide (by simp)
    have N4 : Hid (((w.alloc (.cells #[.slice (some ⟨bn, off, none⟩) ns.length L.cap, .int .i64 root] 25)).alloc (.cells #[.int .i64 nd.k, .int .i64 nd.n, .string nd.t, .slice pn nn cn, .slice pk nd.kids.length ck] 36)).cell? ⟨w.heap.size + 1, 4, none⟩ = some (.slice pk nd.kids.length ck)) := hide (by simp)
    have HB0 : Hid (Below w.heap.size w ((w.alloc (.cells #[.slice (some ⟨bn, off, none⟩) ns.length L.cap, .int .i64 root] 25)).alloc (.cells #[.int .i64 nd.k, .int .i64 nd.n, .string nd.t, .slice pn nn cn, .slice pk nd.kids.length ck] 36))) := hide (nx_al (nx_alloc _ _))
    have hs0 : Hid (((w.alloc (.cells #[.slice (some ⟨bn, off, none⟩) ns.length L.cap, .int .i64 root] 25)).alloc (.cells #[.int .i64 nd.k, .int .i64 nd.n, .string nd.t, .slice pn nn cn, .slice pk nd.kids.length ck] 36)).heap.size = w.heap.size + 1 + 1) := hide (by simp)
    go_enter Tryd.func80, Tryd.ntmps80
    go_wp2
    generalize ((w.alloc (.cells #[.slice (some ⟨bn, off, none⟩) ns.length L.cap, .int .i64 root] 25)).alloc (.cells #[.int .i64 nd.k, .int .i64 nd.n, .string nd.t, .slice pn nn cn, .slice pk nd.kids.length ck] 36)) = w0 at T0 T1 N0 N2 N4 HB0 hs0 ⊢
    go_loopw [2, 8] (fun s i wx => ∃ (m : Nat) (am : List ByteArray) (lm : List Nat) (dm : Nat), m ≤ nd.kids.length ∧ i = .int .i64 m ∧ am.length ≤ acc.length + lm.length ∧ lm.length ≤ l1.length ∧ Hid (Vis ns (nd.kids.take m) lm dm) ∧ Hid (CallsR ns (fun s => s ∈ namesF ns root) (nd.kids.take m) acc am) ∧ Hid (StrBuf wx base s am) ∧ Hid (Below w0.heap.size w0 wx)) (fun _ i _ => nd.kids.length - (intOf i).toNat)
    case atStart => exact ⟨0, acc, [], 0, by omega, rfl, by simp, by simp, hide (by simpa using Vis.nil), hide (by simpa using CallsR.nil _), hide ((unhide HS).later (unhide HB0)), hide (Below.refl _ _)⟩
    case round =>
      obtain ⟨m, am, lm, dm, hm, rfl, ham, hlm, hvm, hcr, hSx, hBx⟩ := hrel
      obtain ⟨ps, cs, rfl⟩ := (unhide hSx).slice
      have hw0 := unhide hs0
      have hsz : w0.heap.size ≤ wr.heap.size := (unhide hBx).size
      have hsz2 : w.heap.size + 1 + 1 ≤ wr.heap.size := by omega
      have t0 := cell_later (unhide hBx) (unhide T0)
      have t1 := cell_later (unhide hBx) (unhide T1)
      have n0 := cell_later (unhide hBx) (unhide N0)
      have n2 := cell_later (unhide hBx) (unhide N2)
      have n4 := cell_later (unhide hBx) (unhide N4)
      have hBw : Hid (Below w.heap.size w wr) := hide (nx_trans (unhide HB0) (unhide hBx))
      have haml : am.length ≤ 1000 := by omega
      clear hw0
      by_cases hlt : m < nd.kids.length
      · obtain ⟨bk, ok, hpk, y1⟩ := unhide HQ6 m hlt
        subst hpk
        have y0 := cell_later (unhide hBw) y1
        clear y1
        have hj : Hid (nd.kids[m]? = some nd.kids[m]) := hide (List.getElem?_eq_getElem hlt)
        obtain ⟨lj, dj, vj, hlj, hdj, hj0, hll⟩ := (unhide HV).at (unhide hj)
        have hjx : nd.kids[m] = ((nd.kids[m].toNat : Nat) : Int) := (Int.toNat_of_nonneg hj0).symm
        have hnv := hide ((unhide hvm).take_succ (unhide hj) vj)
        have hle2 : (lm ++ lj).length ≤ l1.length := (unhide HV).take_len (m + 1) (unhide hnv)
        have hap : (lm ++ lj).length = lm.length + lj.length := List.length_append
        obtain ⟨y, _, _, _, _, _, hy, _⟩ := vj.inv
        have hcl : nd.kids[m].toNat < ns.length := (List.getElem?_eq_some_iff.1 hy).1
        have hye : ns[nd.kids[m].toNat] = y := (List.getElem?_eq_some_iff.1 hy).2
        obtain ⟨bn2, off2, hp2, x0, _⟩ := (unhide HN).later (unhide hBw) nd.kids[m].toNat hcl
        rw [hp] at hp2
        obtain ⟨rfl, rfl⟩ := (by simpa using hp2 : bn = bn2 ∧ off = off2)
        rw [hye] at x0
        have HSY : Hid (y.k = 20 → CallsR ns (fun s => s ∈ namesF ns root) (nd.kids.take (m + 1)) acc am) := hide (fun h => (unhide hcr).snoc_yes hlt hj0 hy h)
        have HSN : Hid (y.k ≠ 20 → ∀ a2, NodeC ns (fun s => s ∈ namesF ns root) nd.kids[m] am a2 → CallsR ns (fun s => s ∈ namesF ns root) (nd.kids.take (m + 1)) acc a2) := hide (fun h a2 h2 => (unhide hcr).snoc_no hlt hj0 hy h h2)
        have HLN : Hid (∀ a2, NodeC ns (fun s => s ∈ namesF ns root) nd.kids[m] am a2 → a2.length ≤ am.length + lj.length) := hide (fun a2 h => by
          obtain ⟨a3, h3, _, hu⟩ := NodeC.ex (fun s => s ∈ namesF ns root) vj am
          rw [h.det h3]; exact hu)
        have HC := hide (fun wx (hb : Below wr.heap.size wr wx) => unhide IH dj nd.kids[m].toNat lj am base (.slice ps am.length cs) wx (by omega) (by rw [← hjx]; exact vj) (by omega) ((unhide HN).later (nx_trans (unhide hBw) hb)) ((unhide hSx).later hb) (by have := hb.size; omega))
        rw [← hjx] at HC
        generalize hkj : nd.kids[m].toNat = c at x0 hcl hjx
        rw [hjx] at y0 HC HSN HLN
        have hc0 : (0 : Int) ≤ (c : Int) := Int.natCast_nonneg _
        have hc1 : (c : Int) < (ns.length : Int) := by omega
        have hm0 : (0 : Int) ≤ (m : Int) := Int.natCast_nonneg _
        have hm1 : (m : Int) < (nd.kids.length : Int) := by omega
        clear vj hlj hjx hj hcr hp2 hye hy hkj hj0
        generalize y.k = yk at x0 HSY HSN
        by_cases h20 : yk = 20
        · have HCR := hide (unhide HSY h20)
          subst h20
          clear HSY HSN HLN HC
          go_wp2
          go_region
          all_goals go_wp2
          all_goals (go_roundw; (case rel => exact ⟨m + 1, am, lm ++ lj, _, by omega, by go_num, by omega, hle2, hide (unhide hnv), hide (unhide HCR), hide ((unhide hSx).later (nx_drew (Below.refl wr.heap.size wr))), hide (unhide hBx).drew⟩); (case measure => simp [intOf]; omega))
        · have e20 : (yk != 20) = true := by simp [h20]
          have HSN2 := hide (unhide HSN h20)
          clear HSY HSN h20
          have T0D := hide (show wr.drew.cell? ⟨w.heap.size, 0, none⟩ = some (.slice (some ⟨bn, off, none⟩) ns.length L.cap) from t0)
          have T1D := hide (show wr.drew.cell? ⟨w.heap.size, 1, none⟩ = some (.int .i64 root) from t1)
          have N4D := hide (show wr.drew.cell? ⟨w.heap.size + 1, 4, none⟩ = some (.slice (some ⟨bk, ok, none⟩) nd.kids.length ck) from n4)
          have Y0D := hide (show wr.drew.cell? ⟨bk, ok + m, none⟩ = some (.int .i64 (c : Int)) from y0)
          have HCD := hide (unhide HC wr.drew.drew (nx_drew (nx_drew (Below.refl wr.heap.size wr))))
          have HBD := hide (unhide hBx).drew
          go_wp2
          go_region
          clear HC t0 t1 n0 n2 n4 y0 x0 hSx hBx hBw
          generalize wr.drew = wd at T0D T1D N4D Y0D HCD HBD ⊢
          have f0 := unhide T0D
          have f1 := unhide T1D
          have f2 := unhide N4D
          have f3 := unhide Y0D
          have E0 := hide (show wd.drew.cell? ⟨w.heap.size, 0, none⟩ = some (.slice (some ⟨bn, off, none⟩) ns.length L.cap) from f0)
          have E1 := hide (show wd.drew.cell? ⟨w.heap.size, 1, none⟩ = some (.int .i64 root) from f1)
          have E2 := hide (show wd.drew.cell? ⟨w.heap.size + 1, 4, none⟩ = some (.slice (some ⟨bk, ok, none⟩) nd.kids.length ck) from f2)
          have E3 := hide (show wd.drew.cell? ⟨bk, ok + m, none⟩ = some (.int .i64 (c : Int)) from f3)
          go_wp2
          go_region_held3 (fun z => z.cell? ⟨w.heap.size, 0, none⟩ = some (.slice (some ⟨bn, off, none⟩) ns.length L.cap) ∧ z.cell? ⟨w.heap.size, 1, none⟩ = some (.int .i64 root) ∧ z.cell? ⟨w.heap.size + 1, 4, none⟩ = some (.slice (some ⟨bk, ok, none⟩) nd.kids.length ck) ∧ z.cell? ⟨bk, ok + m, none⟩ = some (.int .i64 (c : Int))) (go_keep) ((go_at_call 80; refine (unhide HCD).mono ?_; rintro e y ⟨v2, a2, rfl, hN2, hS2, hby⟩; have z0 := cell_later hby (unhide E0); have z1 := cell_later hby (unhide E1); have z2 := cell_later hby (unhide E2); have z3 := cell_later hby (unhide E3); have HN2 := hide hN2; have HS2 := hide hS2; have HBY := hide hby; clear hby hN2 hS2))
          have HCR := hide (unhide HSN2 a2 (unhide HN2))
          have hl2 := unhide HLN a2 (unhide HN2)
          have HB2 : Hid (Below w0.heap.size w0 y) := hide (nx_trans (nx_drew (unhide HBD)) (unhide HBY))
          clear HN2 HCD HSN2 HLN HBY
          go_wp2
          go_roundw
          case rel => exact ⟨m + 1, a2, lm ++ lj, _, by omega, by go_num, by omega, hle2, hide (unhide hnv), hide (unhide HCR), hide (unhide HS2), hide (unhide HB2)⟩
          case measure => simp [intOf]; omega
      · have hmm : m = nd.kids.length := by omega
        have HCR : Hid (CallsR ns (fun s => s ∈ namesF ns root) nd.kids acc am) := hide (by
          have := unhide hcr
          rw [hmm, List.take_length] at this
          exact this)
        have HFX : Hid (¬ (nd.k = 10 ∧ nd.t ∈ namesF ns root ∧ nd.t ∉ am) → NodeC ns (fun s => s ∈ namesF ns root) (a : Int) acc am) := hide (fun h => unhide HR am am (unhide HCR) (.inr ⟨h, rfl⟩))
        have HFY : Hid ((nd.k = 10 ∧ nd.t ∈ namesF ns root ∧ nd.t ∉ am) → NodeC ns (fun s => s ∈ namesF ns root) (a : Int) acc (am ++ [nd.t])) := hide (fun h => unhide HR am _ (unhide HCR) (.inl ⟨h, rfl⟩))
        clear hcr HCR hvm HR IH
        by_cases h10 : nd.k = 10
        · have HC := hide (l04Func_any ns root nd.t L wr ((unhide HN).later (unhide hBw)) (unhide hsm) (unhide hT))
          rw [hp] at HC
          rw [h10] at n0
          go_wp2_with fail
          refine (unhide HC).mono ?_
          rintro e w2 ⟨r, rfl, hr, hb2⟩
          have n2' := cell_later hb2 n2
          have HB2 := hide (nx_trans (unhide hBw) hb2)
          have HS2 := hide ((unhide hSx).later hb2)
          have hw2 := hb2.size
          clear hb2 HC
          rcases hr.pos (unhide hT) with ⟨hni, hr0⟩ | ⟨hin, hr0⟩
          · have HD := hide (unhide HFX (fun h => hni h.2.1))
            clear hni HFX HFY hr h10
            go_wp2
            go_ret
            exact ⟨_, am, rfl, unhide HD, unhide HS2, unhide HB2⟩
          · have hr1 : ¬ r < 0 := by omega
            have HIN := hide hin
            clear hin hr t0 t1 n0 n2 n4 hSx hBx hBw
            go_wp2
            go_loopw [9] (fun i wx => ∃ k : Nat, k ≤ am.length ∧ i = .int .i64 k ∧ Hid (nd.t ∉ am.take k) ∧ Hid (Below w.heap.size w wx) ∧ Hid (StrBuf wx base (.slice ps am.length cs) am) ∧ Hid (wx.cell? ⟨w.heap.size + 1, 2, none⟩ = some (.string nd.t)) ∧ Hid (w.heap.size + 1 + 1 ≤ wx.heap.size)) (fun i _ => am.length - (intOf i).toNat)
            case atStart => exact ⟨0, by omega, rfl, hide (by simp), hide (unhide HB2), hide (unhide HS2), hide n2', hide (by omega)⟩
            case round =>
              clear HB2 HS2 n2'
              obtain ⟨k, hk, rfl, hnk, hB3, hS3, hn3, hz3⟩ := hrel
              have m2 := unhide hn3
              by_cases hlt2 : k < am.length
              · obtain ⟨a', c', ea, hst⟩ := (unhide hS3).strs
                injection ea with ea _ ec
                subst ea ec
                obtain ⟨bu, ou, rfl, u0⟩ := hst k hlt2
                have HUM := hide (List.getElem_mem hlt2)
                have HUT := hide (List.take_succ_eq_append_getElem hlt2)
                have hk0 : (0 : Int) ≤ (k : Int) := Int.natCast_nonneg _
                have hk1 : (k : Int) < (am.length : Int) := by omega
                generalize am[k] = u at u0 HUM HUT
                clear hst
                by_cases hu : u = nd.t
                · have HD := hide (unhide HFX (fun h => h.2.2 (hu ▸ unhide HUM)))
                  rw [hu] at u0
                  have e1 := ba_self nd.t
                  have e2 := bl_self nd.t
                  clear HFX HFY hu HUM HUT h10
                  generalize nd.t = nt at u0 m2 e1 e2
                  go_wp2
                  go_region
                  all_goals go_wp2
                  all_goals go_ret
                  all_goals exact ⟨_, am, rfl, unhide HD, (unhide hS3).later (nx_drew (Below.refl wr.heap.size wr)), (unhide hB3).drew⟩
                · have HD : Hid (nd.t ∉ am.take (k + 1)) := hide (by
                    rw [unhide HUT]
                    intro h
                    rcases List.mem_append.1 h with h | h
                    · exact unhide hnk h
                    · exact hu (List.mem_singleton.1 h).symm)
                  have e1 := ba_ne hu
                  have e2 := bl_ne hu
                  have HM3 : Hid (wr.drew.cell? ⟨w.heap.size + 1, 2, none⟩ = some (.string nd.t)) := hide m2
                  have HZ3 : Hid (w.heap.size + 1 + 1 ≤ wr.drew.heap.size) := hide (unhide hz3)
                  clear hu HUM HUT hn3
                  go_wp2
                  go_region
                  all_goals go_wp2
                  all_goals (go_roundw; (case rel => exact ⟨k + 1, by omega, by go_num, hide (unhide HD), hide (unhide hB3).drew, hide ((unhide hS3).later (nx_drew (Below.refl wr.heap.size wr))), hide (unhide HM3), hide (unhide HZ3)⟩); (case measure => simp [intOf]; omega))
              · have HD := hide (unhide HFY ⟨h10, unhide HIN, by
                  have := unhide hnk
                  rw [show k = am.length by omega, List.take_length] at this
                  exact this⟩)
                have hz := unhide hz3
                have hwb : w.heap.size ≤ wr.heap.size := by omega
                have hne : ¬ w.heap.size + 1 = wr.heap.size := by omega
                clear HFX HFY h10 HIN hnk hn3
                generalize nd.t = nt at m2 HD
                have LA : Hid (StrBuf (wr.drew.alloc (.cells #[] 9)) wr.heap.size (.slice (some ⟨wr.heap.size, 0, none⟩) 0 0) []) := hide (by simpa using StrBuf.lit wr.drew wr.heap.size [] (Nat.le_refl _) (by decide))
                have LC : Hid (StrBuf ((wr.drew.alloc (.cells #[.string nt] 9)).alloc (.cells #[] 9)) wr.heap.size (.slice (some ⟨wr.heap.size + 1, 0, none⟩) 0 0) []) := hide (by
                  have := StrBuf.lit (wr.drew.alloc (.cells #[.string nt] 9)) wr.heap.size [] (by simp) (by decide)
                  simpa using this)
                have SD := hide ((unhide hS3).later (nx_drew (Below.refl wr.heap.size wr)))
                have BF : Hid (∀ w4, Below wr.heap.size wr.drew w4 → Below w.heap.size w w4) := hide (fun w4 h => (unhide hB3).drew.trans (h.mono hwb))
                have hlen : (2 : Nat) ≤ 5 := by omega
                go_wp2
                go_region_held3 (fun z => z.cell? ⟨w.heap.size + 1, 2, none⟩ = some (.string nt)) (first | go_keep | exact cellB hb4 (by omega) (by assumption) | exact cellB hb3 (by omega) (by assumption)) ((first | (refine step_appBufG _ (by rfl) _ _ (by rfl) wr.heap.size base _ _ [] am (by rfl) (unhide LA) (by rfl) ((unhide SD).alloc _) (by simp) (by simp; omega) ?_; intro v3 w3 hS4 hb3 hg3) | (refine step_appBufG _ (by rfl) _ _ (by rfl) wr.heap.size base _ _ [] am (by rfl) ((unhide LA).alloc _) (by rfl) (((unhide SD).alloc _).alloc _) (by simp; omega) (by simp; omega) ?_; intro v3 w3 hS4 hb3 hg3) | (refine step_appBufG _ (by rfl) _ _ (by rfl) wr.heap.size base _ _ [] am (by rfl) (unhide LC) (by rfl) (((unhide SD).alloc _).alloc _) (by simp; omega) (by simp; omega) ?_; intro v3 w3 hS4 hb3 hg3) | (refine step_appStrG _ (by rfl) _ _ (by rfl) wr.heap.size w3.heap.size _ _ nt (by rfl) (hS4.alloc _) (by rfl) (by simp) (by have := hb3.size; simp at this ⊢; omega) (by simp; omega) ?_; intro v4 w4 hS5 hb4 hg4) | (refine step_appStrG _ (by rfl) _ _ (by rfl) wr.heap.size (wr.heap.size + 1) _ _ nt (by rfl) hS4 (by rfl) (hg3.cell (a := ⟨wr.heap.size + 1, 0, none⟩) (by simp) (by simp [Value.ownBlock])) (by have := hb3.size; simp at this ⊢; omega) (by simp; omega) ?_; intro v4 w4 hS5 hb4 hg4) | (refine step_appStrG _ (by rfl) _ _ (by rfl) wr.heap.size wr.heap.size _ _ nt (by rfl) hS4 (by rfl) (hg3.cell (a := ⟨wr.heap.size, 0, none⟩) (by simp) (by simp [Value.ownBlock])) (by have := hb3.size; simp at this ⊢; omega) (by simp; omega) ?_; intro v4 w4 hS5 hb4 hg4)))
                all_goals (
                  have hs3 := hb3.size
                  simp at hs3
                  have hB4 : Below wr.heap.size wr w4 := by
                    first
                      | exact ((((Below.refl wr.heap.size wr).alloc (Nat.le_refl _) _).drew.trans hb3).alloc (by omega) _).trans hb4
                      | exact ((((Below.refl wr.heap.size wr).alloc (Nat.le_refl _) _).alloc (by simp) _).drew.trans hb3).trans hb4
                  have HF := hide (And.intro (hS5.low (base' := base) (by omega)) ((unhide hB3).trans (hB4.mono hwb)))
                  rw [List.nil_append] at HF
                  clear hS5 hB4 hb3 hb4 hg3 hg4 hS4
                  go_wp2
                  go_ret
                  exact ⟨_, _, rfl, unhide HD, (unhide HF).1, (unhide HF).2⟩)
        · have HD := hide (unhide HFX (fun h => h10 h.1))
          have e10 : (nd.k != 10) = true := by simp [h10]
          clear h10 HFX HFY
          go_wp2
          go_ret
          exact ⟨_, am, rfl, unhide HD, unhide hSx, unhide hBw⟩

theorem placeF (l : List ByteArray) : (fun s => (placeIn l s).isSome = true) = fun s => s ∈ l := by
  funext s
  apply propext
  constructor
  · intro h
    exact Classical.byContradiction fun hc => by rw [placeIn_not hc] at h; cases h
  · exact placeIn_mem
def CallsOfRes (ns : List TN) (root k : Int) (zs : List ByteArray) (c : Int) : Prop := (¬ TreeOkP ns root ∧ zs = [] ∧ c = 1) ∨ (TreeOkP ns root ∧ ¬ (0 ≤ k ∧ k < ns.length) ∧ zs = [] ∧ c = 13) ∨ (TreeOkP ns root ∧ (0 ≤ k ∧ k < ns.length) ∧ (NodeC ns (fun s => s ∈ namesF ns root) k [] zs ∧ zs.length ≤ 1048576) ∧ c = 0)
theorem CallsOfRes.det {ns : List TN} {root k : Int} {zs zs' : List ByteArray} {c c' : Int} (h : CallsOfRes ns root k zs c) (h' : CallsOfRes ns root k zs' c') : zs = zs' ∧ c = c' := by
  rcases h with ⟨h1, rfl, rfl⟩ | ⟨h1, h2, rfl, rfl⟩ | ⟨h1, h2, h3, rfl⟩ <;> rcases h' with ⟨g1, rfl, rfl⟩ | ⟨g1, g2, rfl, rfl⟩ | ⟨g1, g2, g3, rfl⟩ <;> first | exact ⟨rfl, rfl⟩ | exact absurd h1 g1 | exact absurd g1 h1 | exact absurd h2 g2 | exact absurd g2 h2 | exact ⟨h3.1.det g3.1, rfl⟩
theorem CallsOfRes.len {ns : List TN} {root k : Int} {zs : List ByteArray} {c : Int} (h : CallsOfRes ns root k zs c) : zs.length ≤ 1048576 := by
  rcases h with ⟨h1, rfl, rfl⟩ | ⟨h1, h2, rfl, rfl⟩ | ⟨h1, h2, h3, rfl⟩
  · simp
  · simp
  · exact h3.2
theorem TreeP.part {ns : List TN} {root : Int} {l : List Nat} {d a : Nat} (hT : TreeP ns root l d) (ha : a < ns.length) : ∃ lx dx, Vis ns [(a : Int)] lx dx ∧ (∀ y ∈ lx, y ∈ l) ∧ lx.length ≤ 200 := by
  obtain ⟨lx, dx, vx, hlx, _, hll⟩ := hT.2.1.1.sub a (hT.2.2.2 a ha)
  have h2 := nodup_le ns.length l hT.2.1.2.1 hT.2.1.1.lt
  have := hT.1
  exact ⟨lx, dx, vx, hlx, by omega⟩
theorem NodeC.le {ns : List TN} {F : ByteArray → Prop} {a : Nat} {lx : List Nat} {dx : Nat} {zs : List ByteArray} (h : NodeC ns F (a : Int) [] zs) (hv : Vis ns [(a : Int)] lx dx) (hl : lx.length ≤ 200) : zs.length ≤ 1048576 := by
  obtain ⟨b, hb, _, hu⟩ := NodeC.ex F hv []
  rw [h.det hb]
  simp at hu
  omega

set_option maxHeartbeats 2000000 in
set_option maxRecDepth 100000 in
theorem implCallsOf_any (ns : List TN) (root k : Int) (L : Lay) (w : World) (hN : NodesAt w L ns) (hsm : Small ns) (htab : Hid (TabAt w 0 srcWords)) :
    Calls Tryd.prog 49 #[.agg #[.slice L.p ns.length L.cap, .int .i64 root], .int .i64 k] w fun e w' => ∃ v zs c, e = .returned (.tuple #[v, .int .i64 c]) ∧ CallsOfRes ns root k zs c ∧ StrBuf w' w.heap.size v zs ∧ Below w.heap.size w w' := by
  have HN := hide hN
  have HS := hide hsm
  clear hN hsm
  by_cases hk : 0 ≤ k ∧ k < ns.length
  · obtain ⟨a, rfl⟩ : ∃ a : Nat, k = (a : Int) := ⟨k.toNat, by omega⟩
    go_enter Tryd.func49, Tryd.ntmps49
    go_wp2_with fail
    refine (branchOf_in ns root a L _ ((unhide HN).later (nx_alloc _ _)) (unhide HS) (hide ((unhide htab).later (nx_alloc _ _))) (by omega)).mono ?_
    rintro e w1 ⟨hb, hres⟩
    have hB := hide (nx_trans (nx_alloc _ _) hb)
    have hw1 : w.heap.size < w1.heap.size := by have := hb.size; simp at this; omega
    clear hb
    rcases hres with ⟨rfl, hno⟩ | ⟨G, B, loc, l, d, hT, hG, x, rfl, rfl⟩
    · have hD : Hid (CallsOfRes ns root (a : Int) [] 1) := hide (.inl ⟨hno, rfl, rfl⟩)
      clear hno
      go_wp2
      go_ret2
      exact ⟨_, [], 1, rfl, unhide hD, StrBuf.nil _ _, unhide hB⟩
    have hxn : x < ns.length := by omega
    obtain ⟨r, hr, _⟩ := hT.2.2.1
    have hrl : r.kids.length ≤ 1048576 := ((unhide HS).2 r (List.mem_of_getElem? hr)).2.2.1
    obtain ⟨pb, cb, c7, hKU⟩ := hG.kids hT hr
    obtain ⟨lx, dx, vx, hlx, hl200⟩ := hT.part hxn
    have HD : Hid (∀ zs, NodeC ns (fun s => s ∈ namesF ns root) (x : Int) [] zs → CallsOfRes ns root (x : Int) zs 0) := hide (fun zs h => .inr (.inr ⟨⟨l, d, hT⟩, hk, ⟨h, h.le vx hl200⟩, rfl⟩))
    have HO := hide (outmost_any ns root L G B loc l d x w1 hT hG hxn)
    have HC := hide (listFunctions_any ns loc (loc root.toNat) cb pb r.kids w1 c7 hKU hrl (fun y hy => ((unhide HS).2 y hy).1))
    have HF : Hid (namesF ns root = (fnsIn ns r.kids).map (textAt ns)) := hide (by unfold namesF funsOf; rw [rootKids_of hr])
    have HA : Hid (∀ w2 b n nf cf pf, Below w1.heap.size w1 w2 → MapIs w2 b n (placeIn ((fnsIn ns r.kids).map (textAt ns))) → Calls Tryd.prog 82 #[.agg #[.slice pf nf cf, .map (some b)], .slice none 0 0, .pointer (some ⟨loc x, 0, none⟩)] w2 fun e w' => ∃ v' acc', e = .returned v' ∧ NodeC ns (fun s => s ∈ namesF ns root) (x : Int) [] acc' ∧ StrBuf w' w2.heap.size v' acc' ∧ GrowB (.slice none 0 0) v' w2 w') := hide (fun w2 b n nf cf pf hb2 hM => by
      have hG2 : Gath w2 w2.heap.size L ns loc l b n (placeIn ((fnsIn ns r.kids).map (textAt ns))) := ⟨fun y hy => (hG.br y hy).keep (fun k hk => hb2.block k hk) (fun k hk => by have := hb2.size; omega), hM, hM.lt, Nat.le_refl _⟩
      have := addCalls_any ns L loc l w2.heap.size b n nf cf pf _ HS dx dx x lx [] (.slice none 0 0) w2 (Nat.le_refl _) vx hlx (by simp; omega) (StrBuf.nil _ _) hG2
      rw [← unhide HF, placeF] at this
      exact this)
    clear hT hG vx hlx hKU c7 hr HF hl200
    generalize loc x = gx at HO HA
    generalize loc root.toNat = gr at HO HC
    generalize fnsIn ns r.kids = fs at HC HA
    go_wp2_with fail
    refine (unhide HO).mono ?_
    rintro e w1 ⟨rfl, rfl⟩
    go_wp2_with fail
    refine (unhide HC).mono ?_
    rintro e w2 ⟨v, b, n, rfl, hP, hM, hbl, hb2⟩
    obtain ⟨pv, cv, rfl⟩ := hP.slice
    have HA2 := hide (unhide HA w2 b n (fs.map fun j => loc j.toNat).length cv pv hb2 hM)
    have hB2 := hide (nx_trans (unhide hB) hb2)
    have hw2 := hb2.size
    clear hP hM hb2 HA
    generalize (fs.map fun j => loc j.toNat).length = nv at HA2 ⊢
    go_wp2_with fail
    refine (unhide HA2).mono ?_
    rintro e w3 ⟨v3, zs, rfl, hN3, hS3, hG3⟩
    have hD := hide (unhide HD zs hN3)
    have HS3 := hide (hS3.low (base' := w.heap.size) (by omega))
    have HB3 := hide (nx_trans (unhide hB2) (hG3.below (Nat.le_refl _) (fun j hj => by cases hj)))
    clear hN3 hS3 hG3 HA2
    go_wp2
    go_ret2
    exact ⟨_, _, 0, rfl, unhide hD, unhide HS3, unhide HB3⟩
  · go_enter Tryd.func49, Tryd.ntmps49
    go_wp2_with fail
    refine (branchOf_out ns root k L _ ((unhide HN).later (nx_alloc _ _)) (unhide HS) (hide ((unhide htab).later (nx_alloc _ _))) hk).mono ?_
    rintro e w1 ⟨hb, hres⟩
    have hB := hide (nx_trans (nx_alloc _ _) hb)
    clear hb
    rcases hres with ⟨rfl, hno⟩ | ⟨rfl, hok⟩
    · have hD : Hid (CallsOfRes ns root k [] 1) := hide (.inl ⟨hno, rfl, rfl⟩)
      clear hno hk
      go_wp2
      go_ret2
      exact ⟨_, [], 1, rfl, unhide hD, StrBuf.nil _ _, unhide hB⟩
    · have hD : Hid (CallsOfRes ns root k [] 13) := hide (.inr (.inl ⟨hok, hk, rfl, rfl⟩))
      clear hok hk
      go_wp2
      go_ret2
      exact ⟨_, [], 13, rfl, unhide hD, StrBuf.nil _ _, unhide hB⟩

set_option maxHeartbeats 2000000 in
set_option maxRecDepth 100000 in
theorem specCallsOf_any (ns : List TN) (root k : Int) (L : Lay) (w : World) (hN : NodesAt w L ns) (hsm : Small ns) :
    Calls Tryd.prog 48 #[.agg #[.slice L.p ns.length L.cap, .int .i64 root], .int .i64 k] w fun e w' => ∃ v zs c, e = .returned (.tuple #[v, .int .i64 c]) ∧ CallsOfRes ns root k zs c ∧ StrBuf w' w.heap.size v zs ∧ Below w.heap.size w w' := by
  have HN := hide hN
  have HS := hide hsm
  clear hN hsm
  go_enter Tryd.func48, Tryd.ntmps48
  go_wp2_with fail
  refine (l03Place_any ns root k L _ ((unhide HN).later (nx_alloc _ _)) (unhide HS)).mono ?_
  rintro e w1 ⟨c, rfl, hc, hb1⟩
  have hB := hide (nx_trans (nx_alloc _ _) hb1)
  have hw1 : w.heap.size < w1.heap.size := by have := hb1.size; simp at this; omega
  have c1 : ∀ o, w1.cell? ⟨w.heap.size, o, none⟩ = (w.alloc (.cells #[.slice L.p ns.length L.cap, .int .i64 root] 25)).cell? ⟨w.heap.size, o, none⟩ := fun o => hb1.cell (p := ⟨w.heap.size, o, none⟩) (by simp)
  have d0 : w1.cell? ⟨w.heap.size, 0, none⟩ = some (.slice L.p ns.length L.cap) := by rw [c1]; simp
  have d1 : w1.cell? ⟨w.heap.size, 1, none⟩ = some (.int .i64 root) := by rw [c1]; simp
  clear hb1 c1
  have HE : Hid (StrBuf (w1.alloc (.cells #[] 9)) w.heap.size (.slice (some ⟨w1.heap.size, 0, none⟩) 0 0) []) := hide (by simpa using StrBuf.lit w1 w.heap.size [] (by omega) (by decide))
  rcases hc with ⟨hno, rfl⟩ | ⟨hok, hk, rfl⟩ | ⟨hok, hk, rfl⟩
  · have hD : Hid (CallsOfRes ns root k [] 1) := hide (.inl ⟨hno, rfl, rfl⟩)
    clear hno
    go_wp2
    go_ret2
    exact ⟨_, [], 1, rfl, unhide hD, unhide HE, nx_al (unhide hB)⟩
  · have hD : Hid (CallsOfRes ns root k [] 13) := hide (.inr (.inl ⟨hok, hk, rfl, rfl⟩))
    clear hok hk
    go_wp2
    go_ret2
    exact ⟨_, [], 13, rfl, unhide hD, unhide HE, nx_al (unhide hB)⟩
  · obtain ⟨a, rfl⟩ : ∃ a : Nat, k = (a : Int) := ⟨k.toNat, by omega⟩
    obtain ⟨l, d, hT⟩ := hok
    obtain ⟨lx, dx, vx, hlx, hl200⟩ := hT.part (a := a) (by omega)
    have HD : Hid (∀ zs, NodeC ns (fun s => s ∈ namesF ns root) (a : Int) [] zs → CallsOfRes ns root (a : Int) zs 0) := hide (fun zs h => .inr (.inr ⟨⟨l, d, hT⟩, hk, ⟨h, h.le vx hl200⟩, rfl⟩))
    have HC := hide (l04Calls_any ns root L HS (hide ⟨l, d, hT⟩) dx dx a lx [] w.heap.size (.slice (some ⟨w1.heap.size, 0, none⟩) 0 0) (w1.alloc (.cells #[] 9)) (Nat.le_refl _) vx (by simp; omega) ((unhide HN).later (nx_al (unhide hB))) (unhide HE) (by simp; omega))
    clear hT vx hlx hk
    go_wp2_with fail
    refine (unhide HC).mono ?_
    rintro e w2 ⟨v2, zs, rfl, hN2, hS2, hb2⟩
    have hD := hide (unhide HD zs hN2)
    have HS2 := hide hS2
    have hB2 := hide (nx_trans (nx_al (unhide hB)) hb2)
    clear hN2 hS2 hb2 HC
    go_wp2
    go_ret2
    exact ⟨_, _, 0, rfl, unhide hD, unhide HS2, unhide hB2⟩

set_option maxHeartbeats 8000000 in
set_option maxRecDepth 100000 in
theorem lawCallsOf_any (L : Lay) (ns : List TN) (root k : Int) (w : World) (hN : NodesAt w L ns) (hw : Wide ns) (_hk : (Lit.int .i64 k).wf = true) (htab : Hid (TabAt w 0 srcWords)) :
    Calls Tryd.prog 14 #[.agg #[.slice L.p ns.length L.cap, .int .i64 root], .int .i64 k] w fun e w' => e = .returned (.bool true) ∧ Below w.heap.size w w' := by
  have HN := hide hN
  have HW := hide hw
  clear hN hw
  go_enter Tryd.func14, Tryd.ntmps14
  go_wp2_with fail
  refine (szTree_any L ns L.cap root _ ((unhide HN).later (nx_alloc _ _)) (unhide HW)).mono ?_
  rintro e w1 ⟨r, rfl, hr, hb1⟩
  have hB1 := hide (nx_trans (nx_alloc _ _) hb1)
  rcases hr with hr | ⟨hr0, hs⟩
  · go_wp2
    go_ret
    exact ⟨rfl, unhide hB1⟩
  have HS := hide hs
  have hs1 : w.heap.size < w1.heap.size := by have := hb1.size; simp at this; omega
  have c1 : ∀ o, w1.cell? ⟨w.heap.size, o, none⟩ = (w.alloc (.cells #[.slice L.p ns.length L.cap, .int .i64 root] 40)).cell? ⟨w.heap.size, o, none⟩ := fun o => hb1.cell (p := ⟨w.heap.size, o, none⟩) (by simp)
  have d0 : w1.cell? ⟨w.heap.size, 0, none⟩ = some (.slice L.p ns.length L.cap) := by rw [c1]; simp
  have d1 : w1.cell? ⟨w.heap.size, 1, none⟩ = some (.int .i64 root) := by rw [c1]; simp
  clear hs hb1 c1
  go_wp2_with fail
  refine (toTree_any L ns L.cap root w1 ((unhide HN).later (unhide hB1)) (unhide HS)).mono ?_
  rintro e w2 ⟨L2, rfl, hM2, hb2⟩
  have hB2 := hide (nx_trans (unhide hB1) hb2)
  have hs2 := hb2.size
  have e0 := cell_later hb2 d0
  have e1 := cell_later hb2 d1
  have HM2 := hide hM2
  clear d0 d1 hb2 hM2
  go_wp2_with fail
  refine (specCallsOf_any ns root k L2 w2 (unhide HM2).nodes (unhide HS)).mono ?_
  rintro e w3 ⟨va, zs, ca, rfl, hra, hia, hb3⟩
  obtain ⟨pa, capa, rfl, _⟩ := hia.strs
  have hB3 := hide (nx_trans (unhide hB2) hb3)
  have hs3 := hb3.size
  have hlen := hra.len
  have d0 := cell_later hb3 e0
  have d1 := cell_later hb3 e1
  have HRA := hide hra
  have HIA := hide hia
  clear e0 e1 hb3 hra HM2 hia
  go_wp2_with fail
  refine (toTree_sh L ns L.cap root w3 ((unhide HN).later (unhide hB3)) (unhide HS)).mono ?_
  rintro e w4 ⟨L4, rfl, hM4, hb4⟩
  have hB4 := hide (nx_trans (unhide hB3) hb4)
  have hs4 := hb4.size
  have e0 := cell_later hb4 d0
  have e1 := cell_later hb4 d1
  have HM4 := hide hM4
  have HIA4 := hide ((unhide HIA).later hb4)
  have hoa : ∀ j, (Value.slice pa zs.length capa).ownBlock = some j → j < w3.heap.size := fun j hj => ((unhide HIA).own_lt j hj).2
  have HOA := hide hoa
  clear d0 d1 hb4 hM4 HIA hoa
  go_wp2_with fail
  refine (implCallsOf_any ns root k L4 _ ((unhide HM4).nodes.later (nx_alloc _ _)) (unhide HS) (hide ((unhide htab).later (nx_al (unhide hB4))))).mono ?_
  rintro e w5 ⟨vb, zsb, cb, rfl, hrb, hib, hb5⟩
  obtain ⟨rfl, rfl⟩ := hrb.det (unhide HRA)
  obtain ⟨pb, capb, rfl, _⟩ := hib.strs
  have hB5 := hide (nx_trans (nx_al (unhide hB4)) hb5)
  have hs5 : w4.heap.size < w5.heap.size := by have := hb5.size; simp at this; omega
  have d0 := cell_later hb5 (cell_later (nx_alloc w4 (.cells #[.slice L4.p ns.length L4.cap, .int .i64 root] 25)) e0)
  have d1 := cell_later hb5 (cell_later (nx_alloc w4 (.cells #[.slice L4.p ns.length L4.cap, .int .i64 root] 25)) e1)
  have x0 : w5.cell? ⟨w4.heap.size, 0, none⟩ = some (.slice L4.p ns.length L4.cap) := cell_later hb5 (by simp)
  have x1 : w5.cell? ⟨w4.heap.size, 1, none⟩ = some (.int .i64 root) := cell_later hb5 (by simp)
  have HM5 := hide (((unhide HM4).lat (Nat.le_refl _) (nx_alloc _ _)).lat (by simp) hb5)
  have HIA5 := hide (((unhide HIA4).later (nx_alloc _ _)).later hb5)
  have HIB5 : Hid (StrBuf w5 (w4.heap.size + 1) (.slice pb zsb.length capb) zsb) := hide (by simpa using hib)
  have HRB := hide hrb
  clear e0 e1 hb5 hrb HM4 HRA HIA4 hib
  have q2 : (cb != cb) = false := by simp
  have q4 : (cb == cb) = true := by simp
  go_wp2_with fail
  obtain ⟨pa', capa', ea, hia⟩ := (unhide HIA5).strs
  obtain ⟨pb', capb', eb, hib⟩ := (unhide HIB5).strs
  injection ea with ea1 _ ea2
  injection eb with eb1 _ eb2
  subst ea1 ea2 eb1 eb2
  refine (eqStringS_same pb pa zsb capb capa w5 hib hia hlen).mono ?_
  rintro e w6 ⟨rfl, hb6⟩
  have hB6 := hide (nx_trans (unhide hB5) hb6)
  have hs6 := hb6.size
  have e0 := cell_later hb6 d0
  have e1 := cell_later hb6 d1
  have y0 := cell_later hb6 x0
  have y1 := cell_later hb6 x1
  have HM6 := hide ((unhide HM5).lat (by omega) hb6)
  have HIA6 := hide ((unhide HIA5).later hb6)
  have HIB6 := hide ((unhide HIB5).later hb6)
  clear d0 d1 x0 x1 hb6 HM5 HIA5 HIB5 hia hib
  have HX0 := hide (show w6.drew.cell? ⟨w4.heap.size, 0, none⟩ = some (.slice L4.p ns.length L4.cap) from y0)
  have HX1 := hide (show w6.drew.cell? ⟨w4.heap.size, 1, none⟩ = some (.int .i64 root) from y1)
  have HE0 := hide (show w6.drew.cell? ⟨w.heap.size, 0, none⟩ = some (.slice L.p ns.length L.cap) from e0)
  have HE1 := hide (show w6.drew.cell? ⟨w.heap.size, 1, none⟩ = some (.int .i64 root) from e1)
  have HMD := hide ((unhide HM6).lat (by omega) (Below.refl _ _).drew)
  have HND := hide ((unhide HN).later (unhide hB6).drew)
  have HID : Hid (∀ y z : World, Below w6.drew.heap.size w6.drew y → Below y.heap.size y z → Below w6.heap.size w6 z) := hide fun y z h1 h2 => nx_trans (nx_trans (nx_drew (Below.refl _ _)) h1) h2
  go_wp2
  go_region_with (first | (go_at_call 25; refine (toTree_any L ns L.cap root w6.drew (unhide HND) (unhide HS)).mono ?_; rintro e y ⟨L6, rfl, hM6, hby⟩; have yy0 := cell_later hby (unhide HX0); have yy1 := cell_later hby (unhide HX1); have HMY := hide hM6; have HBY := hide hby; clear hM6 hby) | (go_at_call 27; refine (eqTree_same L4 L6 ns L4.cap L6.cap root y ((unhide HMD).nodes.later (unhide HBY)) (unhide HMY).nodes (unhide HS)).mono ?_; rintro e z ⟨rfl, hbz⟩))
  all_goals (
    have hz6 := unhide HID y z (unhide HBY) hbz
    have hsz := hz6.size
    have hBz := hide (nx_trans (unhide hB6) hz6)
    have d0 := cell_later hz6 e0
    have d1 := cell_later hz6 e1
    have x0 := cell_later hz6 y0
    have x1 := cell_later hz6 y1
    have HMz := hide ((unhide HM6).lat (by omega) hz6)
    have HIAz := hide ((unhide HIA6).later hz6)
    have HIBz := hide ((unhide HIB6).later hz6)
    clear e0 e1 y0 y1 hz6 hbz HBY HMY yy0 yy1 HM6 HIA6 HIB6 HID HX0 HX1 HE0 HE1 HMD HND
    go_wp2_with fail
    refine (markTree_sh L4 ns L4.cap root w3.heap.size w4.heap.size z (unhide HMz) (by omega) (unhide HS)).mono ?_
    rintro e w7 ⟨⟨zz, rfl, hz0, hz1⟩, hT7⟩
    have hB7 := hide ((unhide hBz).trans (hT7.1.mono (by omega)))
    have hs7 := hT7.1.size
    have e0 : w7.cell? ⟨w.heap.size, 0, none⟩ = some (.slice L.p ns.length L.cap) := by rw [hT7.1.cell (p := ⟨w.heap.size, 0, none⟩) (by show w.heap.size < w3.heap.size; omega)]; exact d0
    have e1 : w7.cell? ⟨w.heap.size, 1, none⟩ = some (.int .i64 root) := by rw [hT7.1.cell (p := ⟨w.heap.size, 1, none⟩) (by show w.heap.size < w3.heap.size; omega)]; exact d1
    have HIA7 := hide ((unhide HIAz).below hT7.1 (unhide HOA))
    have HIB7 := hide ((unhide HIBz).touch hT7 (by omega))
    have hzn : ¬ zz < 0 := by omega
    clear d0 d1 x0 x1 hT7 HMz HIAz HIBz hz0 hz1
    go_wp2_with fail
    obtain ⟨pa', capa', ea, hia⟩ := (unhide HIA7).strs
    obtain ⟨pb', capb', eb, hib⟩ := (unhide HIB7).strs
    injection ea with ea1 _ ea2
    injection eb with eb1 _ eb2
    subst ea1 ea2 eb1 eb2
    refine (eqStringS_same pb pa zsb capb capa w7 hib hia hlen).mono ?_
    rintro e w8 ⟨rfl, hb8⟩
    have hB8 := hide (nx_trans (unhide hB7) hb8)
    have hs8 := hb8.size
    have d0 := cell_later hb8 e0
    have d1 := cell_later hb8 e1
    have HIA8 := hide ((unhide HIA7).later hb8)
    have HIB8 := hide ((unhide HIB7).later hb8)
    clear e0 e1 hb8 HIA7 HIB7 hia hib
    go_wp2_with fail
    refine (markStringS_buf (w4.heap.size + 1) pb capb zsb w8 (unhide HIB8) hlen).mono ?_
    rintro e w9 ⟨rfl, hib, hb9⟩
    have hB9 := hide ((unhide hB8).trans (hb9.mono (by omega)))
    have hs9 := hb9.size
    have e0 : w9.cell? ⟨w.heap.size, 0, none⟩ = some (.slice L.p ns.length L.cap) := by rw [hb9.cell (p := ⟨w.heap.size, 0, none⟩) (by show w.heap.size < w4.heap.size + 1; omega)]; exact d0
    have e1 : w9.cell? ⟨w.heap.size, 1, none⟩ = some (.int .i64 root) := by rw [hb9.cell (p := ⟨w.heap.size, 1, none⟩) (by show w.heap.size < w4.heap.size + 1; omega)]; exact d1
    have HIA9 := hide ((unhide HIA8).below hb9 (fun j hj => by have := unhide HOA j hj; omega))
    have HIB9 := hide hib
    clear d0 d1 hb9 HIA8 HIB8 hib
    have HMK : Hid (∀ wx : World, StrBuf wx (w4.heap.size + 1) (.slice pb zsb.length capb) (marksS zsb.length) → StrsAt wx pb (marksS zsb.length)) := hide (fun wx h => by
      obtain ⟨pb', capb', eb, hib⟩ := h.strs
      injection eb with eb1 _ eb2
      subst eb1
      exact hib)
    go_wp2_with fail
    refine (heldStringS_at pb zsb.length capb w9 (unhide HMK _ (unhide HIB9)) hlen).mono ?_
    rintro e w10 ⟨rfl, hb10⟩
    have hB10 := hide (nx_trans (unhide hB9) hb10)
    have f0 := cell_later hb10 e0
    have f1 := cell_later hb10 e1
    have HIA10 := hide ((unhide HIA9).later hb10)
    have HIB10 := hide ((unhide HIB9).later hb10)
    clear e0 e1 hb10 HIA9 HIB9
    have q5 : ((1 + (zsb.length : Int)) != (1 + (zsb.length : Int))) = false := by simp
    have q6 : ((1 + (zsb.length : Int)) == (1 + (zsb.length : Int))) = true := by simp
    have q7 : ¬ (1 + (zsb.length : Int)) < 0 := by omega
    go_wp2_with fail
    refine (toTree_any L ns L.cap root w10 ((unhide HN).later (unhide hB10)) (unhide HS)).mono ?_
    rintro e w11 ⟨L11, rfl, hM11, hb11⟩
    have hB11 := hide (nx_trans (unhide hB10) hb11)
    have hs11 := hb11.size
    have HIA11 := hide ((unhide HIA10).later hb11)
    have HIB11 := hide ((unhide HIB10).later hb11)
    have HM11 := hide hM11
    clear f0 f1 hb11 HIA10 HIB10 hM11
    go_wp2_with fail
    refine (implCallsOf_any ns root k L11 w11 (unhide HM11).nodes (unhide HS) (hide ((unhide htab).later (unhide hB11)))).mono ?_
    rintro e w12 ⟨vc, zsc, cc, rfl, hrc, hic, hb12⟩
    obtain ⟨rfl, rfl⟩ := hrc.det (unhide HRB)
    obtain ⟨pc, capc, rfl, hic'⟩ := hic.strs
    have hB12 := hide (nx_trans (unhide hB11) hb12)
    have HIA12 := hide ((unhide HIA11).later hb12)
    have HIB12 := hide ((unhide HIB11).later hb12)
    clear hb12 HIA11 HIB11 HM11 hrc hic
    obtain ⟨pa', capa', ea, hia⟩ := (unhide HIA12).strs
    injection ea with ea1 _ ea2
    subst ea1 ea2
    have HC := hide hic'
    have HA := hide hia
    clear hic' hia HIA12
    go_wp2_with fail
    refine (eqStringS_same pc pa zsc capc capa w12 (unhide HC) (unhide HA) hlen).mono ?_
    rintro e w13 ⟨rfl, hb13⟩
    have hB13 := hide (nx_trans (unhide hB12) hb13)
    have HIB13 := hide ((unhide HIB12).later hb13)
    clear hb13 HIB12 HC HA
    go_wp2_with fail
    refine (heldStringS_at pb zsc.length capb w13 (unhide HMK _ (unhide HIB13)) hlen).mono ?_
    rintro e w14 ⟨rfl, hb14⟩
    have hB14 := hide (nx_trans (unhide hB13) hb14)
    clear hb14
    go_wp2
    go_ret
    exact ⟨rfl, unhide hB14⟩)

/-- what the function of a name calls -/
def StepF (ns : List TN) (root : Int) (s : ByteArray) (cs : List ByteArray) : Prop := ∃ r : Int, FirstFn ns root s r ∧ 0 ≤ r ∧ NodeC ns (fun t => t ∈ namesF ns root) r [] cs
theorem StepF.det {ns : List TN} {root : Int} {s : ByteArray} {cs cs' : List ByteArray} (h : StepF ns root s cs) (h' : StepF ns root s cs') : cs = cs' := by
  obtain ⟨r, h1, _, h2⟩ := h
  obtain ⟨r', g1, _, g2⟩ := h'
  obtain rfl := h1.det g1
  exact h2.det g2
theorem StepF.sub {ns : List TN} {root : Int} {s : ByteArray} {cs : List ByteArray} (h : StepF ns root s cs) : ∀ t ∈ cs, t ∈ namesF ns root := by
  obtain ⟨r, h1, _, h2⟩ := h
  intro t ht
  rcases h2.mem t ht with h | h
  · simp at h
  · exact h
/-- one call or more lead from one to the other -/
inductive Leads2 (ns : List TN) (root : Int) : ByteArray → ByteArray → Prop
  | one (s t : ByteArray) (cs : List ByteArray) : StepF ns root s cs → t ∈ cs → Leads2 ns root s t
  | more (s u t : ByteArray) (cs : List ByteArray) : StepF ns root s cs → u ∈ cs → Leads2 ns root u t → Leads2 ns root s t
theorem Leads2.snoc {ns : List TN} {root : Int} {s x t : ByteArray} {cs : List ByteArray} (h : Leads2 ns root s x) (hs : StepF ns root x cs) (ht : t ∈ cs) : Leads2 ns root s t := by
  induction h with
  | one s x cs' h1 h2 => exact .more s x t cs' h1 h2 (.one x t cs hs ht)
  | more s u x cs' h1 h2 h3 ih => exact .more s u t cs' h1 h2 (ih hs)
/-- so far: those that were met, the first i of them looked at -/
structure InvC (ns : List TN) (root : Int) (src dst : ByteArray) (R : List ByteArray) (i : Nat) : Prop where
  first : R[0]? = some src
  sub : ∀ x ∈ R, x ∈ namesF ns root
  from_ : ∀ x ∈ R, x = src ∨ Leads2 ns root src x
  shut : ∀ k x cs, k < i → R[k]? = some x → StepF ns root x cs → dst ∉ cs ∧ ∀ u ∈ cs, u ∈ R
theorem InvC.start {ns : List TN} {root : Int} {src dst : ByteArray} (h : src ∈ namesF ns root) : InvC ns root src dst [src] 0 :=
  ⟨rfl, fun x hx => by rw [List.mem_singleton] at hx; subst hx; exact h, fun x hx => by rw [List.mem_singleton] at hx; exact .inl hx, fun k x cs hk => absurd hk (by omega)⟩
theorem InvC.reach {ns : List TN} {root : Int} {src dst : ByteArray} {R : List ByteArray} {i : Nat} (h : InvC ns root src dst R i) {x u : ByteArray} {cs : List ByteArray} (hx : x ∈ R) (hs : StepF ns root x cs) (hu : u ∈ cs) : Leads2 ns root src u := by
  rcases h.from_ x hx with rfl | hl
  · exact .one x u cs hs hu
  · exact hl.snoc hs hu
theorem InvC.add {ns : List TN} {root : Int} {src dst : ByteArray} {R : List ByteArray} {i : Nat} (h : InvC ns root src dst R i) {x u : ByteArray} {cs : List ByteArray} (hx : x ∈ R) (hs : StepF ns root x cs) (hu : u ∈ cs) (hi : i < R.length) : InvC ns root src dst (R ++ [u]) i := by
  refine ⟨?_, fun y hy => ?_, fun y hy => ?_, fun k y cs' hk hy hs' => ?_⟩
  · rw [List.getElem?_append_left (by omega)]; exact h.first
  · rcases List.mem_append.1 hy with hy | hy
    · exact h.sub y hy
    · rw [List.mem_singleton] at hy; subst hy; exact hs.sub y hu
  · rcases List.mem_append.1 hy with hy | hy
    · exact h.from_ y hy
    · rw [List.mem_singleton] at hy; subst hy; exact .inr (h.reach hx hs hu)
  · rw [List.getElem?_append_left (by omega)] at hy
    obtain ⟨a, b⟩ := h.shut k y cs' hk hy hs'
    exact ⟨a, fun v hv => List.mem_append.2 (.inl (b v hv))⟩
theorem InvC.next {ns : List TN} {root : Int} {src dst : ByteArray} {R : List ByteArray} {i : Nat} (h : InvC ns root src dst R i) {x : ByteArray} {cs : List ByteArray} (hx : R[i]? = some x) (hs : StepF ns root x cs) (hc : ∀ u ∈ cs, u ≠ dst ∧ u ∈ R) : InvC ns root src dst R (i + 1) := by
  refine ⟨h.first, h.sub, h.from_, fun k y cs' hk hy hs' => ?_⟩
  by_cases e : k = i
  · subst e
    rw [hx] at hy
    obtain rfl := Option.some.inj hy
    obtain rfl := hs.det hs'
    exact ⟨fun hd => (hc dst hd).1 rfl, fun u hu => (hc u hu).2⟩
  · exact h.shut k y cs' (by omega) hy hs'
theorem InvC.none {ns : List TN} {root : Int} {src dst : ByteArray} {R : List ByteArray} {i : Nat} (h : InvC ns root src dst R i) (hi : R.length ≤ i) : ¬ Leads2 ns root src dst := by
  have key : ∀ s t, Leads2 ns root s t → t = dst → s ∈ R → False := by
    intro s t hl
    induction hl with
    | one s t cs hs ht =>
      rintro rfl hm
      obtain ⟨k, hk, e⟩ := List.getElem_of_mem hm
      exact (h.shut k s cs (by omega) (by rw [List.getElem?_eq_getElem hk, e]) hs).1 ht
    | more s u t cs hs hu hl ih =>
      intro e hm
      obtain ⟨k, hk, e2⟩ := List.getElem_of_mem hm
      exact ih e ((h.shut k s cs (by omega) (by rw [List.getElem?_eq_getElem hk, e2]) hs).2 u hu)
  intro hl
  exact key src dst hl rfl (List.mem_of_getElem? h.first)
theorem sub_le : ∀ (R N : List ByteArray), R.Nodup → (∀ x ∈ R, x ∈ N) → R.length ≤ N.length
  | [], N, _, _ => by simp
  | x :: R, N, hn, hs => by
    rw [List.nodup_cons] at hn
    obtain ⟨a, b, rfl⟩ := List.append_of_mem (hs x (by simp))
    have := sub_le R (a ++ b) hn.2 (fun y hy => by
      have hne : y ≠ x := fun e => hn.1 (e ▸ hy)
      have := hs y (by simp [hy])
      simp [hne] at this ⊢
      exact this)
    simp at this ⊢
    omega
theorem nodup_snoc {R : List ByteArray} {u : ByteArray} (h : R.Nodup) (hu : u ∉ R) : (R ++ [u]).Nodup := by
  rw [List.nodup_append]
  exact ⟨h, by simp, fun x hx y hy e => by rw [List.mem_singleton] at hy; subst hy; subst e; exact hu hx⟩
/-- what a call that asks this answers -/
def ComesRes (ns : List TN) (root : Int) (src dst : ByteArray) (b : Bool) (c : Int) : Prop := ((65536 < src.size ∨ 65536 < dst.size) ∧ b = false ∧ c = 2) ∨ (¬ (65536 < src.size ∨ 65536 < dst.size) ∧ ¬ TreeOkP ns root ∧ b = false ∧ c = 1) ∨ (¬ (65536 < src.size ∨ 65536 < dst.size) ∧ TreeOkP ns root ∧ ¬ (src ∈ namesF ns root ∧ dst ∈ namesF ns root) ∧ b = false ∧ c = 11) ∨ (¬ (65536 < src.size ∨ 65536 < dst.size) ∧ TreeOkP ns root ∧ (src ∈ namesF ns root ∧ dst ∈ namesF ns root) ∧ (b = true ↔ Leads2 ns root src dst) ∧ c = 0)
theorem ComesRes.det {ns : List TN} {root : Int} {src dst : ByteArray} {b b' : Bool} {c c' : Int} (h : ComesRes ns root src dst b c) (h' : ComesRes ns root src dst b' c') : b = b' ∧ c = c' := by
  rcases h with ⟨a, rfl, rfl⟩ | ⟨a, e, rfl, rfl⟩ | ⟨a, e, f, rfl, rfl⟩ | ⟨a, e, f, g, rfl⟩ <;> rcases h' with ⟨a', rfl, rfl⟩ | ⟨a', e', rfl, rfl⟩ | ⟨a', e', f', rfl, rfl⟩ | ⟨a', e', f', g', rfl⟩
  all_goals first | exact ⟨rfl, rfl⟩ | exact absurd a a' | exact absurd a' a | exact absurd e e' | exact absurd e' e | exact absurd f f' | exact absurd f' f | skip
  refine ⟨?_, rfl⟩
  cases b <;> cases b'
  · rfl
  · exact absurd (g.2 (g'.1 rfl)) (by simp)
  · exact absurd (g'.2 (g.1 rfl)) (by simp)
  · rfl

open Go.RowKit in
def ComesP (ns : List TN) (root : Int) (src dst : ByteArray) (w : World) (e : Ending) (w' : World) : Prop := ∃ (r : Bool) (c : Int), e = .returned (.tuple #[.bool r, .int .i64 c]) ∧ ComesRes ns root src dst r c ∧ Below w.heap.size w w'
open Go.RowKit in
theorem ComesP.mk {ns : List TN} {root : Int} {src dst : ByteArray} {w w' : World} {r : Bool} {c : Int} (h : ComesRes ns root src dst r c) (hb : Below w.heap.size w w') : ComesP ns root src dst w (.returned (.tuple #[.bool r, .int .i64 c])) w' := ⟨r, c, rfl, h, hb⟩

theorem StrBuf.growB {w w' : World} {base : Nat} {v v' v2 : Value} {zs : List ByteArray} (h : StrBuf w base v2 zs) (hg : GrowB v v' w w') (hne : ∀ j2, v2.ownBlock = some j2 → ∀ j, v.ownBlock = some j → j ≠ j2) : StrBuf w' base v2 zs := by
  have hlt := h.own_lt
  refine ⟨h.1, ?_⟩
  rcases h.2 with h' | ⟨g, cap, cur, e, hgb, hgg, r⟩
  · exact .inl h'
  · refine .inr ⟨g, cap, cur, e, hgb, ?_, r⟩
    have ho : v2.ownBlock = some g := by rw [e]; rfl
    rw [hg.block (hlt g ho).2 (fun j hj => hne g ho j hj)]; exact hgg
/-- what the calls of functions are found by -/
structure Finds (w : World) (ns : List TN) (root : Int) (L : Lay) (loc : Nat → Nat) (l : List Nat) (pf : Option Addr) (b n : Nat) : Prop where
  br : ∀ y ∈ l, BrIn w (fun k => k < w.heap.size) L ns loc y
  map : MapIs w b n (placeIn (namesF ns root))
  row : PtrsIn w (fun k => k < w.heap.size) pf ((funsOf ns root).map fun j => loc j.toNat)
theorem Finds.call {w wx : World} {ns : List TN} {root : Int} {L : Lay} {loc : Nat → Nat} {l : List Nat} {d : Nat} {pf : Option Addr} {b n : Nat} (h : Finds w ns root L loc l pf b n) (hT : TreeP ns root l d) (hS : Hid (Small ns)) (nf cf : Nat) {x : ByteArray} (hx : x ∈ namesF ns root) (hxs : x.size ≤ maxLen) (hb : Below w.heap.size w wx) :
    ∃ i bp gj : Nat, i < (funsOf ns root).length ∧ pf = some ⟨bp, 0, none⟩ ∧ wx.cell? ⟨bp, i, none⟩ = some (.pointer (some ⟨gj, 0, none⟩)) ∧ (Instr.lookup 94 (.map (some b)) (.string x) false).run Tryd.prog wx = .ok (.int .i64 (i : Int)) wx ∧
      Calls Tryd.prog 82 #[.agg #[.slice pf nf cf, .map (some b)], .slice none 0 0, .pointer (some ⟨gj, 0, none⟩)] wx fun e w' => ∃ v' cs, e = .returned v' ∧ StepF ns root x cs ∧ StrBuf w' wx.heap.size v' cs ∧ Below wx.heap.size wx w' ∧ cs.length ≤ 1048576 := by
  obtain ⟨i, hpi, hi, _, _⟩ := placeIn_get hx
  have hi' : i < (funsOf ns root).length := by unfold namesF at hi; rw [List.length_map] at hi; exact hi
  have hF : FirstFn ns root x (funsOf ns root)[i] := .inr ⟨i, hi', hpi, rfl⟩
  have hj0 : 0 ≤ (funsOf ns root)[i] := by
    rcases hF.pos ⟨l, d, hT⟩ with ⟨h1, _⟩ | ⟨_, h1⟩
    · exact absurd hx h1
    · exact h1
  obtain ⟨hr0, hrl, hrn⟩ := hT.root
  have hm := (fnsIn_mem.1 (List.getElem_mem hi')).1
  rw [rootKids_of (List.getElem?_eq_getElem hrn)] at hm
  have hjl := (hT.2.1.1.kid root.toNat hrl _ (List.getElem?_eq_getElem hrn) _ hm).2
  have hjn := hT.2.1.1.lt _ hjl
  obtain ⟨bp, e, hbp, hc⟩ := h.row i (by rw [List.length_map]; exact hi')
  rw [List.getElem_map] at hc
  refine ⟨i, bp, loc (funsOf ns root)[i].toNat, hi', e, cellB hb hbp hc, ?_, ?_⟩
  · have := (h.map.later hb).look0 x hxs
    rw [hpi] at this
    exact this
  · have hM := h.map.later hb
    have hG : Gath wx wx.heap.size L ns loc l b n (placeIn (namesF ns root)) := ⟨fun y hy => (h.br y hy).keep (fun k hk => hb.block k hk) (fun k hk => by have := hb.size; omega), hM, hM.lt, Nat.le_refl _⟩
    obtain ⟨lx, dx, vx, hlx, hl200⟩ := hT.part hjn
    have := addCalls_any ns L loc l wx.heap.size b n nf cf pf _ hS dx dx _ lx [] (.slice none 0 0) wx (Nat.le_refl _) vx hlx (by simp; omega) (StrBuf.nil _ _) hG
    rw [placeF] at this
    refine this.mono ?_
    rintro e w' ⟨v', cs, rfl, hN, hS', hG'⟩
    refine ⟨v', cs, rfl, ⟨_, hF, hj0, ?_⟩, hS', hG'.below (Nat.le_refl _) (fun j hj => by cases hj), hN.le vx hl200⟩
    rw [Int.toNat_of_nonneg hj0] at hN
    exact hN

set_option maxHeartbeats 4000000 in
set_option maxRecDepth 100000 in
theorem leads_any (ns : List TN) (root : Int) (L : Lay) (loc : Nat → Nat) (l : List Nat) (d : Nat) (pf : Option Addr) (b n cf : Nat) (src dst : ByteArray) (w : World) (hT : TreeP ns root l d) (hS : Hid (Small ns)) (hF : Finds w ns root L loc l pf b n) (hs : src ∈ namesF ns root) (hl : (namesF ns root).length ≤ 1048576) (hsz : ∀ s ∈ namesF ns root, s.size ≤ 1048576) (hds : dst.size ≤ 1048576) :
    Calls Tryd.prog 85 #[.agg #[.slice pf (funsOf ns root).length cf, .map (some b)], .string src, .string dst] w fun e w' => ∃ r : Bool, e = .returned (.bool r) ∧ (r = true ↔ Leads2 ns root src dst) ∧ Below w.heap.size w w' := by
  have HFI : Hid (∀ (wx : World) (x : ByteArray), x ∈ namesF ns root → Below w.heap.size w wx → ∃ i bp gj : Nat, i < (funsOf ns root).length ∧ pf = some ⟨bp, 0, none⟩ ∧ wx.cell? ⟨bp, i, none⟩ = some (.pointer (some ⟨gj, 0, none⟩)) ∧ (Instr.lookup 94 (.map (some b)) (.string x) false).run Tryd.prog wx = .ok (.int .i64 (i : Int)) wx ∧ Calls Tryd.prog 82 #[.agg #[.slice pf (funsOf ns root).length cf, .map (some b)], .slice none 0 0, .pointer (some ⟨gj, 0, none⟩)] wx fun e w' => ∃ v' cs, e = .returned v' ∧ StepF ns root x cs ∧ StrBuf w' wx.heap.size v' cs ∧ Below wx.heap.size wx w' ∧ cs.length ≤ 1048576) := hide (fun wx x hx hb => hF.call hT hS _ cf hx (by unfold maxLen; have := hsz x hx; omega) hb)
  have HLEN : Hid (∀ R : List ByteArray, R.Nodup → (∀ x ∈ R, x ∈ namesF ns root) → R.length ≤ 1048576) := hide (fun R h1 h2 => Nat.le_trans (sub_le R _ h1 h2) hl)
  have HI0 := hide (InvC.start (dst := dst) hs)
  have hnf : (funsOf ns root).length ≤ 1048576 := by unfold namesF at hl; rw [List.length_map] at hl; exact hl
  generalize hnn : (funsOf ns root).length = nf at HFI hnf ⊢
  clear hT hF hs hl hsz hnn
  have HL0 : Hid (StrBuf (w.alloc (.cells #[.slice pf nf cf, .map (some b)] 96) |>.alloc (.cells #[.string src] 9)) (w.heap.size + 1) (.slice (some ⟨w.heap.size + 1, 0, none⟩) 1 1) [src]) := hide (by
    have := StrBuf.lit (w.alloc (.cells #[.slice pf nf cf, .map (some b)] 96)) (w.heap.size + 1) [src] (by simp) (by unfold maxLen; simp)
    simpa using this)
  have B0 : Hid ((w.alloc (.cells #[.slice pf nf cf, .map (some b)] 96) |>.alloc (.cells #[.string src] 9)).cell? ⟨w.heap.size, 0, none⟩ = some (.slice pf nf cf)) := hide (cell_later (nx_alloc _ _) (by simp))
  have B1 : Hid ((w.alloc (.cells #[.slice pf nf cf, .map (some b)] 96) |>.alloc (.cells #[.string src] 9)).cell? ⟨w.heap.size, 1, none⟩ = some (.map (some b))) := hide (cell_later (nx_alloc _ _) (by simp))
  go_enter Tryd.func85, Tryd.ntmps85
  go_wp2
  go_step3
  go_wp2
  go_step3
  go_wp2
  go_loopw [7, 8, 9] (fun s7 s8 s9 wx => ∃ (R : List ByteArray) (i : Nat), s7 = .bool false ∧ s9 = .int .i64 i ∧ i ≤ R.length ∧ R.length ≤ 1048576 ∧ Hid (InvC ns root src dst R i) ∧ Hid R.Nodup ∧ Hid (StrBuf wx (w.heap.size + 1) s8 R) ∧ Hid (Below w.heap.size w wx) ∧ Hid (wx.cell? ⟨w.heap.size, 0, none⟩ = some (.slice pf nf cf)) ∧ Hid (wx.cell? ⟨w.heap.size, 1, none⟩ = some (.map (some b)))) (fun _ _ s9 _ => 2000000 - (intOf s9).toNat)
  case atStart => exact ⟨[src], 0, rfl, rfl, by simp, by simp, HI0, hide (by simp), HL0, hide (nx_al (nx_alloc _ _)), B0, B1⟩
  case round =>
    clear HI0 HL0 B0 B1
    obtain ⟨R, i, rfl, rfl, hi, hRl, hI, hND, hS8, hB, hb0, hb1⟩ := hrel
    obtain ⟨pr, cr, rfl⟩ := (unhide hS8).slice
    have c0 := unhide hb0
    have c1 := unhide hb1
    have hwN : w.heap.size < wr.heap.size := World.block_lt_of_cell? _ _ c0
    by_cases hlt : i < R.length
    · obtain ⟨a', c', ea, hst⟩ := (unhide hS8).strs
      injection ea with ea _ ec
      subst ea ec
      obtain ⟨br, or, hpr, u0⟩ := hst i hlt
      subst hpr
      have HXI : Hid (R[i]? = some R[i]) := hide (List.getElem?_eq_getElem hlt)
      have hxN := (unhide hI).sub R[i] (List.getElem_mem hlt)
      obtain ⟨q, bp, gj, hq, hpf, hf0, hlk, hcall⟩ := unhide HFI wr.drew R[i] hxN (unhide hB).drew
      have HC := hide hcall
      have f0 : wr.cell? ⟨bp, q, none⟩ = some (.pointer (some ⟨gj, 0, none⟩)) := hf0
      generalize R[i] = x at u0 HXI hlk HC
      subst hpf
      have hq0 : (0 : Int) ≤ (q : Int) := Int.natCast_nonneg _
      have hq1 : (q : Int) < (nf : Int) := by omega
      have hi0 : (0 : Int) ≤ (i : Int) := Int.natCast_nonneg _
      have hi1 : (i : Int) < (R.length : Int) := by omega
      have C0 : Hid (wr.drew.cell? ⟨w.heap.size, 0, none⟩ = some (.slice (some ⟨bp, 0, none⟩) nf cf)) := hide c0
      have C1 : Hid (wr.drew.cell? ⟨w.heap.size, 1, none⟩ = some (.map (some b))) := hide c1
      have S8 := hide ((unhide hS8).later (nx_drew (Below.refl wr.heap.size wr)))
      have BD := hide (unhide hB).drew
      clear hst hcall hxN hf0
      go_wp2
      go_region
      clear c0 c1 f0 u0 hlk hS8 hB hb0 hb1
      have hwd : w.heap.size < wr.drew.heap.size := hwN
      generalize wr.drew = wd at HC C0 C1 S8 BD hwd ⊢
      have e0 := unhide C0
      have e1 := unhide C1
      go_wp2_with fail
      refine (unhide HC).mono ?_
      rintro e w2 ⟨v2, cs, rfl, hSt, hS2, hb2, hcl⟩
      obtain ⟨p2, k2, rfl⟩ := hS2.slice
      have HSt := hide hSt
      have HS2 := hide hS2
      have X0 := hide (cell_later hb2 (unhide C0))
      have X1 := hide (cell_later hb2 (unhide C1))
      have S9 := hide ((unhide S8).later hb2)
      have B9 := hide (nx_trans (unhide BD) hb2)
      have hw2 := hb2.size
      have HXM : Hid (x ∈ R) := hide (List.mem_of_getElem? (unhide HXI))
      have HDJ : Hid (∀ j2, (Value.slice p2 cs.length k2).ownBlock = some j2 → ∀ j, (Value.slice (some ⟨br, or, none⟩) R.length cr).ownBlock = some j → j ≠ j2) := hide (fun j2 h2 j h1 => by
        have a1 := hS2.own_lt j2 h2
        have a2 := (unhide S8).own_lt j h1
        omega)
      clear hSt hS2 hb2 HC C0 C1 S8 BD e0 e1
      go_wp2
      go_loopw [7, 8, 36] (fun s7 s8 s36 wx => ∃ (Q : List ByteArray) (k : Nat), s7 = .bool false ∧ s36 = .int .i64 k ∧ k ≤ cs.length ∧ i < Q.length ∧ Q.length ≤ 1048576 ∧ Hid (InvC ns root src dst Q i) ∧ Hid (Q[i]? = some x) ∧ Hid Q.Nodup ∧ Hid (∀ u ∈ cs.take k, u ≠ dst ∧ u ∈ Q) ∧ Hid (StrBuf wx (w.heap.size + 1) s8 Q) ∧ Hid (StrBuf wx wd.heap.size (.slice p2 cs.length k2) cs) ∧ Hid (∀ j2, (Value.slice p2 cs.length k2).ownBlock = some j2 → ∀ j, s8.ownBlock = some j → j ≠ j2) ∧ Hid (Below w.heap.size w wx) ∧ Hid (wx.cell? ⟨w.heap.size, 0, none⟩ = some (.slice (some ⟨bp, 0, none⟩) nf cf)) ∧ Hid (wx.cell? ⟨w.heap.size, 1, none⟩ = some (.map (some b)))) (fun _ _ s36 _ => cs.length - (intOf s36).toNat)
      case atStart => exact ⟨R, 0, rfl, rfl, by omega, hlt, hRl, hide (unhide hI), hide (unhide HXI), hide (unhide hND), hide (by simp), hide (unhide S9), hide (unhide HS2), hide (unhide HDJ), hide (unhide B9), hide (unhide X0), hide (unhide X1)⟩
      case round =>
        clear HXM HDJ S9 HS2 B9 X0 X1 hI HXI hND
        obtain ⟨Q, k, rfl, rfl, hk, hiQ, hQl, hI, hQi, hND, hcs, hS8, hS2, hDJ, hB, hb0, hb1⟩ := hrel
        obtain ⟨p8, c8, rfl⟩ := (unhide hS8).slice
        have c0 := unhide hb0
        have c1 := unhide hb1
        have hwN2 : w.heap.size < wr.heap.size := World.block_lt_of_cell? _ _ c0
        by_cases hkl : k < cs.length
        · obtain ⟨a', c', ea, hst⟩ := (unhide hS2).strs
          injection ea with ea _ ec
          subst ea ec
          obtain ⟨b2, o2, hp2, u0⟩ := hst k hkl
          subst hp2
          have HUC := hide (List.getElem_mem hkl)
          have HUT := hide (List.take_succ_eq_append_getElem hkl)
          generalize cs[k] = u at u0 HUC HUT
          clear hst
          by_cases hud : u = dst
          · have hD : Hid (Leads2 ns root src dst) := hide (hud ▸ (unhide hI).reach (List.mem_of_getElem? (unhide hQi)) (unhide HSt) (unhide HUC))
            subst hud
            have e1 := ba_self u
            have e2 := bl_self u
            clear HUC HUT
            go_wp2
            try rw [Exit.noGoto_ret]
            go_ret
            exact ⟨true, rfl, ⟨fun _ => unhide hD, fun _ => rfl⟩, unhide hB⟩
          · have e1 := ba_ne hud
            have e2 := bl_ne hud
            obtain ⟨a8, k8, e8, hst8⟩ := (unhide hS8).strs
            injection e8 with e8 _ e9
            subst e8 e9
            have HST8 := hide hst8
            clear hst8
            by_cases huQ : u ∈ Q
            · have HC2 := hide (ContainsS_yes p8 Q c8 u wr (unhide HST8) hQl huQ)
              have HCS : Hid (∀ v ∈ cs.take (k + 1), v ≠ dst ∧ v ∈ Q) := hide (fun v hv => by
                rw [unhide HUT] at hv
                rcases List.mem_append.1 hv with hv | hv
                · exact unhide hcs v hv
                · rw [List.mem_singleton] at hv; subst hv; exact ⟨hud, huQ⟩)
              clear hud huQ HUC HUT
              go_wp2_with fail
              refine (unhide HC2).mono ?_
              rintro e wr ⟨rfl, rfl⟩
              go_wp2
              go_roundw
              case rel => exact ⟨Q, k + 1, rfl, by go_num, by omega, hiQ, hQl, hide (unhide hI), hide (unhide hQi), hide (unhide hND), hide (unhide HCS), hide (unhide hS8), hide (unhide hS2), hide (unhide hDJ), hide (unhide hB), hide (unhide hb0), hide (unhide hb1)⟩
              case measure => simp [intOf]; omega
            · have HC2 := hide (ContainsS_no p8 Q c8 u wr (unhide HST8) hQl huQ)
              have HI2 := hide ((unhide hI).add (List.mem_of_getElem? (unhide hQi)) (unhide HSt) (unhide HUC) hiQ)
              have HND2 := hide (nodup_snoc (unhide hND) huQ)
              have hQ2 : (Q ++ [u]).length ≤ 1048576 := unhide HLEN _ (unhide HND2) (unhide HI2).sub
              have HQi2 : Hid ((Q ++ [u])[i]? = some x) := hide (by rw [List.getElem?_append_left hiQ]; exact unhide hQi)
              have HCS : Hid (∀ v ∈ cs.take (k + 1), v ≠ dst ∧ v ∈ Q ++ [u]) := hide (fun v hv => by
                rw [unhide HUT] at hv
                rcases List.mem_append.1 hv with hv | hv
                · exact ⟨(unhide hcs v hv).1, List.mem_append.2 (.inl (unhide hcs v hv).2)⟩
                · rw [List.mem_singleton] at hv; subst hv; exact ⟨hud, by simp⟩)
              clear hud huQ HUC HUT
              go_wp2_with fail
              refine (unhide HC2).mono ?_
              rintro e wr ⟨rfl, rfl⟩
              go_wp2_with (at_builtin; refine wp_appStrAt _ rfl _ _ rfl (w.heap.size + 1) wr.heap.size _ Q u rfl ((unhide hS8).alloc _) rfl (by simp) ?c1 ?c2 ?c3)
              case c1 => simp; omega
              case c2 => omega
              case c3 =>
                intro v3 w3 hS3 hG3
                have hG := (GrowB.of_below (v := .slice p8 Q.length c8) (nx_alloc wr (.cells #[.string u] 9))).trans hG3
                have HS3 := hide hS3
                have HS2n := hide ((unhide hS2).growB hG (unhide hDJ))
                have HDJ2 : Hid (∀ j2, (Value.slice (some ⟨b2, o2, none⟩) cs.length k2).ownBlock = some j2 → ∀ j, v3.ownBlock = some j → j ≠ j2) := hide (fun j2 h2 j h3 => by
                  rcases hG.lies j h3 with h | h
                  · exact unhide hDJ j2 h2 j h
                  · have := ((unhide hS2).own_lt j2 h2).2
                    omega)
                have HOW : Hid (∀ j, (Value.slice p8 Q.length c8).ownBlock = some j → w.heap.size + 1 ≤ j) := hide (fun j hj => ((unhide hS8).own_lt j hj).1)
                have HB3 : Hid (Below w.heap.size w w3) := hide ((unhide hB).trans (hG.below (by omega) (fun j hj => by have := unhide HOW j hj; omega)))
                have HX0 := hide (hG.cell c0 (fun j hj => by have := unhide HOW j hj; omega))
                have HX1 := hide (hG.cell c1 (fun j hj => by have := unhide HOW j hj; omega))
                have hq2 : i < (Q ++ [u]).length := by simp; omega
                clear hS3 hG3 hG
                go_wp2
                go_roundw
                case rel => exact ⟨Q ++ [u], k + 1, rfl, by go_num, by omega, hq2, hQ2, hide (unhide HI2), hide (unhide HQi2), hide (unhide HND2), hide (unhide HCS), hide (unhide HS3), hide (unhide HS2n), hide (unhide HDJ2), hide (unhide HB3), hide (unhide HX0), hide (unhide HX1)⟩
                case measure => simp [intOf]; omega
        · have HIN := hide ((unhide hI).next (unhide hQi) (unhide HSt) (by
            have := unhide hcs
            rw [show k = cs.length by omega, List.take_length] at this
            exact this))
          go_wp2
          go_roundw
          case rel => exact ⟨Q, i + 1, rfl, by go_num, by omega, hQl, hide (unhide HIN), hide (unhide hND), hide (unhide hS8), hide (unhide hB), hide (unhide hb0), hide (unhide hb1)⟩
          case measure => simp [intOf]; omega
    · have hD := hide ((unhide hI).none (by omega))
      go_wp2
      try rw [Exit.noGoto_ret]
      go_ret
      exact ⟨false, rfl, ⟨fun h => (by cases h), fun h => absurd h (unhide hD)⟩, unhide hB⟩

set_option maxHeartbeats 2000000 in
set_option maxRecDepth 100000 in
theorem implComes_any (ns : List TN) (root : Int) (src dst : ByteArray) (L : Lay) (w : World) (hN : NodesAt w L ns) (hsm : Small ns) (hs1 : src.size ≤ 1048576) (hd1 : dst.size ≤ 1048576) (htab : Hid (TabAt w 0 srcWords)) :
    Calls Tryd.prog 51 #[.agg #[.slice L.p ns.length L.cap, .int .i64 root], .string src, .string dst] w (ComesP ns root src dst w) := by
  have HN := hide hN
  have HS := hide hsm
  clear hN hsm
  by_cases h1 : 65536 < src.size
  · go_enter Tryd.func51, Tryd.ntmps51
    go_wp2
    go_ret2
    exact ComesP.mk (.inl ⟨.inl h1, rfl, rfl⟩) (nx_alloc _ _)
  by_cases h2 : 65536 < dst.size
  · go_enter Tryd.func51, Tryd.ntmps51
    go_wp2
    go_ret2
    exact ComesP.mk (.inl ⟨.inr h2, rfl, rfl⟩) (nx_alloc _ _)
  have h3 : ¬ (65536 < src.size ∨ 65536 < dst.size) := by omega
  have H3 := hide h3
  have d1 : decide (65536 < src.size) = false := decide_eq_false h1
  have d2 : decide (65536 < dst.size) = false := decide_eq_false h2
  clear h3
  go_enter Tryd.func51, Tryd.ntmps51
  go_wp2_with fail
  refine (rootOf_any ns root L _ ((unhide HN).later (nx_alloc _ _)) (unhide HS) (hide ((unhide htab).later (nx_alloc _ _)))).mono ?_
  rintro e w1 ⟨hb, hres⟩
  have hB := hide (nx_trans (nx_alloc _ _) hb)
  have hw1 : w.heap.size < w1.heap.size := by have := hb.size; simp at this; omega
  clear hb
  rcases hres with ⟨rfl, hno⟩ | ⟨G, B, loc, l, d, hT, hG, x, hxr, rfl⟩
  · have hD : Hid (ComesRes ns root src dst false 1) := hide (.inr (.inl ⟨unhide H3, hno, rfl, rfl⟩))
    clear hno
    go_wp2
    go_ret2
    exact ComesP.mk (unhide hD) (unhide hB)
  obtain ⟨r, hr, _⟩ := hT.2.2.1
  have hrl : r.kids.length ≤ 1048576 := ((unhide HS).2 r (List.mem_of_getElem? hr)).2.2.1
  have hrx : ns[x]? = some r := by rw [← hxr, Int.toNat_natCast] at hr; exact hr
  obtain ⟨pb, cb, c7, hKU⟩ := hG.kids hT hrx
  have hFE : funsOf ns root = fnsIn ns r.kids := by unfold funsOf; rw [rootKids_of hr]
  have hNE : namesF ns root = (fnsIn ns r.kids).map (textAt ns) := by unfold namesF; rw [hFE]
  have HC := hide (listFunctions_any ns loc (loc x) cb pb r.kids w1 c7 hKU hrl (fun y hy => ((unhide HS).2 y hy).1))
  rw [← hNE, ← hFE] at HC
  have hnl : (namesF ns root).length ≤ 1048576 := by rw [hNE, List.length_map]; exact Nat.le_trans (fnsIn_len _ _) hrl
  have HSZ : Hid (∀ s ∈ namesF ns root, s.size ≤ 1048576) := hide (fun s hs => by
    rw [hNE] at hs
    obtain ⟨j, hj, rfl⟩ := List.mem_map.1 hs
    have hjk := (fnsIn_mem.1 hj).1
    obtain ⟨m, hm, rfl⟩ := List.getElem_of_mem hjk
    obtain ⟨bp, y, _, _, _, hy, _⟩ := hKU m hm
    rw [textAt_of hy]
    exact ((unhide HS).2 y (List.mem_of_getElem? hy)).1)
  have HLD : Hid (∀ (w2 : World) (pf : Option Addr) (b n cf : Nat), Below w1.heap.size w1 w2 → MapIs w2 b n (placeIn (namesF ns root)) → PtrsIn w2 (fun k => k < w2.heap.size) pf ((funsOf ns root).map fun j => loc j.toNat) → src ∈ namesF ns root → Calls Tryd.prog 85 #[.agg #[.slice pf (funsOf ns root).length cf, .map (some b)], .string src, .string dst] w2 fun e w' => ∃ r : Bool, e = .returned (.bool r) ∧ (r = true ↔ Leads2 ns root src dst) ∧ Below w2.heap.size w2 w') := hide (fun w2 pf b n cf hb2 hM hP hs => leads_any ns root L loc l d pf b n cf src dst w2 hT HS ⟨fun y hy => (hG.br y hy).keep (fun k hk => hb2.block k hk) (fun k hk => by have := hb2.size; omega), hM, hP⟩ hs hnl (unhide HSZ) hd1)
  have HTO := hide (show TreeOkP ns root from ⟨l, d, hT⟩)
  clear hT hG hxr hr hrx hKU c7 hFE hNE
  generalize loc x = gx at HC
  generalize hnf : (funsOf ns root).length = nf at HLD
  go_wp2_with fail
  refine (unhide HC).mono ?_
  rintro e w2 ⟨v, b, n, rfl, hP, hM, hbl, hb2⟩
  obtain ⟨pv, cv, rfl, hPI⟩ := hP.ptrs (A := fun j => j < w2.heap.size) (fun j hj => (hP.own_lt j hj).2)
  rw [List.length_map, hnf]
  have hB2 := hide (nx_trans (unhide hB) hb2)
  have hw2 := hb2.size
  have HM := hide hM
  have HB12 := hide hb2
  have HPI := hide hPI
  clear hP hM hb2 hPI HC
  have hl2 : w2.heap.size + 1 = (w2.alloc (.cells #[.slice pv nf cv, .map (some b)] 96)).heap.size := by simp
  go_wp2_with fail
  refine (has_any (.slice pv nf cv) b n (placeIn (namesF ns root)) src _ ((unhide HM).later (nx_alloc _ _)) (by unfold maxLen; omega)).mono ?_
  rintro e w3 ⟨rfl, hb3⟩
  have X0 : w3.cell? ⟨w2.heap.size, 0, none⟩ = some (.slice pv nf cv) := cell_later hb3 (by simp)
  have X1 : w3.cell? ⟨w2.heap.size, 1, none⟩ = some (.map (some b)) := cell_later hb3 (by simp)
  have HB3 := hide (nx_trans (nx_alloc w2 (.cells #[.slice pv nf cv, .map (some b)] 96)) hb3)
  have hw3 : w2.heap.size < w3.heap.size := World.block_lt_of_cell? _ _ X0
  clear hb3 hl2
  by_cases hsN : src ∈ namesF ns root
  · rw [placeIn_mem hsN]
    go_wp2_with fail
    refine (has_any (.slice pv nf cv) b n (placeIn (namesF ns root)) dst _ ((unhide HM).later (unhide HB3)) (by unfold maxLen; omega)).mono ?_
    rintro e w4 ⟨rfl, hb4⟩
    have Y0 := cell_later hb4 X0
    have Y1 := cell_later hb4 X1
    have HB4 := hide (nx_trans (unhide HB3) hb4)
    clear hb4 X0 X1
    by_cases hdN : dst ∈ namesF ns root
    · rw [placeIn_mem hdN]
      have HL := hide (unhide HLD w4 pv b n cv (nx_trans (unhide HB12) (unhide HB4)) ((unhide HM).later (unhide HB4)) ((unhide HPI).keep (fun k hk => (unhide HB4).block k hk) (fun k hk => by have := (unhide HB4).size; omega)) hsN)
      have hD : Hid (∀ r : Bool, (r = true ↔ Leads2 ns root src dst) → ComesRes ns root src dst r 0) := hide (fun r h => .inr (.inr (.inr ⟨unhide H3, unhide HTO, ⟨hsN, hdN⟩, h, rfl⟩)))
      clear hsN hdN HLD
      go_wp2_with fail
      refine (unhide HL).mono ?_
      rintro e w5 ⟨r, rfl, hr, hb5⟩
      have hD2 := hide (unhide hD r hr)
      have HB5 := hide (nx_trans (nx_trans (unhide hB2) (unhide HB4)) hb5)
      clear hr hb5
      go_wp2
      go_ret2
      exact ComesP.mk (unhide hD2) (unhide HB5)
    · rw [placeIn_not hdN]
      have hD : Hid (ComesRes ns root src dst false 11) := hide (.inr (.inr (.inl ⟨unhide H3, unhide HTO, fun h => hdN h.2, rfl, rfl⟩)))
      clear hsN hdN HLD
      go_wp2
      go_ret2
      exact ComesP.mk (unhide hD) (nx_trans (unhide hB2) (unhide HB4))
  · rw [placeIn_not hsN]
    have hD : Hid (ComesRes ns root src dst false 11) := hide (.inr (.inr (.inl ⟨unhide H3, unhide HTO, fun h => hsN h.1, rfl, rfl⟩)))
    clear hsN HLD
    go_wp2
    go_ret2
    exact ComesP.mk (unhide hD) (nx_trans (unhide hB2) (unhide HB3))

end Go.Proofs.YtbipgmikgokfpaaDoor
