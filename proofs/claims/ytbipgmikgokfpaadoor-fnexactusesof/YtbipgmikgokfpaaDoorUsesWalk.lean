/- How many names and assignments have a text: code and specification. -/
import Derived.Test.YtbipgmikgokfpaaDoorGrowWalk3
import Derived.Test.YtbipgmikgokfpaaDoorSWalk3
import Derived.Test.YtbipgmikgokfpaaDoorByteEq
namespace Go.Proofs.YtbipgmikgokfpaaDoor
open Go.RowKit Go.Joins
set_option linter.unusedVariables false

def useB (s : ByteArray) (x : TN) : Bool := (x.k == 5 || x.k == 12) && x.t == s
def cntU (ns : List TN) (s : ByteArray) : Nat := (ns.filter (useB s)).length
theorem cntU_next (ns : List TN) (s : ByteArray) (m : Nat) (h : m < ns.length) : cntU (ns.take (m + 1)) s = cntU (ns.take m) s + (if useB s ns[m] then 1 else 0) := by
  unfold cntU
  rw [List.take_succ_eq_append_getElem h, List.filter_append, List.length_append]
  by_cases hk : useB s ns[m] = true
  · rw [if_pos hk, List.filter_cons_of_pos hk]; rfl
  · rw [if_neg hk, List.filter_cons_of_neg hk]; rfl
/-- what a call that counts uses answers -/
def UsesRes (ns : List TN) (root : Int) (s : ByteArray) (r c : Int) : Prop := (65536 < s.size ∧ r = 0 ∧ c = 2) ∨ (¬ 65536 < s.size ∧ ¬ TreeOkP ns root ∧ r = 0 ∧ c = 1) ∨ (¬ 65536 < s.size ∧ TreeOkP ns root ∧ r = (cntU ns s : Int) ∧ c = 0)
theorem UsesRes.det {ns : List TN} {root : Int} {s : ByteArray} {r c r' c' : Int} (h : UsesRes ns root s r c) (h' : UsesRes ns root s r' c') : r = r' ∧ c = c' := by
  rcases h with ⟨a, rfl, rfl⟩ | ⟨a, b, rfl, rfl⟩ | ⟨a, b, rfl, rfl⟩ <;> rcases h' with ⟨a', rfl, rfl⟩ | ⟨a', b', rfl, rfl⟩ | ⟨a', b', rfl, rfl⟩
  all_goals first | exact ⟨rfl, rfl⟩ | exact absurd a a' | exact absurd a' a | exact absurd b b' | exact absurd b' b

set_option maxHeartbeats 1000000 in
set_option maxRecDepth 100000 in
theorem implUsesOf_any (ns : List TN) (root : Int) (s : ByteArray) (L : Lay) (w : World) (hN : NodesAt w L ns) (hsm : Small ns) (hss : s.size ≤ 1048576) (htab : Hid (TabAt w 0 srcWords)) :
    Calls Tryd.prog 47 #[.agg #[.slice L.p ns.length L.cap, .int .i64 root], .string s] w fun e w' => ∃ r c : Int, e = .returned (.tuple #[.int .i64 r, .int .i64 c]) ∧ UsesRes ns root s r c ∧ Below w.heap.size w w' := by
  have HN := hide hN
  have HS := hide hsm
  have hl := hsm.1
  clear hN hsm
  by_cases hbig : 65536 < s.size
  · go_enter Tryd.func47, Tryd.ntmps47
    go_wp2
    go_ret2
    exact ⟨0, 2, rfl, .inl ⟨hbig, rfl, rfl⟩, nx_alloc _ _⟩
  go_enter Tryd.func47, Tryd.ntmps47
  go_wp2_with fail
  refine (implTreeOK_any ns root L _ ((unhide HN).later (nx_alloc _ _)) (unhide HS) (hide ((unhide htab).later (nx_alloc _ _)))).mono ?_
  rintro e w1 ⟨b, rfl, hb, hb1⟩
  have hB := hide (nx_trans (nx_alloc _ _) hb1)
  have c1 : ∀ o, w1.cell? ⟨w.heap.size, o, none⟩ = (w.alloc (.cells #[.slice L.p ns.length L.cap, .int .i64 root] 25)).cell? ⟨w.heap.size, o, none⟩ := fun o => hb1.cell (p := ⟨w.heap.size, o, none⟩) (by simp)
  have d0 : w1.cell? ⟨w.heap.size, 0, none⟩ = some (.slice L.p ns.length L.cap) := by rw [c1]; simp
  clear hb1 c1
  cases b
  · have hD : Hid (UsesRes ns root s 0 1) := hide (.inr (.inl ⟨hbig, fun h => (by have := hb.2 h; cases this), rfl, rfl⟩))
    clear hb
    go_wp2
    go_ret2
    exact ⟨0, 1, rfl, unhide hD, unhide hB⟩
  have HOK := hide (hb.1 rfl)
  clear hb
  have hD : Hid (∀ r : Int, r = (cntU ns s : Int) → UsesRes ns root s r 0) := hide (fun r hr => .inr (.inr ⟨hbig, unhide HOK, hr, rfl⟩))
  go_wp2
  go_loopw [6, 18] (fun sv i wx => ∃ m cc : Nat, m ≤ ns.length ∧ i = .int .i64 m ∧ sv = .int .i64 (cc : Int) ∧ cc ≤ m ∧ Hid (cc = cntU (ns.take m) s) ∧ Hid (Below w.heap.size w wx)) (fun _ i _ => ns.length - (intOf i).toNat)
  case atStart => exact ⟨0, 0, by omega, rfl, rfl, by omega, hide (by simp [cntU]), hB⟩
  case round =>
    obtain ⟨m, cc, hm, rfl, rfl, hcm, hcc, hBx⟩ := hrel
    by_cases hlt : m < ns.length
    · obtain ⟨b, off, hp, q0, q1, q2, q3, q4, q5, q6⟩ := (unhide HN).later (unhide hBx) m hlt
      have hcn := cntU_next ns s m hlt
      rw [← unhide hcc] at hcn
      have HCN := hide hcn
      clear q5 q6 hcn
      rw [hp]
      generalize ns[m] = x at q0 q1 q2 q3 q4 HCN
      have HU : Hid (useB s x = ((x.k == 5 || x.k == 12) && x.t == s)) := hide rfl
      by_cases h5 : x.k = 5
      · by_cases ht : x.t = s
        · have e5 : (x.k == 5) = true := by simp [h5]
          have e12 : (x.k == 12) = false := beq_eq_false_iff_ne.2 (by omega)
          have et : (x.t == s) = true := by rw [ht]; exact ba_self s
          have et2 : x.t = s := ht
          have hu : useB s x = true := by unfold useB; rw [e5, e12, et]; rfl
          have hd : Hid (cc + 1 = cntU (ns.take (m + 1)) s) := hide (by rw [unhide HCN, hu]; rfl)
          clear hu HU h5
          go_wp2
          go_roundw
          case rel => exact ⟨m + 1, cc + 1, by omega, by go_num, by go_num, by omega, hide (unhide hd), hide (nx_al (unhide hBx))⟩
          case measure => simp [intOf]; omega
        · have e5 : (x.k == 5) = true := by simp [h5]
          have e12 : (x.k == 12) = false := beq_eq_false_iff_ne.2 (by omega)
          have et : (x.t == s) = false := ba_ne ht
          have et3 : (x.t.toList == s.toList) = false := bl_ne ht
          have hu : useB s x = false := by unfold useB; rw [e5, e12, et]; rfl
          have hd : Hid (cc = cntU (ns.take (m + 1)) s) := hide (by rw [unhide HCN, hu]; rfl)
          clear hu HU h5
          go_wp2
          go_roundw
          case rel => exact ⟨m + 1, cc, by omega, by go_num, rfl, by omega, hide (unhide hd), hide (nx_al (unhide hBx))⟩
          case measure => simp [intOf]; omega
      by_cases h12 : x.k = 12
      · by_cases ht : x.t = s
        · have e5 : (x.k == 5) = false := beq_eq_false_iff_ne.2 h5
          have e12 : (x.k == 12) = true := by simp [h12]
          have et : (x.t == s) = true := by rw [ht]; exact ba_self s
          have et2 : x.t = s := ht
          have hu : useB s x = true := by unfold useB; rw [e5, e12, et]; rfl
          have hd : Hid (cc + 1 = cntU (ns.take (m + 1)) s) := hide (by rw [unhide HCN, hu]; rfl)
          clear hu HU h5
          go_wp2
          go_roundw
          case rel => exact ⟨m + 1, cc + 1, by omega, by go_num, by go_num, by omega, hide (unhide hd), hide (nx_al (unhide hBx))⟩
          case measure => simp [intOf]; omega
        · have e5 : (x.k == 5) = false := beq_eq_false_iff_ne.2 h5
          have e12 : (x.k == 12) = true := by simp [h12]
          have et : (x.t == s) = false := ba_ne ht
          have et3 : (x.t.toList == s.toList) = false := bl_ne ht
          have hu : useB s x = false := by unfold useB; rw [e5, e12, et]; rfl
          have hd : Hid (cc = cntU (ns.take (m + 1)) s) := hide (by rw [unhide HCN, hu]; rfl)
          clear hu HU h5
          go_wp2
          go_roundw
          case rel => exact ⟨m + 1, cc, by omega, by go_num, rfl, by omega, hide (unhide hd), hide (nx_al (unhide hBx))⟩
          case measure => simp [intOf]; omega
      have e5 : (x.k == 5) = false := beq_eq_false_iff_ne.2 h5
      have e12 : (x.k == 12) = false := beq_eq_false_iff_ne.2 h12
      have hu : useB s x = false := by unfold useB; rw [e5, e12]; rfl
      have hd : Hid (cc = cntU (ns.take (m + 1)) s) := hide (by rw [unhide HCN, hu]; rfl)
      clear hu HU h5
      go_wp2
      go_roundw
      case rel => exact ⟨m + 1, cc, by omega, by go_num, rfl, by omega, hide (unhide hd), hide (nx_al (unhide hBx))⟩
      case measure => simp [intOf]; omega
    · have hd := hide (unhide hD (cc : Int) (by rw [unhide hcc, show m = ns.length by omega, List.take_length]))
      go_wp2
      go_ret2
      exact ⟨_, 0, rfl, unhide hd, unhide hBx⟩

set_option maxHeartbeats 1000000 in
set_option maxRecDepth 100000 in
theorem specUsesOf_any (ns : List TN) (root : Int) (s : ByteArray) (L : Lay) (w : World) (hN : NodesAt w L ns) (hsm : Small ns) (hss : s.size ≤ 1048576) :
    Calls Tryd.prog 46 #[.agg #[.slice L.p ns.length L.cap, .int .i64 root], .string s] w fun e w' => ∃ r c : Int, e = .returned (.tuple #[.int .i64 r, .int .i64 c]) ∧ UsesRes ns root s r c ∧ Below w.heap.size w w' := by
  have HN := hide hN
  have HS := hide hsm
  have hl := hsm.1
  clear hN hsm
  by_cases hbig : 65536 < s.size
  · go_enter Tryd.func46, Tryd.ntmps46
    go_wp2
    go_ret2
    exact ⟨0, 2, rfl, .inl ⟨hbig, rfl, rfl⟩, nx_alloc _ _⟩
  go_enter Tryd.func46, Tryd.ntmps46
  go_wp2_with fail
  refine (specTreeOK_any ns root L _ ((unhide HN).later (nx_alloc _ _)) (unhide HS)).mono ?_
  rintro e w1 ⟨b, rfl, hb, hb1⟩
  have hB := hide (nx_trans (nx_alloc _ _) hb1)
  have c1 : ∀ o, w1.cell? ⟨w.heap.size, o, none⟩ = (w.alloc (.cells #[.slice L.p ns.length L.cap, .int .i64 root] 25)).cell? ⟨w.heap.size, o, none⟩ := fun o => hb1.cell (p := ⟨w.heap.size, o, none⟩) (by simp)
  have d0 : w1.cell? ⟨w.heap.size, 0, none⟩ = some (.slice L.p ns.length L.cap) := by rw [c1]; simp
  clear hb1 c1
  cases b
  · have hD : Hid (UsesRes ns root s 0 1) := hide (.inr (.inl ⟨hbig, fun h => (by have := hb.2 h; cases this), rfl, rfl⟩))
    clear hb
    go_wp2
    go_ret2
    exact ⟨0, 1, rfl, unhide hD, unhide hB⟩
  have HOK := hide (hb.1 rfl)
  clear hb
  have hD : Hid (∀ r : Int, r = (cntU ns s : Int) → UsesRes ns root s r 0) := hide (fun r hr => .inr (.inr ⟨hbig, unhide HOK, hr, rfl⟩))
  go_wp2
  go_loopw [6, 7] (fun sv i wx => ∃ m cc : Nat, m ≤ ns.length ∧ i = .int .i64 m ∧ sv = .int .i64 (cc : Int) ∧ cc ≤ m ∧ Hid (cc = cntU (ns.take m) s) ∧ Hid (wx = w1)) (fun _ i _ => ns.length - (intOf i).toNat)
  case atStart => exact ⟨0, 0, by omega, rfl, rfl, by omega, hide (by simp [cntU]), hide rfl⟩
  case round =>
    obtain ⟨m, cc, hm, rfl, rfl, hcm, hcc, hw1⟩ := hrel
    obtain rfl := unhide hw1
    by_cases hlt : m < ns.length
    · obtain ⟨b, off, hp, q0, q1, q2, q3, q4, q5, q6⟩ := (unhide HN).later (unhide hB) m hlt
      have hcn := cntU_next ns s m hlt
      rw [← unhide hcc] at hcn
      have HCN := hide hcn
      clear q5 q6 hcn q1 q3 q4
      rw [hp] at d0
      clear hp
      generalize ns[m] = x at q0 q2 HCN
      have HU : Hid (useB s x = ((x.k == 5 || x.k == 12) && x.t == s)) := hide rfl
      by_cases h5 : x.k = 5
      · by_cases ht : x.t = s
        · have e5 : (x.k == 5) = true := by simp [h5]
          have e12 : (x.k == 12) = false := beq_eq_false_iff_ne.2 (by omega)
          have et : (x.t == s) = true := by rw [ht]; exact ba_self s
          have et2 : x.t = s := ht
          have hu : useB s x = true := by unfold useB; rw [e5, e12, et]; rfl
          have hd : Hid (cc + 1 = cntU (ns.take (m + 1)) s) := hide (by rw [unhide HCN, hu]; rfl)
          clear hu HU h5
          go_wp2_with fail
          refine (l01Bit_any true _).mono ?_
          rintro e w9 ⟨rfl, rfl⟩
          rw [show bitI true = 1 from rfl]
          go_wp2
          go_roundw
          case rel => exact ⟨m + 1, cc + 1, by omega, by go_num, by go_num, by omega, hide (unhide hd), hide trivial⟩
          case measure => simp [intOf]; omega
        · have e5 : (x.k == 5) = true := by simp [h5]
          have e12 : (x.k == 12) = false := beq_eq_false_iff_ne.2 (by omega)
          have et : (x.t == s) = false := ba_ne ht
          have et3 : (x.t.toList == s.toList) = false := bl_ne ht
          have hu : useB s x = false := by unfold useB; rw [e5, e12, et]; rfl
          have hd : Hid (cc = cntU (ns.take (m + 1)) s) := hide (by rw [unhide HCN, hu]; rfl)
          clear hu HU h5
          go_wp2_with fail
          refine (l01Bit_any false _).mono ?_
          rintro e w9 ⟨rfl, rfl⟩
          rw [show bitI false = 0 from rfl]
          go_wp2
          go_roundw
          case rel => exact ⟨m + 1, cc, by omega, by go_num, by go_num, by omega, hide (unhide hd), hide trivial⟩
          case measure => simp [intOf]; omega
      by_cases h12 : x.k = 12
      · by_cases ht : x.t = s
        · have e5 : (x.k == 5) = false := beq_eq_false_iff_ne.2 h5
          have e12 : (x.k == 12) = true := by simp [h12]
          have et : (x.t == s) = true := by rw [ht]; exact ba_self s
          have et2 : x.t = s := ht
          have hu : useB s x = true := by unfold useB; rw [e5, e12, et]; rfl
          have hd : Hid (cc + 1 = cntU (ns.take (m + 1)) s) := hide (by rw [unhide HCN, hu]; rfl)
          clear hu HU h5
          go_wp2_with fail
          refine (l01Bit_any true _).mono ?_
          rintro e w9 ⟨rfl, rfl⟩
          rw [show bitI true = 1 from rfl]
          go_wp2
          go_roundw
          case rel => exact ⟨m + 1, cc + 1, by omega, by go_num, by go_num, by omega, hide (unhide hd), hide trivial⟩
          case measure => simp [intOf]; omega
        · have e5 : (x.k == 5) = false := beq_eq_false_iff_ne.2 h5
          have e12 : (x.k == 12) = true := by simp [h12]
          have et : (x.t == s) = false := ba_ne ht
          have et3 : (x.t.toList == s.toList) = false := bl_ne ht
          have hu : useB s x = false := by unfold useB; rw [e5, e12, et]; rfl
          have hd : Hid (cc = cntU (ns.take (m + 1)) s) := hide (by rw [unhide HCN, hu]; rfl)
          clear hu HU h5
          go_wp2_with fail
          refine (l01Bit_any false _).mono ?_
          rintro e w9 ⟨rfl, rfl⟩
          rw [show bitI false = 0 from rfl]
          go_wp2
          go_roundw
          case rel => exact ⟨m + 1, cc, by omega, by go_num, by go_num, by omega, hide (unhide hd), hide trivial⟩
          case measure => simp [intOf]; omega
      have e5 : (x.k == 5) = false := beq_eq_false_iff_ne.2 h5
      have e12 : (x.k == 12) = false := beq_eq_false_iff_ne.2 h12
      have hu : useB s x = false := by unfold useB; rw [e5, e12]; rfl
      have hd : Hid (cc = cntU (ns.take (m + 1)) s) := hide (by rw [unhide HCN, hu]; rfl)
      clear hu HU h5
      go_wp2_with fail
      refine (l01Bit_any false _).mono ?_
      rintro e w9 ⟨rfl, rfl⟩
      rw [show bitI false = 0 from rfl]
      go_wp2
      go_roundw
      case rel => exact ⟨m + 1, cc, by omega, by go_num, by go_num, by omega, hide (unhide hd), hide trivial⟩
      case measure => simp [intOf]; omega
    · have hd := hide (unhide hD (cc : Int) (by rw [unhide hcc, show m = ns.length by omega, List.take_length]))
      go_wp2
      go_ret2
      exact ⟨_, 0, rfl, unhide hd, unhide hB⟩

end Go.Proofs.YtbipgmikgokfpaaDoor
