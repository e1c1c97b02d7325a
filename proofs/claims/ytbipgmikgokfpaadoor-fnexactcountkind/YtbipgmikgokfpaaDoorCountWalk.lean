/- How many nodes are of a kind: code and specification. -/
import Derived.Test.YtbipgmikgokfpaaDoorGrowWalk3
import Derived.Test.YtbipgmikgokfpaaDoorSWalk3
namespace Go.Proofs.YtbipgmikgokfpaaDoor
open Go.RowKit Go.Joins
set_option linter.unusedVariables false

def cntT (ns : List TN) (k : Int) : Nat := (ns.filter fun x => x.k == k).length
theorem cnt_next (ns : List TN) (k : Int) (m : Nat) (h : m < ns.length) : cntT (ns.take (m + 1)) k = cntT (ns.take m) k + (if ns[m].k == k then 1 else 0) := by
  unfold cntT
  rw [List.take_succ_eq_append_getElem h, List.filter_append, List.length_append]
  by_cases hk : (ns[m].k == k) = true
  · rw [if_pos hk, List.filter_cons_of_pos (p := fun x : TN => x.k == k) hk]; rfl
  · rw [if_neg hk, List.filter_cons_of_neg (p := fun x : TN => x.k == k) hk]; rfl
theorem cnt_le (ns : List TN) (k : Int) : cntT ns k ≤ ns.length := List.length_filter_le _ _
/-- what a call that counts answers -/
def CountRes (ns : List TN) (root k r c : Int) : Prop := (¬ TreeOkP ns root ∧ r = 0 ∧ c = 1) ∨ (TreeOkP ns root ∧ ¬ (1 ≤ k ∧ k ≤ 20) ∧ r = 0 ∧ c = 4) ∨ (TreeOkP ns root ∧ (1 ≤ k ∧ k ≤ 20) ∧ r = (cntT ns k : Int) ∧ c = 0)
theorem CountRes.det {ns : List TN} {root k r c r' c' : Int} (h : CountRes ns root k r c) (h' : CountRes ns root k r' c') : r = r' ∧ c = c' := by
  rcases h with ⟨a, rfl, rfl⟩ | ⟨a, b, rfl, rfl⟩ | ⟨a, b, rfl, rfl⟩ <;> rcases h' with ⟨a', rfl, rfl⟩ | ⟨a', b', rfl, rfl⟩ | ⟨a', b', rfl, rfl⟩
  all_goals first | exact ⟨rfl, rfl⟩ | exact absurd a a' | exact absurd a' a | exact absurd b b' | exact absurd b' b

set_option maxHeartbeats 1000000 in
set_option maxRecDepth 100000 in
theorem implCountKind_any (ns : List TN) (root k : Int) (L : Lay) (w : World) (hN : NodesAt w L ns) (hsm : Small ns) (htab : Hid (TabAt w 0 srcWords)) :
    Calls Tryd.prog 22 #[.agg #[.slice L.p ns.length L.cap, .int .i64 root], .int .i64 k] w fun e w' => ∃ r c : Int, e = .returned (.tuple #[.int .i64 r, .int .i64 c]) ∧ CountRes ns root k r c ∧ Below w.heap.size w w' := by
  have HN := hide hN
  have HS := hide hsm
  have hl := hsm.1
  clear hN hsm
  go_enter Tryd.func22, Tryd.ntmps22
  go_wp2_with fail
  refine (implTreeOK_any ns root L _ ((unhide HN).later (nx_alloc _ _)) (unhide HS) (hide ((unhide htab).later (nx_alloc _ _)))).mono ?_
  rintro e w1 ⟨b, rfl, hb, hb1⟩
  have hB := hide (nx_trans (nx_alloc _ _) hb1)
  have c1 : ∀ o, w1.cell? ⟨w.heap.size, o, none⟩ = (w.alloc (.cells #[.slice L.p ns.length L.cap, .int .i64 root] 25)).cell? ⟨w.heap.size, o, none⟩ := fun o => hb1.cell (p := ⟨w.heap.size, o, none⟩) (by simp)
  have d0 : w1.cell? ⟨w.heap.size, 0, none⟩ = some (.slice L.p ns.length L.cap) := by rw [c1]; simp
  clear hb1 c1
  cases b
  · have hD : Hid (CountRes ns root k 0 1) := hide (.inl ⟨fun h => (by have := hb.2 h; cases this), rfl, rfl⟩)
    clear hb
    go_wp2
    go_ret2
    exact ⟨0, 1, rfl, unhide hD, unhide hB⟩
  have HOK := hide (hb.1 rfl)
  clear hb
  by_cases h1 : k < 1
  · have hD : Hid (CountRes ns root k 0 4) := hide (.inr (.inl ⟨unhide HOK, by omega, rfl, rfl⟩))
    go_wp2
    go_ret2
    exact ⟨0, 4, rfl, unhide hD, unhide hB⟩
  by_cases h2 : 20 < k
  · have hD : Hid (CountRes ns root k 0 4) := hide (.inr (.inl ⟨unhide HOK, by omega, rfl, rfl⟩))
    go_wp2
    go_ret2
    exact ⟨0, 4, rfl, unhide hD, unhide hB⟩
  have e1 : decide (k < 1) = false := decide_eq_false h1
  have e2 : decide (20 < k) = false := decide_eq_false h2
  have hD : Hid (∀ r : Int, r = (cntT ns k : Int) → CountRes ns root k r 0) := hide (fun r hr => .inr (.inr ⟨unhide HOK, by omega, hr, rfl⟩))
  clear h1 h2
  go_wp2
  go_loopw [6, 21] (fun s i wx => ∃ m cc : Nat, m ≤ ns.length ∧ i = .int .i64 m ∧ s = .int .i64 (cc : Int) ∧ cc ≤ m ∧ Hid (cc = cntT (ns.take m) k) ∧ Hid (Below w.heap.size w wx)) (fun _ i _ => ns.length - (intOf i).toNat)
  case atStart => exact ⟨0, 0, by omega, rfl, rfl, by omega, hide (by simp [cntT]), hB⟩
  case round =>
    obtain ⟨m, cc, hm, rfl, rfl, hcm, hcc, hBx⟩ := hrel
    by_cases hlt : m < ns.length
    · obtain ⟨b, off, hp, q0, q1, q2, q3, q4, q5, q6⟩ := (unhide HN).later (unhide hBx) m hlt
      have hcn := cnt_next ns k m hlt
      rw [← unhide hcc] at hcn
      have HCN := hide hcn
      clear q5 q6 hcn
      rw [hp]
      generalize ns[m] = x at q0 q1 q2 q3 q4 HCN
      by_cases hk : x.k = k
      · have e3 : (x.k == k) = true := by simp [hk]
        have hd : Hid (cc + 1 = cntT (ns.take (m + 1)) k) := hide (by rw [unhide HCN, e3]; rfl)
        clear hk
        go_wp2
        go_roundw
        case rel => exact ⟨m + 1, cc + 1, by omega, by go_num, by go_num, by omega, hide (unhide hd), hide (nx_al (unhide hBx))⟩
        case measure => simp [intOf]; omega
      · have e3 : (x.k == k) = false := beq_eq_false_iff_ne.2 hk
        have hd : Hid (cc = cntT (ns.take (m + 1)) k) := hide (by rw [unhide HCN, e3]; rfl)
        clear hk
        go_wp2
        go_roundw
        case rel => exact ⟨m + 1, cc, by omega, by go_num, rfl, by omega, hide (unhide hd), hide (nx_al (unhide hBx))⟩
        case measure => simp [intOf]; omega
    · have hd := hide (unhide hD (cc : Int) (by rw [unhide hcc, show m = ns.length by omega, List.take_length]))
      go_wp2
      go_ret2
      exact ⟨_, 0, rfl, unhide hd, unhide hBx⟩

set_option maxHeartbeats 1000000 in
set_option maxRecDepth 100000 in
theorem specCountKind_any (ns : List TN) (root k : Int) (L : Lay) (w : World) (hN : NodesAt w L ns) (hsm : Small ns) :
    Calls Tryd.prog 31 #[.agg #[.slice L.p ns.length L.cap, .int .i64 root], .int .i64 k] w fun e w' => ∃ r c : Int, e = .returned (.tuple #[.int .i64 r, .int .i64 c]) ∧ CountRes ns root k r c ∧ Below w.heap.size w w' := by
  have HN := hide hN
  have HS := hide hsm
  have hl := hsm.1
  clear hN hsm
  go_enter Tryd.func31, Tryd.ntmps31
  go_wp2_with fail
  refine (specTreeOK_any ns root L _ ((unhide HN).later (nx_alloc _ _)) (unhide HS)).mono ?_
  rintro e w1 ⟨b, rfl, hb, hb1⟩
  have hB := hide (nx_trans (nx_alloc _ _) hb1)
  have c1 : ∀ o, w1.cell? ⟨w.heap.size, o, none⟩ = (w.alloc (.cells #[.slice L.p ns.length L.cap, .int .i64 root] 25)).cell? ⟨w.heap.size, o, none⟩ := fun o => hb1.cell (p := ⟨w.heap.size, o, none⟩) (by simp)
  have d0 : w1.cell? ⟨w.heap.size, 0, none⟩ = some (.slice L.p ns.length L.cap) := by rw [c1]; simp
  clear hb1 c1
  cases b
  · have hD : Hid (CountRes ns root k 0 1) := hide (.inl ⟨fun h => (by have := hb.2 h; cases this), rfl, rfl⟩)
    clear hb
    go_wp2
    go_ret2
    exact ⟨0, 1, rfl, unhide hD, unhide hB⟩
  have HOK := hide (hb.1 rfl)
  clear hb
  by_cases h1 : 1 ≤ k ∧ k ≤ 20
  · have hD : Hid (∀ r : Int, r = (cntT ns k : Int) → CountRes ns root k r 0) := hide (fun r hr => .inr (.inr ⟨unhide HOK, h1, hr, rfl⟩))
    go_wp2_with fail
    refine (l01In_is k 1 20 true _ (by simp; omega)).mono ?_
    rintro e w1 ⟨rfl, rfl⟩
    clear h1
    go_wp2
    go_loopw [6, 7] (fun s i wx => ∃ m cc : Nat, m ≤ ns.length ∧ i = .int .i64 m ∧ s = .int .i64 (cc : Int) ∧ cc ≤ m ∧ Hid (cc = cntT (ns.take m) k) ∧ Hid (wx = w1)) (fun _ i _ => ns.length - (intOf i).toNat)
    case atStart => exact ⟨0, 0, by omega, rfl, rfl, by omega, hide (by simp [cntT]), hide rfl⟩
    case round =>
      obtain ⟨m, cc, hm, rfl, rfl, hcm, hcc, hw1⟩ := hrel
      obtain rfl := unhide hw1
      by_cases hlt : m < ns.length
      · obtain ⟨b, off, hp, q0, q1, q2, q3, q4, q5, q6⟩ := (unhide HN).later (unhide hB) m hlt
        have hcn := cnt_next ns k m hlt
        rw [← unhide hcc] at hcn
        have HCN := hide hcn
        clear q5 q6 hcn q1 q2 q3 q4
        rw [hp] at d0
        clear hp
        generalize ns[m] = x at q0 HCN
        by_cases hk : x.k = k
        · have e3 : (x.k == k) = true := by simp [hk]
          have hd : Hid (cc + 1 = cntT (ns.take (m + 1)) k) := hide (by rw [unhide HCN, e3]; rfl)
          clear hk
          go_wp2_with fail
          refine (l01Bit_any true _).mono ?_
          rintro e w9 ⟨rfl, rfl⟩
          rw [show bitI true = 1 from rfl]
          go_wp2
          go_roundw
          case rel => exact ⟨m + 1, cc + 1, by omega, by go_num, by go_num, by omega, hide (unhide hd), hide trivial⟩
          case measure => simp [intOf]; omega
        · have e3 : (x.k == k) = false := beq_eq_false_iff_ne.2 hk
          have hd : Hid (cc = cntT (ns.take (m + 1)) k) := hide (by rw [unhide HCN, e3]; rfl)
          clear hk
          go_wp2_with fail
          refine (l01Bit_any false _).mono ?_
          rintro e w9 ⟨rfl, rfl⟩
          rw [show bitI false = 0 from rfl]
          go_wp2
          go_roundw
          case rel => exact ⟨m + 1, cc, by omega, by go_num, by go_num, by omega, hide (unhide hd), hide trivial⟩
          case measure => simp [intOf]; omega
      · have hd := hide (unhide hD (cc : Int) (by rw [unhide hcc, show m = ns.length by omega, List.take_length]))
        go_wp2
        go_ret2
        exact ⟨_, 0, rfl, unhide hd, unhide hB⟩
  · have hD : Hid (CountRes ns root k 0 4) := hide (.inr (.inl ⟨unhide HOK, h1, rfl, rfl⟩))
    go_wp2_with fail
    refine (l01In_is k 1 20 false _ (by simp; omega)).mono ?_
    rintro e w1 ⟨rfl, rfl⟩
    clear h1
    go_wp2
    go_ret2
    exact ⟨0, 4, rfl, unhide hD, unhide hB⟩

end Go.Proofs.YtbipgmikgokfpaaDoor
