/- What is right of a branch by itself, the code's side: 'countOK', 'partsOK', 'takes'. -/
import Derived.Test.YtbipgmikgokfpaaDoorTreeMem
namespace Go.Proofs.YtbipgmikgokfpaaDoor
open Go.RowKit Go.Joins
set_option linter.unusedVariables false

theorem kinds20 {k : Int} (h1 : 1 ≤ k) (h2 : k ≤ 20) : k = 1 ∨ k = 2 ∨ k = 3 ∨ k = 4 ∨ k = 5 ∨ k = 6 ∨ k = 7 ∨ k = 8 ∨ k = 9 ∨ k = 10 ∨ k = 11 ∨ k = 12 ∨ k = 13 ∨ k = 14 ∨ k = 15 ∨ k = 16 ∨ k = 17 ∨ k = 18 ∨ k = 19 ∨ k = 20 := by omega

theorem count_eq (c n : Nat) : ((c : Int) == (n : Int)) = (c == n) := by
  by_cases h : c = n
  · subst h; simp
  · rw [beq_eq_false_iff_ne.2 h, beq_eq_false_iff_ne.2 (by omega)]

set_option maxHeartbeats 1000000 in
theorem countOK_any (b : Nat) (k : Int) (pk : Option Addr) (c ck : Nat) (w : World) (h0 : w.cell? ⟨b, 0, none⟩ = some (.int .i64 k)) (h4 : w.cell? ⟨b, 4, none⟩ = some (.slice pk c ck)) :
    Calls Tryd.prog 122 #[.pointer (some ⟨b, 0, none⟩)] w fun e w' => e = .returned (.bool (countB k c)) ∧ w' = w := by
  have e0 : ((c : Int) == 0) = (c == 0) := count_eq c 0
  have e1 : ((c : Int) == 1) = (c == 1) := count_eq c 1
  have e2 : ((c : Int) == 2) = (c == 2) := count_eq c 2
  have e3 : ((c : Int) == 3) = (c == 3) := count_eq c 3
  by_cases hk : 1 ≤ k ∧ k ≤ 20
  · rcases kinds20 hk.1 hk.2 with rfl | rfl | rfl | rfl | rfl | rfl | rfl | rfl | rfl | rfl | rfl | rfl | rfl | rfl | rfl | rfl | rfl | rfl | rfl | rfl
    case inr.inr.inr.inr.inr.inr.inr.inr.inr.inr.inr.inr.inl =>
      by_cases h2 : c = 2
      · subst h2
        go_enter Tryd.func122, Tryd.ntmps122
        go_wp2
        go_ret
        exact ⟨rfl, rfl⟩
      · have f2 : ((c : Int) == 2) = false := beq_eq_false_iff_ne.2 (by omega)
        by_cases h3 : c = 3
        · subst h3
          go_enter Tryd.func122, Tryd.ntmps122
          go_wp2
          go_ret
          exact ⟨rfl, rfl⟩
        · have f3 : ((c : Int) == 3) = false := beq_eq_false_iff_ne.2 (by omega)
          have hr : countB 13 c = false := by simp [countB, h2, h3]
          rw [hr]
          clear hr e0 e1 e2 e3
          go_enter Tryd.func122, Tryd.ntmps122
          go_wp2
          go_ret
          exact ⟨rfl, rfl⟩
    all_goals
      go_enter Tryd.func122, Tryd.ntmps122
      go_wp2
      go_ret
      first | exact ⟨rfl, rfl⟩ | exact ⟨by rw [e0]; rfl, rfl⟩ | exact ⟨by rw [e1]; rfl, rfl⟩ | exact ⟨by rw [e2]; rfl, rfl⟩
  · have hne : ∀ n : Int, 1 ≤ n → n ≤ 20 → (k == n) = false := fun n h1 h2 => beq_eq_false_iff_ne.2 (by omega)
    have n1 := hne 1 (by omega) (by omega)
    have n2 := hne 2 (by omega) (by omega)
    have n3 := hne 3 (by omega) (by omega)
    have n4 := hne 4 (by omega) (by omega)
    have n5 := hne 5 (by omega) (by omega)
    have n6 := hne 6 (by omega) (by omega)
    have n7 := hne 7 (by omega) (by omega)
    have n8 := hne 8 (by omega) (by omega)
    have n9 := hne 9 (by omega) (by omega)
    have n10 := hne 10 (by omega) (by omega)
    have n11 := hne 11 (by omega) (by omega)
    have n12 := hne 12 (by omega) (by omega)
    have n13 := hne 13 (by omega) (by omega)
    have n14 := hne 14 (by omega) (by omega)
    have n15 := hne 15 (by omega) (by omega)
    have n16 := hne 16 (by omega) (by omega)
    have n17 := hne 17 (by omega) (by omega)
    have n18 := hne 18 (by omega) (by omega)
    have n19 := hne 19 (by omega) (by omega)
    have n20 := hne 20 (by omega) (by omega)
    have hr : countB k c = false := by
      unfold countB
      rw [if_neg (by omega), if_neg (by omega), if_neg (by omega), if_neg (by omega), n10, n18]; rfl
    rw [hr]
    clear hr hne hk
    go_enter Tryd.func122, Tryd.ntmps122
    go_wp2
    go_ret
    exact ⟨rfl, rfl⟩

set_option maxHeartbeats 1000000 in
theorem takes_ex (b : Nat) (k kk : Int) (i : Nat) (par : Option Addr) (w : World) (h0 : w.cell? ⟨b, 0, none⟩ = some (.int .i64 k)) (hk : k = 13 ∨ k = 14) :
    Calls Tryd.prog 124 #[.pointer (some ⟨b, 0, none⟩), .int .i64 (i : Int), .int .i64 kk] w fun e w' => e = .returned (.bool (takesB k par.isNone i kk)) ∧ w' = w := by
  by_cases hi : i = 0
  · have hr : takesB k par.isNone i kk = (decide (1 ≤ kk) && decide (kk ≤ 10)) := by rcases hk with rfl | rfl <;> simp [takesB, hi]
    rw [hr]
    clear hr
    have hi' : ¬ (0 : Int) < (i : Int) := by omega
    clear hi
    by_cases ha : 1 ≤ kk
    · by_cases hb : kk ≤ 10
      · rw [show (decide (1 ≤ kk) && decide (kk ≤ 10)) = true by simp [ha, hb]]
        rcases hk with rfl | rfl
        all_goals
          go_enter Tryd.func124, Tryd.ntmps124
          go_wp2
          go_ret
          exact ⟨rfl, rfl⟩
      · rw [show (decide (1 ≤ kk) && decide (kk ≤ 10)) = false by simp [hb]]
        rcases hk with rfl | rfl
        all_goals
          go_enter Tryd.func124, Tryd.ntmps124
          go_wp2
          go_ret
          exact ⟨rfl, rfl⟩
    · rw [show (decide (1 ≤ kk) && decide (kk ≤ 10)) = false by simp [ha]]
      rcases hk with rfl | rfl
      all_goals
        go_enter Tryd.func124, Tryd.ntmps124
        go_wp2
        go_ret
        exact ⟨rfl, rfl⟩
  · have hi' : (0 : Int) < (i : Int) := by omega
    have hr : takesB k par.isNone i kk = (kk == 18) := by
      have : 0 < i := by omega
      rcases hk with rfl | rfl <;> simp [takesB, this]
    rw [hr]
    clear hr
    rcases hk with rfl | rfl
    all_goals
      go_enter Tryd.func124, Tryd.ntmps124
      go_wp2
      go_ret
      exact ⟨rfl, rfl⟩

set_option maxHeartbeats 1000000 in
theorem takes_any (b : Nat) (k kk : Int) (i : Nat) (par : Option Addr) (w : World) (h0 : w.cell? ⟨b, 0, none⟩ = some (.int .i64 k)) (h6 : w.cell? ⟨b, 6, none⟩ = some (.pointer par)) :
    Calls Tryd.prog 124 #[.pointer (some ⟨b, 0, none⟩), .int .i64 (i : Int), .int .i64 kk] w fun e w' => e = .returned (.bool (takesB k par.isNone i kk)) ∧ w' = w := by
  have hi : (0 : Int) < (i : Int) ∨ i = 0 := by omega
  by_cases h18 : k = 18
  · subst h18
    by_cases ha : 11 ≤ kk
    · by_cases hb : kk ≤ 19
      · have hr : takesB 18 par.isNone i kk = true := by simp [takesB, ha, hb]
        rw [hr]
        clear hr
        go_enter Tryd.func124, Tryd.ntmps124
        go_wp2
        go_ret
        exact ⟨rfl, rfl⟩
      · by_cases h20 : kk = 20
        · subst h20
          cases par
          · go_enter Tryd.func124, Tryd.ntmps124
            go_wp2
            go_ret
            exact ⟨rfl, rfl⟩
          · go_enter Tryd.func124, Tryd.ntmps124
            go_wp2
            go_ret
            exact ⟨rfl, rfl⟩
        · have f20 : (kk == 20) = false := beq_eq_false_iff_ne.2 h20
          have hr : takesB 18 par.isNone i kk = false := by simp [takesB, hb, h20]
          rw [hr]
          clear hr
          go_enter Tryd.func124, Tryd.ntmps124
          go_wp2
          go_ret
          exact ⟨rfl, rfl⟩
    · have f20 : (kk == 20) = false := beq_eq_false_iff_ne.2 (by omega)
      have hr : takesB 18 par.isNone i kk = false := by simp [takesB, ha, f20]
      rw [hr]
      clear hr
      go_enter Tryd.func124, Tryd.ntmps124
      go_wp2
      go_ret
      exact ⟨rfl, rfl⟩
  have f18 : (k == 18) = false := beq_eq_false_iff_ne.2 h18
  by_cases h17 : k = 17
  · subst h17
    have hr : takesB 17 par.isNone i kk = (kk == 18) := by simp [takesB]
    rw [hr]
    clear hr
    go_enter Tryd.func124, Tryd.ntmps124
    go_wp2
    go_ret
    exact ⟨rfl, rfl⟩
  have f17 : (k == 17) = false := beq_eq_false_iff_ne.2 h17
  by_cases h20 : k = 20
  · subst h20
    have hr : takesB 20 par.isNone i kk = (kk == 18) := by simp [takesB]
    rw [hr]
    clear hr
    go_enter Tryd.func124, Tryd.ntmps124
    go_wp2
    go_ret
    exact ⟨rfl, rfl⟩
  have f20 : (k == 20) = false := beq_eq_false_iff_ne.2 h20
  by_cases h13 : k = 13
  · subst h13
    exact takes_ex b 13 kk i par w h0 (.inl rfl)
  have f13 : (k == 13) = false := beq_eq_false_iff_ne.2 h13
  by_cases h14 : k = 14
  · subst h14
    exact takes_ex b 14 kk i par w h0 (.inr rfl)
  have f14 : (k == 14) = false := beq_eq_false_iff_ne.2 h14
  have hr : takesB k par.isNone i kk = (decide (1 ≤ kk) && decide (kk ≤ 10)) := by simp [takesB, h18, h17, h20, h13, h14]
  rw [hr]
  clear hr
  by_cases ha : 1 ≤ kk
  · by_cases hb : kk ≤ 10
    · rw [show (decide (1 ≤ kk) && decide (kk ≤ 10)) = true by simp [ha, hb]]
      go_enter Tryd.func124, Tryd.ntmps124
      go_wp2
      go_ret
      exact ⟨rfl, rfl⟩
    · rw [show (decide (1 ≤ kk) && decide (kk ≤ 10)) = false by simp [hb]]
      go_enter Tryd.func124, Tryd.ntmps124
      go_wp2
      go_ret
      exact ⟨rfl, rfl⟩
  · rw [show (decide (1 ≤ kk) && decide (kk ≤ 10)) = false by simp [ha]]
    go_enter Tryd.func124, Tryd.ntmps124
    go_wp2
    go_ret
    exact ⟨rfl, rfl⟩

end Go.Proofs.YtbipgmikgokfpaaDoor
