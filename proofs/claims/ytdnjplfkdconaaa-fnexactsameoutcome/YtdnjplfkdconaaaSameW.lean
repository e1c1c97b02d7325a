/- The law on outcomes that are alike. -/
import Derived.Test.YtdnjplfkdconaaaMach3
import Derived.Test.YtdnjplfkdconaaaMach4
namespace Go.Proofs.Ytdnjplfkdconaaa
open Go.RowKit
set_option linter.unusedVariables false

theorem szOutcome_any (st k n : Int) (t : ByteArray) (sp : Int) (w : World) (ht : t.size ≤ maxLen) :
    Calls Try.prog 4 #[.agg #[.int .i64 st, .int .i64 k, .int .i64 n, .string t, .int .i64 sp], .int .i64 1048576] w fun e w' => ∃ r : Int, e = .returned (.int .i64 r) ∧ (r < 0 ∨ (0 ≤ r ∧ r ≤ 1048576)) ∧ Below w.heap.size w w' := by
  by_cases hy : (t.size : Int) ≤ 1048576
  · go_enter Try.func4, Try.ntmps4
    go_wp2_with fail
    refine (szValue_yes k n t _ _ (by omega) hy).mono ?_
    rintro e w2 ⟨rfl, hb2⟩
    have hB2 := hide (nx_trans (nx_alloc _ _) hb2)
    clear hb2
    go_wp2
    go_ret
    exact ⟨_, rfl, .inr ⟨by omega, by omega⟩, unhide hB2⟩
  · go_enter Try.func4, Try.ntmps4
    go_wp2_with fail
    refine (szValue_no k n t _ _ ht (by omega) (by omega) (by omega)).mono ?_
    rintro e w2 ⟨rfl, hb2⟩
    have hB2 := hide (nx_trans (nx_alloc _ _) hb2)
    clear hb2
    go_wp2
    go_ret
    exact ⟨-1, rfl, .inl (by omega), unhide hB2⟩

theorem toOutcome_any (st k n : Int) (t : ByteArray) (sp : Int) (w : World) :
    Calls Try.prog 7 #[.agg #[.int .i64 st, .int .i64 k, .int .i64 n, .string t, .int .i64 sp]] w fun e w' => e = .returned (.agg #[.int .i64 st, .int .i64 k, .int .i64 n, .string t, .int .i64 sp]) ∧ Below w.heap.size w w' := by
  go_enter Try.func7, Try.ntmps7
  go_wp2_with fail
  refine (toValue_any k n t _).mono ?_
  rintro e w2 ⟨rfl, hb2⟩
  obtain ⟨hc, hf⟩ := bcell hb2
  have hB2 := hide hb2
  clear hb2
  go_wp2
  refine bodyPost_ret (v := .agg #[.int .i64 st, .int .i64 k, .int .i64 n, .string t, .int .i64 sp]) (by simp [results, Try.results7, go_sem, *]) rfl ⟨rfl, ?_⟩
  repeat refine nx_set ?_ (by omega)
  exact nx_trans (nx_al (nx_al (nx_alloc _ _))) (unhide hB2)

/-- an outcome and a machine are alike -/
def sameP (st k n : Int) (t : ByteArray) (ms mk mn : Int) (mt : ByteArray) : Bool := decide (2 ≤ st ∧ st ≤ 3 ∧ st = ms ∧ k = mk ∧ n = mn ∧ t.toList = mt.toList)

set_option maxHeartbeats 1000000 in
theorem specSame_any (st k n : Int) (t : ByteArray) (sp : Int) (p : Option Addr) (l c : Nat) (ms mk mn : Int) (mt : ByteArray) (mu : Int) (w : World) :
    Calls Try.prog 6 #[.agg #[.int .i64 st, .int .i64 k, .int .i64 n, .string t, .int .i64 sp], .agg #[.slice p l c, .int .i64 ms, .int .i64 mk, .int .i64 mn, .string mt, .int .i64 mu]] w fun e w' => e = .returned (.bool (sameP st k n t ms mk mn mt)) ∧ Below w.heap.size w w' := by
  have hin : ∀ w : World, Calls Try.prog 13 #[.int .i64 st, .int .i64 2, .int .i64 3] w fun e w' => e = .returned (.bool (decide (2 ≤ st ∧ st ≤ 3))) ∧ w' = w := fun w => by
    by_cases h2 : 2 ≤ st <;> by_cases h3 : st ≤ 3
    all_goals
      go_enter Try.func13, Try.ntmps13
      go_wp2
      go_ret
      exact ⟨by simp [h2, h3], rfl⟩
  by_cases ha : 2 ≤ st ∧ st ≤ 3
  · have hA : decide (2 ≤ st ∧ st ≤ 3) = true := decide_eq_true ha
    simp only [hA] at hin
    by_cases h1 : st = ms
    · subst h1
      by_cases h2 : k = mk <;> by_cases h3 : n = mn <;> by_cases h4 : t.toList = mt.toList
      all_goals
        go_enter Try.func6, Try.ntmps6
        go_wp2_with fail
        refine (hin _).mono ?_
        rintro e w' ⟨rfl, rfl⟩
        go_wp2
        go_ret
        exact ⟨by simp [sameP, *], nx_trans (nx_alloc _ _) (nx_alloc _ _)⟩
    · go_enter Try.func6, Try.ntmps6
      go_wp2_with fail
      refine (hin _).mono ?_
      rintro e w' ⟨rfl, rfl⟩
      go_wp2
      go_ret
      exact ⟨by simp [sameP, *], nx_trans (nx_alloc _ _) (nx_alloc _ _)⟩
  · have hA : decide (2 ≤ st ∧ st ≤ 3) = false := decide_eq_false ha
    simp only [hA] at hin
    go_enter Try.func6, Try.ntmps6
    go_wp2_with fail
    refine (hin _).mono ?_
    rintro e w' ⟨rfl, rfl⟩
    go_wp2
    go_ret
    exact ⟨by simp [sameP]; omega, nx_trans (nx_alloc _ _) (nx_alloc _ _)⟩

set_option maxHeartbeats 1000000 in
theorem implSame_any (st k n : Int) (t : ByteArray) (sp : Int) (p : Option Addr) (l c : Nat) (ms mk mn : Int) (mt : ByteArray) (mu : Int) (w : World) :
    Calls Try.prog 9 #[.agg #[.int .i64 st, .int .i64 k, .int .i64 n, .string t, .int .i64 sp], .agg #[.slice p l c, .int .i64 ms, .int .i64 mk, .int .i64 mn, .string mt, .int .i64 mu]] w fun e w' => e = .returned (.bool (sameP st k n t ms mk mn mt)) ∧ Below w.heap.size w w' := by
  by_cases ha : 2 ≤ st ∧ st ≤ 3
  · by_cases h1 : st = ms
    · subst h1
      by_cases h0 : st = 2 <;> by_cases h2 : k = mk <;> by_cases h3 : n = mn <;> by_cases h4 : t.toList = mt.toList
      all_goals
        have h5 : st = 2 ∨ st = 3 := by omega
        go_enter Try.func9, Try.ntmps9
        go_wp2
        go_ret
        exact ⟨by simp [sameP, *], nx_trans (nx_alloc _ _) (nx_alloc _ _)⟩
    · by_cases h0 : st = 2
      all_goals
        go_enter Try.func9, Try.ntmps9
        go_wp2
        go_ret
        exact ⟨by simp [sameP, *], nx_trans (nx_alloc _ _) (nx_alloc _ _)⟩
  · have h2 : ¬ st = 2 := by omega
    have h3 : ¬ st = 3 := by omega
    go_enter Try.func9, Try.ntmps9
    go_wp2
    go_ret
    exact ⟨by simp [sameP]; omega, nx_trans (nx_alloc _ _) (nx_alloc _ _)⟩

end Go.Proofs.Ytdnjplfkdconaaa
