/- 'l03Node' answers 'partsB', whatever the node. -/
import Derived.Test.YtbipgmikgokfpaaDoorSNodeWalk2
import Derived.Test.YtbipgmikgokfpaaDoorNodeWalk1
namespace Go.Proofs.YtbipgmikgokfpaaDoor
open Go.RowKit Go.Joins
set_option linter.unusedVariables false

theorem sz0 (t : ByteArray) : t.toList = [] ↔ t.size = 0 := by
  rw [ByteArray.toList_eq, ← List.length_eq_zero_iff, size_list]
theorem parts_1 {x : TN} (h : x.k = 1) : partsB x = (decide (0 ≤ x.n) && decide (x.n ≤ 2147483647) && decide (x.t.size = 0) && decide (x.names.length = 0)) := by unfold partsB; rw [if_pos h]
theorem parts_3 {x : TN} (h : x.k = 3) : partsB x = (decide (0 ≤ x.n) && decide (x.n ≤ 1) && decide (x.t.size = 0) && decide (x.names.length = 0)) := by unfold partsB; rw [if_neg (by omega), if_pos h]
theorem parts_bad {x : TN} (h1 : x.k ≠ 1) (h3 : x.k ≠ 3) (h : x.n ≠ 0 ∨ (x.k ≠ 20 ∧ 0 < x.names.length)) : partsB x = false := by unfold partsB; rw [if_neg h1, if_neg h3, if_pos h]
theorem parts_rest {x : TN} (h1 : x.k ≠ 1) (h3 : x.k ≠ 3) (h : ¬ (x.n ≠ 0 ∨ (x.k ≠ 20 ∧ 0 < x.names.length))) : partsB x = if x.k = 2 then plainB x.t.data.toList else if x.k = 6 then (x.t.data.toList == [33]) || (x.t.data.toList == [45]) else if x.k = 7 then opB x.t.data.toList else if namedB x.k = true then x.names.all identB && identB x.t else decide (x.t.size = 0) && decide (4 ≤ x.k) && decide (x.k ≤ 19) := by unfold partsB; rw [if_neg h1, if_neg h3, if_neg h]
theorem parts_plain {x : TN} (hk : x.k = 4 ∨ x.k = 8 ∨ x.k = 9 ∨ x.k = 13 ∨ x.k = 14 ∨ x.k = 15 ∨ x.k = 16 ∨ x.k = 18 ∨ x.k = 19) (hz : x.n = 0) (hn : x.names.length = 0) : partsB x = decide (x.t.size = 0) := by
  rw [parts_rest (by omega) (by omega) (by omega), if_neg (by omega), if_neg (by omega), if_neg (by omega), if_neg]
  · rw [show decide (4 ≤ x.k) = true from decide_eq_true (by omega), show decide (x.k ≤ 19) = true from decide_eq_true (by omega)]; simp
  · simp [namedB]; omega
theorem parts_named {x : TN} (hk : x.k = 5 ∨ x.k = 10 ∨ x.k = 11 ∨ x.k = 12 ∨ x.k = 17 ∨ x.k = 20) (hz : x.n = 0) (hn : x.k = 20 ∨ x.names.length = 0) : partsB x = (x.names.all identB && identB x.t) := by
  rw [parts_rest (by omega) (by omega) (by omega), if_neg (by omega), if_neg (by omega), if_neg (by omega), if_pos]
  simp [namedB]; omega
theorem parts_out {x : TN} (hk : ¬ (1 ≤ x.k ∧ x.k ≤ 20)) : partsB x = false := by
  cases h : partsB x
  · rfl
  · exact absurd (parts_kind h) hk
theorem parts_2 {x : TN} (hk : x.k = 2) (hz : x.n = 0) (hn : x.names.length = 0) : partsB x = plainB x.t.data.toList := by rw [parts_rest (by omega) (by omega) (by omega), if_pos hk]
theorem parts_6 {x : TN} (hk : x.k = 6) (hz : x.n = 0) (hn : x.names.length = 0) : partsB x = ((x.t.data.toList == [33]) || (x.t.data.toList == [45])) := by rw [parts_rest (by omega) (by omega) (by omega), if_neg (by omega), if_pos hk]
theorem parts_7 {x : TN} (hk : x.k = 7) (hz : x.n = 0) (hn : x.names.length = 0) : partsB x = opB x.t.data.toList := by rw [parts_rest (by omega) (by omega) (by omega), if_neg (by omega), if_neg (by omega), if_pos hk]

set_option maxHeartbeats 2000000 in
set_option maxRecDepth 100000 in
theorem l03Node_out (k n : Int) (t : ByteArray) (pn : Option Addr) (nl cn : Nat) (pk : Option Addr) (kl ck : Nat) (w : World) (hk : ¬ (1 ≤ k ∧ k ≤ 20)) :
    Calls Tryd.prog 119 #[.agg #[.int .i64 k, .int .i64 n, .string t, .slice pn nl cn, .slice pk kl ck]] w fun e w' => e = .returned (.bool false) ∧ Below w.heap.size w w' := by
  have hne : ∀ n : Int, 1 ≤ n → n ≤ 20 → (k == n) = false := fun n h1 h2 => beq_eq_false_iff_ne.2 (by omega)
  have n1 := hne 1 (by omega) (by omega)
  have n2 := hne 2 (by omega) (by omega)
  have n3 := hne 3 (by omega) (by omega)
  have n5 := hne 5 (by omega) (by omega)
  have n6 := hne 6 (by omega) (by omega)
  have n7 := hne 7 (by omega) (by omega)
  have n10 := hne 10 (by omega) (by omega)
  have n11 := hne 11 (by omega) (by omega)
  have n12 := hne 12 (by omega) (by omega)
  have n17 := hne 17 (by omega) (by omega)
  have n20 := hne 20 (by omega) (by omega)
  have m20 : (k != 20) = true := by simp [bne, n20]
  have hin : (decide (4 ≤ k) && decide (k ≤ 19)) = false := by simp; omega
  clear hne hk
  by_cases hz : n = 0
  · subst hz
    by_cases hn : (0 : Int) < (nl : Int)
    · go_enter Tryd.func119, Tryd.ntmps119
      go_wp2
      go_ret
      exact ⟨rfl, nx_alloc _ _⟩
    · by_cases ht : t.toList = []
      · go_enter Tryd.func119, Tryd.ntmps119
        go_wp2_with fail
        refine (l01In_is k 4 19 false _ hin).mono ?_
        rintro e w' ⟨rfl, rfl⟩
        go_wp2
        go_ret
        exact ⟨rfl, nx_alloc _ _⟩
      · have t1 : (t.toList == []) = false := beq_eq_false_iff_ne.2 ht
        go_enter Tryd.func119, Tryd.ntmps119
        go_wp2
        go_ret
        exact ⟨rfl, nx_alloc _ _⟩
  · have z1 : (n == 0) = false := beq_eq_false_iff_ne.2 hz
    have z2 : (n != 0) = true := by simp [bne, z1]
    go_enter Tryd.func119, Tryd.ntmps119
    go_wp2
    go_ret
    exact ⟨rfl, nx_alloc _ _⟩

theorem l03Node_any (x : TN) (pn : Option Addr) (cn : Nat) (pk : Option Addr) (kl ck : Nat) (w : World) (hs : x.t.size ≤ maxLen) (hr : StrsAt w pn x.names) (hl : x.names.length ≤ 1048576) (hsz : ∀ s ∈ x.names, s.size ≤ 1048576) :
    Calls Tryd.prog 119 #[.agg #[.int .i64 x.k, .int .i64 x.n, .string x.t, .slice pn x.names.length cn, .slice pk kl ck]] w fun e w' => e = .returned (.bool (partsB x)) ∧ Below w.heap.size w w' := by
  by_cases hk : 1 ≤ x.k ∧ x.k ≤ 20
  · by_cases h1 : x.k = 1
    · rw [parts_1 h1, h1]
      by_cases hin : 0 ≤ x.n ∧ x.n ≤ 2147483647
      · by_cases ht : x.t.toList = []
        · by_cases hn : x.names.length = 0
          · rw [show (decide (0 ≤ x.n) && decide (x.n ≤ 2147483647) && decide (x.t.size = 0) && decide (x.names.length = 0)) = true by simp [hin, (sz0 _).1 ht]; simpa using hn]
            exact l03Node_int_ok x.n x.t pn x.names cn pk kl ck w hin ht hn
          · rw [show (decide (0 ≤ x.n) && decide (x.n ≤ 2147483647) && decide (x.t.size = 0) && decide (x.names.length = 0)) = false by rw [decide_eq_false hn]; simp]
            exact l03Node_int_names x.n x.t pn x.names cn pk kl ck w hin ht hn
        · rw [show (decide (0 ≤ x.n) && decide (x.n ≤ 2147483647) && decide (x.t.size = 0) && decide (x.names.length = 0)) = false by rw [decide_eq_false (p := x.t.size = 0) (fun h => ht ((sz0 _).2 h))]; simp]
          exact l03Node_int_text x.n x.t pn x.names cn pk kl ck w hin ht
      · rw [show (decide (0 ≤ x.n) && decide (x.n ≤ 2147483647) && decide (x.t.size = 0) && decide (x.names.length = 0)) = false by
          rw [show (decide (0 ≤ x.n) && decide (x.n ≤ 2147483647)) = false by simp; omega]; simp]
        exact l03Node_int_out x.n x.t pn x.names cn pk kl ck w hin
    by_cases h3 : x.k = 3
    · rw [parts_3 h3, h3]
      by_cases hin : 0 ≤ x.n ∧ x.n ≤ 1
      · by_cases ht : x.t.toList = []
        · by_cases hn : x.names.length = 0
          · rw [show (decide (0 ≤ x.n) && decide (x.n ≤ 1) && decide (x.t.size = 0) && decide (x.names.length = 0)) = true by simp [hin, (sz0 _).1 ht]; simpa using hn]
            exact l03Node_bool_ok x.n x.t pn x.names cn pk kl ck w hin ht hn
          · rw [show (decide (0 ≤ x.n) && decide (x.n ≤ 1) && decide (x.t.size = 0) && decide (x.names.length = 0)) = false by rw [decide_eq_false hn]; simp]
            exact l03Node_bool_names x.n x.t pn x.names cn pk kl ck w hin ht hn
        · rw [show (decide (0 ≤ x.n) && decide (x.n ≤ 1) && decide (x.t.size = 0) && decide (x.names.length = 0)) = false by rw [decide_eq_false (p := x.t.size = 0) (fun h => ht ((sz0 _).2 h))]; simp]
          exact l03Node_bool_text x.n x.t pn x.names cn pk kl ck w hin ht
      · rw [show (decide (0 ≤ x.n) && decide (x.n ≤ 1) && decide (x.t.size = 0) && decide (x.names.length = 0)) = false by
          rw [show (decide (0 ≤ x.n) && decide (x.n ≤ 1)) = false by simp; omega]; simp]
        exact l03Node_bool_out x.n x.t pn x.names cn pk kl ck w hin
    by_cases hz : x.n = 0
    · by_cases hn : x.k = 20 ∨ x.names.length = 0
      · by_cases hnm : x.k = 5 ∨ x.k = 10 ∨ x.k = 11 ∨ x.k = 12 ∨ x.k = 17 ∨ x.k = 20
        · rw [parts_named hnm hz hn, hz]
          rcases hnm with e | e | e | e | e | e <;> rw [e]
          · exact l03Node_named5 x.t pn x.names cn pk kl ck w (by omega) hs hr hl hsz
          · exact l03Node_named10 x.t pn x.names cn pk kl ck w (by omega) hs hr hl hsz
          · exact l03Node_named11 x.t pn x.names cn pk kl ck w (by omega) hs hr hl hsz
          · exact l03Node_named12 x.t pn x.names cn pk kl ck w (by omega) hs hr hl hsz
          · exact l03Node_named17 x.t pn x.names cn pk kl ck w (by omega) hs hr hl hsz
          · exact l03Node_named20 x.t pn x.names cn pk kl ck w hs hr hl hsz
        · have hn0 : x.names.length = 0 := by omega
          by_cases h2 : x.k = 2
          · rw [parts_2 h2 hz hn0, h2]
            exact l03Node_quoted x.n x.t pn x.names cn pk kl ck w hz hn0 hs
          by_cases h6 : x.k = 6
          · rw [parts_6 h6 hz hn0, h6]
            exact l03Node_unary x.n x.t pn x.names cn pk kl ck w hz hn0
          by_cases h7 : x.k = 7
          · rw [parts_7 h7 hz hn0, h7]
            exact l03Node_binary x.n x.t pn x.names cn pk kl ck w hz hn0
          have hpl : x.k = 4 ∨ x.k = 8 ∨ x.k = 9 ∨ x.k = 13 ∨ x.k = 14 ∨ x.k = 15 ∨ x.k = 16 ∨ x.k = 18 ∨ x.k = 19 := by omega
          rw [parts_plain hpl hz hn0]
          by_cases ht : x.t.toList = []
          · rw [decide_eq_true ((sz0 _).1 ht)]
            exact l03Node_empty x.k x.n x.t pn x.names cn pk kl ck w hpl hz hn0 ht
          · rw [decide_eq_false (p := x.t.size = 0) (fun h => ht ((sz0 _).2 h))]
            exact l03Node_text x.k x.n x.t pn x.names cn pk kl ck w hpl hz hn0 ht
      · rw [parts_bad h1 h3 (.inr (by omega))]
        exact l03Node_names x.k x.n x.t pn x.names cn pk kl ck w (by omega) hz (by omega)
    · rw [parts_bad h1 h3 (.inl hz)]
      exact l03Node_n x.k x.n x.t pn x.names cn pk kl ck w (by omega) hz
  · rw [parts_out hk]
    exact l03Node_out x.k x.n x.t pn x.names.length cn pk kl ck w hk

end Go.Proofs.YtbipgmikgokfpaaDoor
