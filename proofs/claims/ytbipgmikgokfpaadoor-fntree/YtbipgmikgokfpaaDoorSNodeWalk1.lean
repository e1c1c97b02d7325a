/- What is right of a node by itself, the specification's side: 'l03Node' answers 'partsB'. -/
import Derived.Test.YtbipgmikgokfpaaDoorNodeWalk2
import Derived.Test.YtbipgmikgokfpaaDoorSignWalk
import Derived.Test.YtbipgmikgokfpaaDoorUnaryWalk
namespace Go.Proofs.YtbipgmikgokfpaaDoor
open Go.RowKit Go.Joins
set_option linter.unusedVariables false

theorem l03Expr_any (k : Int) (w : World) : Calls Tryd.prog 116 #[.int .i64 k] w fun e w' => e = .returned (.bool (decide (1 ≤ k) && decide (k ≤ 10))) ∧ w' = w := by
  go_enter Tryd.func116, Tryd.ntmps116
  go_wp2_with fail
  refine (l01In_any k 1 10 _).mono ?_
  rintro e w' ⟨rfl, rfl⟩
  go_wp2
  go_ret
  exact ⟨rfl, rfl⟩
theorem l03State_any (k : Int) (w : World) : Calls Tryd.prog 117 #[.int .i64 k] w fun e w' => e = .returned (.bool (decide (11 ≤ k) && decide (k ≤ 19))) ∧ w' = w := by
  go_enter Tryd.func117, Tryd.ntmps117
  go_wp2_with fail
  refine (l01In_any k 11 19 _).mono ?_
  rintro e w' ⟨rfl, rfl⟩
  go_wp2
  go_ret
  exact ⟨rfl, rfl⟩

set_option maxHeartbeats 4000000 in
theorem l03Node_empty (k : Int) (n : Int) (t : ByteArray) (pn : Option Addr) (names : List ByteArray) (cn : Nat) (pk : Option Addr) (kl ck : Nat) (w : World) (hk : k = 4 ∨ k = 8 ∨ k = 9 ∨ k = 13 ∨ k = 14 ∨ k = 15 ∨ k = 16 ∨ k = 18 ∨ k = 19) (hz : n = 0) (hn : names.length = 0) (ht : t.toList = []) :
    Calls Tryd.prog 119 #[.agg #[.int .i64 k, .int .i64 n, .string t, .slice pn names.length cn, .slice pk kl ck]] w fun e w' => e = .returned (.bool true) ∧ Below w.heap.size w w' := by
  subst hz
  have e3 : ¬ (0 : Int) < (names.length : Int) := by omega
  clear hn
  rcases hk with rfl | rfl | rfl | rfl | rfl | rfl | rfl | rfl | rfl
  all_goals
    go_enter Tryd.func119, Tryd.ntmps119
    go_wp2_with fail
    refine (l01In_is _ 4 19 true _ (by decide)).mono ?_
    rintro e w' ⟨rfl, rfl⟩
    go_wp2
    go_ret
    exact ⟨rfl, nx_alloc _ _⟩

set_option maxHeartbeats 4000000 in
theorem l03Node_text (k : Int) (n : Int) (t : ByteArray) (pn : Option Addr) (names : List ByteArray) (cn : Nat) (pk : Option Addr) (kl ck : Nat) (w : World) (hk : k = 4 ∨ k = 8 ∨ k = 9 ∨ k = 13 ∨ k = 14 ∨ k = 15 ∨ k = 16 ∨ k = 18 ∨ k = 19) (hz : n = 0) (hn : names.length = 0) (ht : ¬ t.toList = []) :
    Calls Tryd.prog 119 #[.agg #[.int .i64 k, .int .i64 n, .string t, .slice pn names.length cn, .slice pk kl ck]] w fun e w' => e = .returned (.bool false) ∧ Below w.heap.size w w' := by
  subst hz
  have e3 : ¬ (0 : Int) < (names.length : Int) := by omega
  have t1 : (t.toList == []) = false := beq_eq_false_iff_ne.2 ht
  clear hn
  rcases hk with rfl | rfl | rfl | rfl | rfl | rfl | rfl | rfl | rfl
  all_goals
    go_enter Tryd.func119, Tryd.ntmps119
    go_wp2
    go_ret
    exact ⟨rfl, nx_alloc _ _⟩

set_option maxHeartbeats 1000000 in
theorem l03Node_int_out (n : Int) (t : ByteArray) (pn : Option Addr) (names : List ByteArray) (cn : Nat) (pk : Option Addr) (kl ck : Nat) (w : World) (h : ¬ (0 ≤ n ∧ n ≤ 2147483647)) :
    Calls Tryd.prog 119 #[.agg #[.int .i64 1, .int .i64 n, .string t, .slice pn names.length cn, .slice pk kl ck]] w fun e w' => e = .returned (.bool false) ∧ Below w.heap.size w w' := by
  go_enter Tryd.func119, Tryd.ntmps119
  go_wp2_with fail
  refine (l01In_is n 0 2147483647 false _ (by simp; omega)).mono ?_
  rintro e w' ⟨rfl, rfl⟩
  go_wp2
  go_ret
  exact ⟨rfl, nx_alloc _ _⟩

set_option maxHeartbeats 1000000 in
theorem l03Node_int_text (n : Int) (t : ByteArray) (pn : Option Addr) (names : List ByteArray) (cn : Nat) (pk : Option Addr) (kl ck : Nat) (w : World) (h : 0 ≤ n ∧ n ≤ 2147483647) (ht : ¬ t.toList = []) :
    Calls Tryd.prog 119 #[.agg #[.int .i64 1, .int .i64 n, .string t, .slice pn names.length cn, .slice pk kl ck]] w fun e w' => e = .returned (.bool false) ∧ Below w.heap.size w w' := by
  have t1 : (t.toList == []) = false := beq_eq_false_iff_ne.2 ht
  go_enter Tryd.func119, Tryd.ntmps119
  go_wp2_with fail
  refine (l01In_is n 0 2147483647 true _ (by simp; omega)).mono ?_
  rintro e w' ⟨rfl, rfl⟩
  go_wp2
  go_ret
  exact ⟨rfl, nx_alloc _ _⟩

set_option maxHeartbeats 1000000 in
theorem l03Node_int_names (n : Int) (t : ByteArray) (pn : Option Addr) (names : List ByteArray) (cn : Nat) (pk : Option Addr) (kl ck : Nat) (w : World) (h : 0 ≤ n ∧ n ≤ 2147483647) (ht : t.toList = []) (hn : names.length ≠ 0) :
    Calls Tryd.prog 119 #[.agg #[.int .i64 1, .int .i64 n, .string t, .slice pn names.length cn, .slice pk kl ck]] w fun e w' => e = .returned (.bool false) ∧ Below w.heap.size w w' := by
  have e3 : ((names.length : Int) == 0) = false := beq_eq_false_iff_ne.2 (by omega)
  go_enter Tryd.func119, Tryd.ntmps119
  go_wp2_with fail
  refine (l01In_is n 0 2147483647 true _ (by simp; omega)).mono ?_
  rintro e w' ⟨rfl, rfl⟩
  go_wp2
  go_ret
  exact ⟨rfl, nx_alloc _ _⟩

set_option maxHeartbeats 1000000 in
theorem l03Node_int_ok (n : Int) (t : ByteArray) (pn : Option Addr) (names : List ByteArray) (cn : Nat) (pk : Option Addr) (kl ck : Nat) (w : World) (h : 0 ≤ n ∧ n ≤ 2147483647) (ht : t.toList = []) (hn : names.length = 0) :
    Calls Tryd.prog 119 #[.agg #[.int .i64 1, .int .i64 n, .string t, .slice pn names.length cn, .slice pk kl ck]] w fun e w' => e = .returned (.bool true) ∧ Below w.heap.size w w' := by
  have e3 : ((names.length : Int) == 0) = true := by rw [hn]; rfl
  go_enter Tryd.func119, Tryd.ntmps119
  go_wp2_with fail
  refine (l01In_is n 0 2147483647 true _ (by simp; omega)).mono ?_
  rintro e w' ⟨rfl, rfl⟩
  go_wp2
  go_ret
  exact ⟨rfl, nx_alloc _ _⟩

set_option maxHeartbeats 1000000 in
theorem l03Node_bool_out (n : Int) (t : ByteArray) (pn : Option Addr) (names : List ByteArray) (cn : Nat) (pk : Option Addr) (kl ck : Nat) (w : World) (h : ¬ (0 ≤ n ∧ n ≤ 1)) :
    Calls Tryd.prog 119 #[.agg #[.int .i64 3, .int .i64 n, .string t, .slice pn names.length cn, .slice pk kl ck]] w fun e w' => e = .returned (.bool false) ∧ Below w.heap.size w w' := by
  go_enter Tryd.func119, Tryd.ntmps119
  go_wp2_with fail
  refine (l01In_is n 0 1 false _ (by simp; omega)).mono ?_
  rintro e w' ⟨rfl, rfl⟩
  go_wp2
  go_ret
  exact ⟨rfl, nx_alloc _ _⟩

set_option maxHeartbeats 1000000 in
theorem l03Node_bool_text (n : Int) (t : ByteArray) (pn : Option Addr) (names : List ByteArray) (cn : Nat) (pk : Option Addr) (kl ck : Nat) (w : World) (h : 0 ≤ n ∧ n ≤ 1) (ht : ¬ t.toList = []) :
    Calls Tryd.prog 119 #[.agg #[.int .i64 3, .int .i64 n, .string t, .slice pn names.length cn, .slice pk kl ck]] w fun e w' => e = .returned (.bool false) ∧ Below w.heap.size w w' := by
  have t1 : (t.toList == []) = false := beq_eq_false_iff_ne.2 ht
  go_enter Tryd.func119, Tryd.ntmps119
  go_wp2_with fail
  refine (l01In_is n 0 1 true _ (by simp; omega)).mono ?_
  rintro e w' ⟨rfl, rfl⟩
  go_wp2
  go_ret
  exact ⟨rfl, nx_alloc _ _⟩

set_option maxHeartbeats 1000000 in
theorem l03Node_bool_names (n : Int) (t : ByteArray) (pn : Option Addr) (names : List ByteArray) (cn : Nat) (pk : Option Addr) (kl ck : Nat) (w : World) (h : 0 ≤ n ∧ n ≤ 1) (ht : t.toList = []) (hn : names.length ≠ 0) :
    Calls Tryd.prog 119 #[.agg #[.int .i64 3, .int .i64 n, .string t, .slice pn names.length cn, .slice pk kl ck]] w fun e w' => e = .returned (.bool false) ∧ Below w.heap.size w w' := by
  have e3 : ((names.length : Int) == 0) = false := beq_eq_false_iff_ne.2 (by omega)
  go_enter Tryd.func119, Tryd.ntmps119
  go_wp2_with fail
  refine (l01In_is n 0 1 true _ (by simp; omega)).mono ?_
  rintro e w' ⟨rfl, rfl⟩
  go_wp2
  go_ret
  exact ⟨rfl, nx_alloc _ _⟩

set_option maxHeartbeats 1000000 in
theorem l03Node_bool_ok (n : Int) (t : ByteArray) (pn : Option Addr) (names : List ByteArray) (cn : Nat) (pk : Option Addr) (kl ck : Nat) (w : World) (h : 0 ≤ n ∧ n ≤ 1) (ht : t.toList = []) (hn : names.length = 0) :
    Calls Tryd.prog 119 #[.agg #[.int .i64 3, .int .i64 n, .string t, .slice pn names.length cn, .slice pk kl ck]] w fun e w' => e = .returned (.bool true) ∧ Below w.heap.size w w' := by
  have e3 : ((names.length : Int) == 0) = true := by rw [hn]; rfl
  go_enter Tryd.func119, Tryd.ntmps119
  go_wp2_with fail
  refine (l01In_is n 0 1 true _ (by simp; omega)).mono ?_
  rintro e w' ⟨rfl, rfl⟩
  go_wp2
  go_ret
  exact ⟨rfl, nx_alloc _ _⟩

set_option maxHeartbeats 1000000 in
theorem l03Node_quoted (n : Int) (t : ByteArray) (pn : Option Addr) (names : List ByteArray) (cn : Nat) (pk : Option Addr) (kl ck : Nat) (w : World) (hz : n = 0) (hn : names.length = 0) (hs : t.size ≤ maxLen) :
    Calls Tryd.prog 119 #[.agg #[.int .i64 2, .int .i64 n, .string t, .slice pn names.length cn, .slice pk kl ck]] w fun e w' => e = .returned (.bool (plainB t.data.toList)) ∧ Below w.heap.size w w' := by
  subst hz
  have e3 : ¬ (0 : Int) < (names.length : Int) := by omega
  clear hn
  go_enter Tryd.func119, Tryd.ntmps119
  go_wp2_with fail
  refine (l02Plain_any t _ hs).mono ?_
  rintro e w' ⟨rfl, rfl⟩
  go_wp2
  go_ret
  exact ⟨rfl, nx_alloc _ _⟩

set_option maxHeartbeats 1000000 in
theorem l03Node_unary (n : Int) (t : ByteArray) (pn : Option Addr) (names : List ByteArray) (cn : Nat) (pk : Option Addr) (kl ck : Nat) (w : World) (hz : n = 0) (hn : names.length = 0) :
    Calls Tryd.prog 119 #[.agg #[.int .i64 6, .int .i64 n, .string t, .slice pn names.length cn, .slice pk kl ck]] w fun e w' => e = .returned (.bool ((t.data.toList == [33]) || (t.data.toList == [45]))) ∧ Below w.heap.size w w' := by
  subst hz
  have e3 : ¬ (0 : Int) < (names.length : Int) := by omega
  clear hn
  rw [← ByteArray.toList_eq]
  by_cases h : t.toList = [33]
  · rw [show ((t.toList == [33]) || (t.toList == [45])) = true by simp [h]]
    go_enter Tryd.func119, Tryd.ntmps119
    go_wp2
    go_ret
    exact ⟨rfl, nx_alloc _ _⟩
  have f : (t.toList == [33]) = false := beq_eq_false_iff_ne.2 h
  by_cases h2 : t.toList = [45]
  · rw [show ((t.toList == [33]) || (t.toList == [45])) = true by simp [h2]]
    go_enter Tryd.func119, Tryd.ntmps119
    go_wp2
    go_ret
    exact ⟨rfl, nx_alloc _ _⟩
  have f2 : (t.toList == [45]) = false := beq_eq_false_iff_ne.2 h2
  rw [f, f2]
  go_enter Tryd.func119, Tryd.ntmps119
  go_wp2
  go_ret
  exact ⟨rfl, nx_alloc _ _⟩

theorem op7 (l : List UInt8) : isOp7 l ↔ opB l = true := by
  unfold isOp7 isOp opB
  simp
  grind

set_option maxHeartbeats 1000000 in
theorem l03Node_binary (n : Int) (t : ByteArray) (pn : Option Addr) (names : List ByteArray) (cn : Nat) (pk : Option Addr) (kl ck : Nat) (w : World) (hz : n = 0) (hn : names.length = 0) :
    Calls Tryd.prog 119 #[.agg #[.int .i64 7, .int .i64 n, .string t, .slice pn names.length cn, .slice pk kl ck]] w fun e w' => e = .returned (.bool (opB t.data.toList)) ∧ Below w.heap.size w w' := by
  subst hz
  have e3 : ¬ (0 : Int) < (names.length : Int) := by omega
  clear hn
  rw [← ByteArray.toList_eq]
  by_cases h : isOp7 t.toList
  · rw [(op7 _).1 h]
    go_enter Tryd.func119, Tryd.ntmps119
    go_wp2_with fail
    refine (l01Op_yes t _ h).mono ?_
    rintro e w' ⟨rfl, rfl⟩
    go_wp2
    go_ret
    exact ⟨rfl, nx_alloc _ _⟩
  · rw [show opB t.toList = false by cases hh : opB t.toList; rfl; exact absurd ((op7 _).2 hh) h]
    go_enter Tryd.func119, Tryd.ntmps119
    go_wp2_with fail
    refine (l01Op_no t _ h).mono ?_
    rintro e w' ⟨rfl, rfl⟩
    go_wp2
    go_ret
    exact ⟨rfl, nx_alloc _ _⟩

end Go.Proofs.YtbipgmikgokfpaaDoor
