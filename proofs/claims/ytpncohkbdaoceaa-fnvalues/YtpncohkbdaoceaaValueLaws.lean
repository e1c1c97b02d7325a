/- The helpers of the exact laws on values, truths of values, and the laws on ValueOK, Truth. -/
import Derived.Test.YtpncohkbdaoceaaValueWalk
namespace Go.Proofs.Ytpncohkbdaoceaa
open Go.RowKit

/-- a value as the machine holds it -/
abbrev valV (k n : Int) (t : ByteArray) : Value := .agg #[.int .i64 k, .int .i64 n, .string t]

set_option maxHeartbeats 400000 in
theorem szValue_yes (k n : Int) (t : ByteArray) (left : Int) (w : World) (h0 : left ≤ 1048576) (h : (t.size : Int) ≤ left) :
    Calls Try.prog 25 #[.agg #[.int .i64 k, .int .i64 n, .string t], .int .i64 left] w fun e w' => e = .returned (.int .i64 (left - t.size)) ∧ Below w.heap.size w w' := by
  go_enter Try.func25, Try.ntmps25
  go_wp2
  go_ret
  exact ⟨rfl, nx_alloc _ _⟩

set_option maxHeartbeats 400000 in
theorem szValue_no (k n : Int) (t : ByteArray) (left : Int) (w : World) (ht : t.size ≤ maxLen) (h0 : 0 ≤ left) (h1 : left ≤ 1048576) (h : left < (t.size : Int)) :
    Calls Try.prog 25 #[.agg #[.int .i64 k, .int .i64 n, .string t], .int .i64 left] w fun e w' => e = .returned (.int .i64 (-1)) ∧ Below w.heap.size w w' := by
  unfold maxLen at ht
  go_enter Try.func25, Try.ntmps25
  go_wp2
  go_ret
  exact ⟨rfl, nx_alloc _ _⟩

set_option maxHeartbeats 400000 in
theorem toValue_any (k n : Int) (t : ByteArray) (w : World) :
    Calls Try.prog 27 #[.agg #[.int .i64 k, .int .i64 n, .string t]] w fun e w' => e = .returned (.agg #[.int .i64 k, .int .i64 n, .string t]) ∧ Below w.heap.size w w' := by
  go_enter Try.func27, Try.ntmps27
  go_wp2
  exact bodyPost_ret (v := .agg #[.int .i64 k, .int .i64 n, .string t]) (by simp [results, Try.results27, go_sem]) rfl ⟨rfl, nx_trans (nx_trans (nx_alloc _ _) (nx_alloc _ _)) (nx_alloc _ _)⟩

set_option maxHeartbeats 400000 in
theorem eqValue_same (k n : Int) (t : ByteArray) (w : World) :
    Calls Try.prog 28 #[.agg #[.int .i64 k, .int .i64 n, .string t], .agg #[.int .i64 k, .int .i64 n, .string t]] w fun e w' => e = .returned (.bool true) ∧ Below w.heap.size w w' := by
  go_enter Try.func28, Try.ntmps28
  go_wp2
  go_ret
  exact ⟨rfl, nx_trans (nx_alloc _ _) (nx_alloc _ _)⟩

set_option maxHeartbeats 400000 in
theorem lawValueOK_any (k n : Int) (t : ByteArray) (w : World) (_hk : (Lit.int .i64 k).wf = true) (_hn : (Lit.int .i64 n).wf = true) (ht : t.size ≤ maxLen) :
    Calls Try.prog 5 #[.agg #[.int .i64 k, .int .i64 n, .string t]] w fun e w' => e = .returned (.bool true) ∧ Below w.heap.size w w' := by
  by_cases h : (1048576 : Int) < (t.size : Int)
  · go_enter Try.func5, Try.ntmps5
    go_wp2_with fail
    refine (szValue_no k n t _ _ ht (by omega) (by omega) h).mono ?_
    rintro e w1 ⟨rfl, hb1⟩
    go_wp2
    go_ret
    exact ⟨rfl, nx_trans (nx_alloc _ _) hb1⟩
  · go_enter Try.func5, Try.ntmps5
    go_wp2_with fail
    refine (szValue_yes k n t _ _ (by omega) (by omega)).mono ?_
    rintro e w1 ⟨rfl, hb1⟩
    obtain ⟨hc1, hf1⟩ := bcell hb1
    have hz1 : w.heap.size < w1.heap.size := by have := hb1.size; simp at this; omega
    go_wp2_with fail
    refine (toValue_any k n t _).mono ?_
    rintro e w2 ⟨rfl, hb2⟩
    obtain ⟨hc2, hf2⟩ := bcell hb2
    have hz2 : w.heap.size < w2.heap.size := by have := hb2.size; omega
    go_wp2_with fail
    refine (specValueOK_any k n t _ ht).mono ?_
    rintro e w3 ⟨rfl, hb3⟩
    obtain ⟨hc3, hf3⟩ := bcell hb3
    have hz3 : w.heap.size < w3.heap.size := by have := hb3.size; omega
    go_wp2_with fail
    refine (toValue_any k n t _).mono ?_
    rintro e w4 ⟨rfl, hb4⟩
    obtain ⟨hc4, hf4⟩ := bcell hb4
    have hz4 : w.heap.size < w4.heap.size := by have := hb4.size; omega
    go_wp2_with fail
    refine (ValueOK_any k n t _ ht).mono ?_
    rintro e w5 ⟨rfl, hb5⟩
    go_wp2
    go_ret
    exact ⟨rfl, nx_trans (nx_trans (nx_trans (nx_trans (nx_trans (nx_alloc _ _) hb1) hb2) hb3) hb4) hb5⟩

end Go.Proofs.Ytpncohkbdaoceaa
