/- The helpers of the exact laws on values, truths of values, and the laws on ValueOK, Truth. -/
import Derived.Test.YtcdjdfmpnfodiaaDoorValueWalk
namespace Go.Proofs.YtcdjdfmpnfodiaaDoor
open Go.RowKit

/-- a value as the machine holds it -/
abbrev valV (k n : Int) (t : ByteArray) : Value := .agg #[.int .i64 k, .int .i64 n, .string t]

set_option maxHeartbeats 400000 in
theorem szValue_yes (k n : Int) (t : ByteArray) (left : Int) (w : World) (h0 : left ≤ 1048576) (h : (t.size : Int) ≤ left) :
    Calls Tryd.prog 17 #[.agg #[.int .i64 k, .int .i64 n, .string t], .int .i64 left] w fun e w' => e = .returned (.int .i64 (left - t.size)) ∧ Below w.heap.size w w' := by
  go_enter Tryd.func17, Tryd.ntmps17
  go_wp2
  go_ret
  exact ⟨rfl, nx_alloc _ _⟩

set_option maxHeartbeats 400000 in
theorem szValue_no (k n : Int) (t : ByteArray) (left : Int) (w : World) (ht : t.size ≤ maxLen) (h0 : 0 ≤ left) (h1 : left ≤ 1048576) (h : left < (t.size : Int)) :
    Calls Tryd.prog 17 #[.agg #[.int .i64 k, .int .i64 n, .string t], .int .i64 left] w fun e w' => e = .returned (.int .i64 (-1)) ∧ Below w.heap.size w w' := by
  unfold maxLen at ht
  go_enter Tryd.func17, Tryd.ntmps17
  go_wp2
  go_ret
  exact ⟨rfl, nx_alloc _ _⟩

set_option maxHeartbeats 400000 in
theorem toValue_any (k n : Int) (t : ByteArray) (w : World) :
    Calls Tryd.prog 20 #[.agg #[.int .i64 k, .int .i64 n, .string t]] w fun e w' => e = .returned (.agg #[.int .i64 k, .int .i64 n, .string t]) ∧ Below w.heap.size w w' := by
  go_enter Tryd.func20, Tryd.ntmps20
  go_wp2
  exact bodyPost_ret (v := .agg #[.int .i64 k, .int .i64 n, .string t]) (by simp [results, Tryd.results20, go_sem]) rfl ⟨rfl, nx_trans (nx_trans (nx_alloc _ _) (nx_alloc _ _)) (nx_alloc _ _)⟩

set_option maxHeartbeats 400000 in
theorem eqValue_same (k n : Int) (t : ByteArray) (w : World) :
    Calls Tryd.prog 24 #[.agg #[.int .i64 k, .int .i64 n, .string t], .agg #[.int .i64 k, .int .i64 n, .string t]] w fun e w' => e = .returned (.bool true) ∧ Below w.heap.size w w' := by
  go_enter Tryd.func24, Tryd.ntmps24
  go_wp2
  go_ret
  exact ⟨rfl, nx_trans (nx_alloc _ _) (nx_alloc _ _)⟩


end Go.Proofs.YtcdjdfmpnfodiaaDoor
