/- The helpers of the exact laws on values, truths of values, and the laws on ValueOK, Truth. -/
import Derived.Test.YtckdacbopejdmaaValueWalk
namespace Go.Proofs.Ytckdacbopejdmaa
open Go.RowKit

/-- a value as the machine holds it -/
abbrev valV (k n : Int) (t : ByteArray) : Value := .agg #[.int .i64 k, .int .i64 n, .string t]

set_option maxHeartbeats 400000 in
theorem eqValue_same (k n : Int) (t : ByteArray) (w : World) :
    Calls Try.prog 7 #[.agg #[.int .i64 k, .int .i64 n, .string t], .agg #[.int .i64 k, .int .i64 n, .string t]] w fun e w' => e = .returned (.bool true) ∧ Below w.heap.size w w' := by
  go_enter Try.func7, Try.ntmps7
  go_wp2
  go_ret
  exact ⟨rfl, nx_trans (nx_alloc _ _) (nx_alloc _ _)⟩

end Go.Proofs.Ytckdacbopejdmaa
