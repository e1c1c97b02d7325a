/- 'OpenConn': both sides, and the law. -/
import Derived.Test.YteliakbopldceaaGreatDoorConnW2
namespace Go.Proofs.YteliakbopldceaaGreatDoor
open Go.RowKit Go.Joins
set_option linter.unusedVariables false

def CN.start : CN := ⟨true, false, ⟨#[]⟩, [], 0⟩
theorem RowSl.none (w : World) : RowSl w (.slice none 0 0) [] := .inl ⟨rfl, rfl⟩

set_option maxHeartbeats 1000000 in
theorem implOpen_any (w : World) : Calls Tryz.prog 7 #[] w fun e w' => e = .returned (cnV CN.start (.slice none 0 0)) ∧ Below w.heap.size w w' := by
  go_enter Tryz.func7, Tryz.ntmps7
  go_wp2
  refine bodyPost_ret (v := cnV CN.start (.slice none 0 0)) (by simp [results, Tryz.results7, go_sem, cnV, CN.start]) rfl ⟨rfl, qx_alloc _ _⟩



end Go.Proofs.YteliakbopldceaaGreatDoor
