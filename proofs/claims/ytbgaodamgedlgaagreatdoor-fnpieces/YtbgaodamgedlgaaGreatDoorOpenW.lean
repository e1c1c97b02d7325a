/- 'OpenConn': both sides, and the law. -/
import Derived.Test.YtbgaodamgedlgaaGreatDoorConnW2
namespace Go.Proofs.YtbgaodamgedlgaaGreatDoor
open Go.RowKit Go.Joins
set_option linter.unusedVariables false

def CN.start : CN := ⟨true, false, ⟨#[]⟩, [], 0⟩
theorem RowSl.none (w : World) : RowSl w (.slice none 0 0) [] := .inl ⟨rfl, rfl⟩

set_option maxHeartbeats 1000000 in
theorem implOpen_any (w : World) : Calls Tryz.prog 5 #[] w fun e w' => e = .returned (cnV CN.start (.slice none 0 0)) ∧ Below w.heap.size w w' := by
  go_enter Tryz.func5, Tryz.ntmps5
  go_wp2
  refine bodyPost_ret (v := cnV CN.start (.slice none 0 0)) (by simp [results, Tryz.results5, go_sem, cnV, CN.start]) rfl ⟨rfl, qx_alloc _ _⟩

set_option maxHeartbeats 1000000 in
theorem specOpen_any (w : World) : Calls Tryz.prog 57 #[] w fun e w' => ∃ v, e = .returned (cnV CN.start v) ∧ SlBuf w' w.heap.size v [] ∧ Below w.heap.size w w' := by
  go_enter Tryz.func57, Tryz.ntmps57
  go_wp2
  refine bodyPost_ret (v := cnV CN.start (.slice (some ⟨w.heap.size + 1, 0, none⟩) 0 0)) (by simp [results, Tryz.results57, go_sem, cnV, CN.start]) rfl ⟨_, rfl, ?_, qx_al (qx_alloc _ _)⟩
  have := SlBuf.lit0 (w.alloc (.cells #[.bool true, .bool false, .string ⟨#[]⟩, .slice (some ⟨w.heap.size + 1, 0, none⟩) 0 0, .int .i64 0] 25)) w.heap.size (by simp)
  simpa using this


end Go.Proofs.YtbgaodamgedlgaaGreatDoor
