/- 'OpenConn': both sides, and the law. -/
import Derived.Test.YthfoabcmgiiadaaGreatDoorConnW2
namespace Go.Proofs.YthfoabcmgiiadaaGreatDoor
open Go.RowKit Go.Joins
set_option linter.unusedVariables false

def CN.start : CN := ⟨true, false, ⟨#[]⟩, [], 0⟩
theorem RowSl.none (w : World) : RowSl w (.slice none 0 0) [] := .inl ⟨rfl, rfl⟩

set_option maxHeartbeats 1000000 in
theorem implOpen_any (w : World) : Calls Tryz.prog 6 #[] w fun e w' => e = .returned (cnV CN.start (.slice none 0 0)) ∧ Below w.heap.size w w' := by
  go_enter Tryz.func6, Tryz.ntmps6
  go_wp2
  refine bodyPost_ret (v := cnV CN.start (.slice none 0 0)) (by simp [results, Tryz.results6, go_sem, cnV, CN.start]) rfl ⟨rfl, qx_alloc _ _⟩

set_option maxHeartbeats 1000000 in
theorem specOpen_any (w : World) : Calls Tryz.prog 58 #[] w fun e w' => ∃ v, e = .returned (cnV CN.start v) ∧ SlBuf w' w.heap.size v [] ∧ Below w.heap.size w w' := by
  go_enter Tryz.func58, Tryz.ntmps58
  go_wp2
  refine bodyPost_ret (v := cnV CN.start (.slice (some ⟨w.heap.size + 1, 0, none⟩) 0 0)) (by simp [results, Tryz.results58, go_sem, cnV, CN.start]) rfl ⟨_, rfl, ?_, qx_al (qx_alloc _ _)⟩
  have := SlBuf.lit0 (w.alloc (.cells #[.bool true, .bool false, .string ⟨#[]⟩, .slice (some ⟨w.heap.size + 1, 0, none⟩) 0 0, .int .i64 0] 25)) w.heap.size (by simp)
  simpa using this


end Go.Proofs.YthfoabcmgiiadaaGreatDoor
