/- 'OpenConn': both sides, and the law. -/
import Derived.Test.YtieojlgnbcibdaaConnW2
namespace Go.Proofs.Ytieojlgnbcibdaa
open Go.RowKit Go.Joins
set_option linter.unusedVariables false

def CN.start : CN := ⟨true, false, ⟨#[]⟩, [], 0⟩
theorem RowSl.none (w : World) : RowSl w (.slice none 0 0) [] := .inl ⟨rfl, rfl⟩

set_option maxHeartbeats 1000000 in
theorem implOpen_any (w : World) : Calls Try.prog 5 #[] w fun e w' => e = .returned (cnV CN.start (.slice none 0 0)) ∧ Below w.heap.size w w' := by
  go_enter Try.func5, Try.ntmps5
  go_wp2
  refine bodyPost_ret (v := cnV CN.start (.slice none 0 0)) (by simp [results, Try.results5, go_sem, cnV, CN.start]) rfl ⟨rfl, qx_alloc _ _⟩

set_option maxHeartbeats 1000000 in
theorem specOpen_any (w : World) : Calls Try.prog 4 #[] w fun e w' => ∃ v, e = .returned (cnV CN.start v) ∧ SlBuf w' w.heap.size v [] ∧ Below w.heap.size w w' := by
  go_enter Try.func4, Try.ntmps4
  go_wp2
  refine bodyPost_ret (v := cnV CN.start (.slice (some ⟨w.heap.size + 1, 0, none⟩) 0 0)) (by simp [results, Try.results4, go_sem, cnV, CN.start]) rfl ⟨_, rfl, ?_, qx_al (qx_alloc _ _)⟩
  have := SlBuf.lit0 (w.alloc (.cells #[.bool true, .bool false, .string ⟨#[]⟩, .slice (some ⟨w.heap.size + 1, 0, none⟩) 0 0, .int .i64 0] 24)) w.heap.size (by simp)
  simpa using this

set_option maxHeartbeats 4000000 in
theorem lawOpen_any (w : World) : Calls Try.prog 3 #[] w fun e w' => e = .returned (.bool true) ∧ Below w.heap.size w w' := by
  go_enter Try.func3, Try.ntmps3
  go_wp2_with fail
  refine (specOpen_any _).mono ?_
  rintro e w1 ⟨v, rfl, hv, hb1⟩
  have hv1 := hide hv
  obtain ⟨p, cap, rfl⟩ := hv.slice
  clear hv
  dsimp only [cnV, CN.start, List.length_nil]
  go_wp2_with fail
  refine (implOpen_any _).mono ?_
  rintro e w2 ⟨rfl, hb2⟩
  obtain ⟨hc2, hf2⟩ := qcell hb2
  have hz2 := hb2.size
  simp at hz2
  have d1 : w1.heap.size < w2.heap.size := by omega
  dsimp only [cnV, CN.start]
  go_wp2_with fail
  refine (eqConn_same CN.start (.slice none 0 0) (.slice p 0 cap) _ (by simp [CN.start]) (RowSl.none _) (((unhide hv1).row.later (qx_alloc _ _)).later hb2 |>.later (qx_alloc _ _))).mono ?_
  rintro e w3 ⟨rfl, hb3⟩
  obtain ⟨hc3, hf3⟩ := qcell hb3
  have hz3 := hb3.size
  simp at hz3
  have d2 : w1.heap.size < w3.heap.size := by omega
  have d3 : w2.heap.size < w3.heap.size := by omega
  go_wp2_with fail
  refine (markConn_any w3.heap.size CN.start (.slice none 0 0) w3 (SlBuf.nil _ _) (Nat.le_refl _) (by simp [CN.start])).mono ?_
  rintro e w4 ⟨rfl, hn4, hb4⟩
  obtain ⟨hc4, hf4⟩ := qcell hb4
  have hz4 := hb4.size
  have d4 : w1.heap.size < w4.heap.size := by omega
  have d5 : w2.heap.size < w4.heap.size := by omega
  clear hn4
  dsimp only [CN.start, List.length_nil]
  go_wp2_with fail
  refine (heldConn_any w4.heap.size CN.start 0 (.slice none 0 0) w4 (SlBuf.nil _ _) (by omega)).mono ?_
  rintro e w5 ⟨rfl, hb5⟩
  obtain ⟨hc5, hf5⟩ := qcell hb5
  have hz5 := hb5.size
  have d6 : w1.heap.size < w5.heap.size := by omega
  have d7 : w2.heap.size < w5.heap.size := by omega
  go_wp2_with fail
  refine (implOpen_any _).mono ?_
  rintro e w6 ⟨rfl, hb6⟩
  obtain ⟨hc6, hf6⟩ := qcell hb6
  have hz6 := hb6.size
  have d8 : w1.heap.size < w6.heap.size := by omega
  have d9 : w2.heap.size < w6.heap.size := by omega
  dsimp only [cnV, CN.start]
  go_wp2_with fail
  refine (eqConn_same CN.start (.slice none 0 0) (.slice p 0 cap) _ (by simp [CN.start]) (RowSl.none _) ((((((((unhide hv1).row.later (qx_alloc _ _)).later hb2).later (qx_alloc _ _)).later hb3).later hb4).later hb5).later hb6 |>.later (qx_alloc _ _))).mono ?_
  rintro e w7 ⟨rfl, hb7⟩
  obtain ⟨hc7, hf7⟩ := qcell hb7
  have hz7 := hb7.size
  simp at hz7
  have d10 : w1.heap.size < w7.heap.size := by omega
  have d11 : w2.heap.size < w7.heap.size := by omega
  go_wp2_with fail
  refine (heldConn_any w7.heap.size CN.start 0 (.slice none 0 0) w7 (SlBuf.nil _ _) (by omega)).mono ?_
  rintro e w8 ⟨rfl, hb8⟩
  go_wp2
  go_ret
  exact ⟨rfl, qx_trans (qx_trans (qx_al (qx_trans (qx_trans (qx_trans (qx_trans (qx_al (qx_trans (qx_al hb1) hb2)) hb3) hb4) hb5) hb6)) hb7) hb8⟩

end Go.Proofs.Ytieojlgnbcibdaa
