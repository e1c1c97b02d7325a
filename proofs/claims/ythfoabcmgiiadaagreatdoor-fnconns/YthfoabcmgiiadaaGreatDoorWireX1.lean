/- Requests read: both sides and the law; lines of a name: both sides and the law. -/
import Derived.Test.YthfoabcmgiiadaaGreatDoorWireW9
namespace Go.Proofs.YthfoabcmgiiadaaGreatDoor
open Go.RowKit Go.Shelf Go.Joins
set_option linter.unusedVariables false

set_option maxHeartbeats 1000000 in
theorem ReadRequest_any (s : ByteArray) (w : World) (hs : s.size ≤ maxLen) (hm : MaxL w) :
    Calls Tryz.prog 47 #[.string s] w fun e w' => e = .returned (rrV (reqR s)) ∧ Below w.heap.size w w' := by
  have HM := hide hm
  clear hm
  go_enter Tryz.func47, Tryz.ntmps47
  go_wp2_with fail
  refine (readHead_any s _ hs ((unhide HM).al _)).mono ?_
  rintro e w1 ⟨hb1, v, rfl, _⟩
  obtain ⟨hc1, hf1⟩ := qcell hb1
  have hz1 : w.heap.size < w1.heap.size := by have := hb1.size; simp at this; omega
  have hne : w.heap.size ≠ w1.heap.size := by omega
  obtain ⟨R, hR⟩ : ∃ R, reqR s = R := ⟨_, rfl⟩
  rw [hR]
  have HR := hide hR
  clear hR
  obtain ⟨p, c, n, e⟩ := R
  go_wp2
  exact bodyPost_ret (v := rrV ⟨p, c, n, e⟩) (by simp [results, Tryz.results47, go_sem, rrV, hc1, hz1]) rfl ⟨by rw [unhide HR], (by repeat (first | exact Below.refl _ _ | refine qx_al ?_ | refine qx_set ?_ (by first | exact Nat.le_refl _ | omega | (simp <;> omega)) | refine qx_drew ?_ | refine qx_trans ?_ (by assumption)))⟩




end Go.Proofs.YthfoabcmgiiadaaGreatDoor
