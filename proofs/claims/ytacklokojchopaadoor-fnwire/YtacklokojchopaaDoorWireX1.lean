/- Requests read: both sides and the law; lines of a name: both sides and the law. -/
import Derived.Test.YtacklokojchopaaDoorWireW9
namespace Go.Proofs.YtacklokojchopaaDoor
open Go.RowKit Go.Shelf Go.Joins
set_option linter.unusedVariables false

set_option maxHeartbeats 1000000 in
theorem ReadRequest_any (s : ByteArray) (w : World) (hs : s.size ≤ maxLen) (hm : MaxL w) :
    Calls Tryd.prog 10 #[.string s] w fun e w' => e = .returned (rrV (reqR s)) ∧ Below w.heap.size w w' := by
  have HM := hide hm
  clear hm
  go_enter Tryd.func10, Tryd.ntmps10
  go_wp2_with fail
  refine (readHead_any s _ hs ((unhide HM).al _)).mono ?_
  rintro e w1 ⟨hb1, v, rfl, _⟩
  obtain ⟨hc1, hf1⟩ := qcell hb1
  have hz1 : w.heap.size < w1.heap.size := by have := hb1.size; simp at this; omega
  have hne : w.heap.size ≠ w1.heap.size := by omega
  obtain ⟨R, hR⟩ : ∃ R, reqR s = R := ⟨_, rfl⟩
  rw [hR]
  have HR := hide hR
  clear hR
  obtain ⟨p, c, n, e⟩ := R
  go_wp2
  exact bodyPost_ret (v := rrV ⟨p, c, n, e⟩) (by simp [results, Tryd.results10, go_sem, rrV, hc1, hz1]) rfl ⟨by rw [unhide HR], (by repeat (first | exact Below.refl _ _ | refine qx_al ?_ | refine qx_set ?_ (by first | exact Nat.le_refl _ | omega | (simp <;> omega)) | refine qx_drew ?_ | refine qx_trans ?_ (by assumption)))⟩

set_option maxHeartbeats 1000000 in
theorem specReadRequest_any (s : ByteArray) (w : World) (hs : s.size ≤ maxLen) :
    Calls Tryd.prog 19 #[.string s] w fun e w' => e = .returned (rrV (reqR s)) ∧ Below w.heap.size w w' := by
  by_cases h0 : 65536 < s.size
  · have HR := hide (reqR_long h0)
    go_enter Tryd.func19, Tryd.ntmps19
    go_wp2
    exact bodyPost_ret (v := rrV (RR.bad 2)) (by simp [results, Tryd.results19, go_sem, rrV, RR.bad]) rfl ⟨by rw [unhide HR], qx_alloc _ _⟩
  · have H1 := hide fun w => l08Read_any s w (by omega)
    generalize reqR s = R at H1
    obtain ⟨p, c, n, e⟩ := R
    go_enter Tryd.func19, Tryd.ntmps19
    go_wp2_with fail
    refine (unhide H1 _).mono ?_
    rintro e1 w1 ⟨rfl, hb1⟩
    obtain ⟨hc1, hf1⟩ := qcell hb1
    have hz1 : w.heap.size < w1.heap.size := by have := hb1.size; simp at this; omega
    simp only [rrV]
    go_wp2
    exact bodyPost_ret (v := rrV ⟨p, c, n, e⟩) (by simp [results, Tryd.results19, go_sem, rrV, hc1]) rfl ⟨rfl, (by repeat (first | exact Below.refl _ _ | refine qx_al ?_ | refine qx_set ?_ (by first | exact Nat.le_refl _ | omega | (simp <;> omega)) | refine qx_drew ?_ | refine qx_trans ?_ (by assumption)))⟩

theorem eqRequest_same (p : ByteArray) (c : Bool) (w : World) :
    Calls Tryd.prog 20 #[.agg #[.string p, .bool c], .agg #[.string p, .bool c]] w fun e w' => e = .returned (.bool true) ∧ Below w.heap.size w w' := by
  have q1 := qa_nself p
  have q2 := ql_nself p
  have q3 : (c != c) = false := by cases c <;> rfl
  go_enter Tryd.func20, Tryd.ntmps20
  go_wp2
  go_ret
  exact ⟨rfl, qx_al (qx_alloc _ _)⟩

set_option maxHeartbeats 2000000 in
theorem lawReadRequest_any (s : ByteArray) (w : World) (hs : s.size ≤ maxLen) (hm : MaxL w) :
    Calls Tryd.prog 4 #[.string s] w fun e w' => e = .returned (.bool true) ∧ Below w.heap.size w w' := by
  have hs' := hs
  unfold maxLen at hs'
  have HM := hide hm
  clear hm
  by_cases h : 1048576 < s.size
  · go_enter Tryd.func4, Tryd.ntmps4
    go_wp2
    go_ret
    exact ⟨rfl, Below.refl _ _⟩
  · have H1 := hide fun w => specReadRequest_any s w hs
    have H2 := hide fun w => ReadRequest_any s w hs
    generalize reqR s = R at H1 H2
    obtain ⟨p, c, n, e⟩ := R
    have HE := hide fun w => eqRequest_same p c w
    go_enter Tryd.func4, Tryd.ntmps4
    go_wp2_with fail
    refine (unhide H1 _).mono ?_
    rintro e1 w1 ⟨rfl, hb1⟩
    simp only [rrV]
    go_wp2_with fail
    refine (unhide H2 _ (((unhide HM).later hb1).al _)).mono ?_
    rintro e2 w2 ⟨rfl, hb2⟩
    simp only [rrV]
    obtain ⟨hc2, hf2⟩ := qcell hb2
    have hz2 : w1.heap.size < w2.heap.size := by have := hb2.size; simp at this; omega
    have hne : w1.heap.size ≠ w2.heap.size := by omega
    go_wp2_with fail
    refine (unhide HE _).mono ?_
    rintro e3 w3 ⟨rfl, hb3⟩
    go_wp2
    go_ret
    exact ⟨rfl, (by repeat (first | exact Below.refl _ _ | assumption | refine qx_al ?_ | refine qx_drew ?_ | refine qx_trans ?_ (by assumption)))⟩

end Go.Proofs.YtacklokojchopaaDoor
