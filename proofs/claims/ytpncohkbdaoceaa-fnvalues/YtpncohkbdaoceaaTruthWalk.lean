/- The truth of a value: code and specification answer alike. -/
import Derived.Test.YtpncohkbdaoceaaUnaryWalk
namespace Go.Proofs.Ytpncohkbdaoceaa
open Go.RowKit

set_option maxHeartbeats 400000 in
theorem Truth_bad (k n : Int) (t : ByteArray) (w : World) (ht : t.size ≤ maxLen) (hv : vokB k n t = false) :
    Calls Try.prog 18 #[.agg #[.int .i64 k, .int .i64 n, .string t]] w fun e w' => e = .returned (.tuple #[.bool false, .int .i64 1]) ∧ Below w.heap.size w w' := by
  go_enter Try.func18, Try.ntmps18
  go_wp2_with fail
  refine (ValueOK_any k n t _ ht).mono ?_
  rintro e w1 ⟨rfl, hb1⟩
  obtain ⟨hc1, hf1⟩ := bcell hb1
  have hz1_0 : w.heap.size < w1.heap.size := by have := hb1.size; first | omega | (simp at this; omega)
  go_wp2
  go_ret2
  exact ⟨rfl, (by repeat (first | exact Below.refl _ _ | refine nx_al ?_ | refine nx_set ?_ (by simp <;> omega) | refine nx_drew ?_ | refine nx_trans ?_ (by assumption)))⟩

set_option maxHeartbeats 400000 in
theorem Truth_ok (k n : Int) (t : ByteArray) (w : World) (ht : t.size ≤ maxLen) (hv : vokB k n t = true) :
    Calls Try.prog 18 #[.agg #[.int .i64 k, .int .i64 n, .string t]] w fun e w' => e = .returned (.tuple #[.bool (truthB n t), .int .i64 0]) ∧ Below w.heap.size w w' := by
  go_enter Try.func18, Try.ntmps18
  go_wp2_with fail
  refine (ValueOK_any k n t _ ht).mono ?_
  rintro e w1 ⟨rfl, hb1⟩
  obtain ⟨hc1, hf1⟩ := bcell hb1
  have hz1_0 : w.heap.size < w1.heap.size := by have := hb1.size; first | omega | (simp at this; omega)
  go_wp2_with fail
  refine (isTrue_any k n t _).mono ?_
  rintro e w2 ⟨rfl, hb2⟩
  obtain ⟨hc2, hf2⟩ := bcell hb2
  have hz2_0 : w.heap.size < w2.heap.size := by have := hb2.size; first | omega | (simp at this; omega)
  go_wp2
  go_ret2
  exact ⟨rfl, (by repeat (first | exact Below.refl _ _ | refine nx_al ?_ | refine nx_set ?_ (by simp <;> omega) | refine nx_drew ?_ | refine nx_trans ?_ (by assumption)))⟩

theorem Truth_any (k n : Int) (t : ByteArray) (w : World) (ht : t.size ≤ maxLen) :
    Calls Try.prog 18 #[.agg #[.int .i64 k, .int .i64 n, .string t]] w fun e w' => e = .returned (.tuple #[.bool (vokB k n t && truthB n t), .int .i64 (bitI (!vokB k n t))]) ∧ Below w.heap.size w w' := by
  cases hv : vokB k n t
  · exact Truth_bad k n t w ht hv
  · exact Truth_ok k n t w ht hv

set_option maxHeartbeats 400000 in
theorem specTruth_bad (k n : Int) (t : ByteArray) (w : World) (ht : t.size ≤ maxLen) (hv : vokB k n t = false) :
    Calls Try.prog 19 #[.agg #[.int .i64 k, .int .i64 n, .string t]] w fun e w' => e = .returned (.tuple #[.bool false, .int .i64 1]) ∧ Below w.heap.size w w' := by
  go_enter Try.func19, Try.ntmps19
  go_wp2_with fail
  refine (specValueOK_any k n t _ ht).mono ?_
  rintro e w1 ⟨rfl, hb1⟩
  obtain ⟨hc1, hf1⟩ := bcell hb1
  have hz1_0 : w.heap.size < w1.heap.size := by have := hb1.size; first | omega | (simp at this; omega)
  go_wp2
  go_ret2
  exact ⟨rfl, (by repeat (first | exact Below.refl _ _ | refine nx_al ?_ | refine nx_set ?_ (by simp <;> omega) | refine nx_drew ?_ | refine nx_trans ?_ (by assumption)))⟩

set_option maxHeartbeats 400000 in
theorem specTruth_ok (k n : Int) (t : ByteArray) (w : World) (ht : t.size ≤ maxLen) (hv : vokB k n t = true) :
    Calls Try.prog 19 #[.agg #[.int .i64 k, .int .i64 n, .string t]] w fun e w' => e = .returned (.tuple #[.bool (truthB n t), .int .i64 0]) ∧ Below w.heap.size w w' := by
  go_enter Try.func19, Try.ntmps19
  go_wp2_with fail
  refine (specValueOK_any k n t _ ht).mono ?_
  rintro e w1 ⟨rfl, hb1⟩
  obtain ⟨hc1, hf1⟩ := bcell hb1
  have hz1_0 : w.heap.size < w1.heap.size := by have := hb1.size; first | omega | (simp at this; omega)
  go_wp2_with fail
  refine (l01Truth_any k n t _).mono ?_
  rintro e w2 ⟨rfl, hb2⟩
  obtain ⟨hc2, hf2⟩ := bcell hb2
  have hz2_0 : w.heap.size < w2.heap.size := by have := hb2.size; first | omega | (simp at this; omega)
  go_wp2
  go_ret2
  exact ⟨rfl, (by repeat (first | exact Below.refl _ _ | refine nx_al ?_ | refine nx_set ?_ (by simp <;> omega) | refine nx_drew ?_ | refine nx_trans ?_ (by assumption)))⟩

theorem specTruth_any (k n : Int) (t : ByteArray) (w : World) (ht : t.size ≤ maxLen) :
    Calls Try.prog 19 #[.agg #[.int .i64 k, .int .i64 n, .string t]] w fun e w' => e = .returned (.tuple #[.bool (vokB k n t && truthB n t), .int .i64 (bitI (!vokB k n t))]) ∧ Below w.heap.size w w' := by
  cases hv : vokB k n t
  · exact specTruth_bad k n t w ht hv
  · exact specTruth_ok k n t w ht hv

set_option maxHeartbeats 1000000 in
theorem lawTruth_any (k n : Int) (t : ByteArray) (w : World) (_hk : (Lit.int .i64 k).wf = true) (_hn : (Lit.int .i64 n).wf = true) (ht : t.size ≤ maxLen) :
    Calls Try.prog 6 #[.agg #[.int .i64 k, .int .i64 n, .string t]] w fun e w' => e = .returned (.bool true) ∧ Below w.heap.size w w' := by
  by_cases h' : (1048576 : Int) < (t.size : Int)
  · go_enter Try.func6, Try.ntmps6
    go_wp2_with fail
    refine (szValue_no k n t _ _ ht (by omega) (by omega) h').mono ?_
    rintro e w1 ⟨rfl, hb1⟩
    go_wp2
    go_ret
    exact ⟨rfl, nx_trans (nx_alloc _ _) hb1⟩
  have hS := fun w => specTruth_any k n t w ht
  have hI := fun w => Truth_any k n t w ht
  generalize (vokB k n t && truthB n t) = r at hS hI
  generalize bitI (!vokB k n t) = c at hS hI
  have HS := hide hS
  have HI := hide hI
  clear hS hI
  go_enter Try.func6, Try.ntmps6
  go_wp2_with fail
  refine (szValue_yes k n t _ _ (by omega) (by omega)).mono ?_
  rintro e w1 ⟨rfl, hb1⟩
  obtain ⟨hc1, hf1⟩ := bcell hb1
  have hz1_0 : w.heap.size < w1.heap.size := by have := hb1.size; first | omega | (simp at this; omega)
  go_wp2_with fail
  refine (toValue_any k n t _).mono ?_
  rintro e w2 ⟨rfl, hb2⟩
  obtain ⟨hc2, hf2⟩ := bcell hb2
  have hz2_0 : w.heap.size < w2.heap.size := by have := hb2.size; first | omega | (simp at this; omega)
  go_wp2_with fail
  refine (unhide HS _).mono ?_
  rintro e w3 ⟨rfl, hb3⟩
  obtain ⟨hc3, hf3⟩ := bcell hb3
  have hz3_0 : w.heap.size < w3.heap.size := by have := hb3.size; first | omega | (simp at this; omega)
  go_wp2_with fail
  refine (toValue_any k n t _).mono ?_
  rintro e w4 ⟨rfl, hb4⟩
  obtain ⟨hc4, hf4⟩ := bcell hb4
  have hz4_0 : w.heap.size < w4.heap.size := by have := hb4.size; first | omega | (simp at this; omega)
  go_wp2_with fail
  refine (unhide HI _).mono ?_
  rintro e w5 ⟨rfl, hb5⟩
  obtain ⟨hc5, hf5⟩ := bcell hb5
  have hz5_0 : w.heap.size < w5.heap.size := by have := hb5.size; first | omega | (simp at this; omega)
  go_wp2
  go_ret
  exact ⟨rfl, (by repeat (first | exact Below.refl _ _ | refine nx_al ?_ | refine nx_set ?_ (by simp <;> omega) | refine nx_drew ?_ | refine nx_trans ?_ (by assumption)))⟩

end Go.Proofs.Ytpncohkbdaoceaa
