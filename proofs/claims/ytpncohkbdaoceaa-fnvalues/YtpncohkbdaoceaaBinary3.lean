/- 'spec.l01Binary', case by case. -/
import Derived.Test.YtpncohkbdaoceaaBinary1
namespace Go.Proofs.Ytpncohkbdaoceaa
open Go.RowKit
set_option linter.unusedVariables false

set_option maxHeartbeats 400000 in
theorem l01Binary_eq_yes (op : ByteArray) (ka na : Int) (ta : ByteArray) (w : World) (h : op.toList = [61, 61])  :
    Calls Try.prog 43 #[.string op, .agg #[.int .i64 ka, .int .i64 na, .string ta], .agg #[.int .i64 ka, .int .i64 na, .string ta]] w fun e w' => e = .returned (.tuple #[.agg #[.int .i64 2, .int .i64 (bitI true), .string ⟨#[]⟩], .int .i64 0]) ∧ Below w.heap.size w w' := by
  go_enter Try.func43, Try.ntmps43
  go_wp2_with fail
  refine (l01Bool_any _ _).mono ?_
  rintro e w1 ⟨rfl, hb1⟩
  obtain ⟨hc1, hf1⟩ := bcell hb1
  have hz1_0 : w.heap.size < w1.heap.size := by have := hb1.size; first | omega | (simp at this; omega)
  have hz1_1 : w.heap.size + 1 < w1.heap.size := by have := hb1.size; first | omega | (simp at this; omega)
  have hz1_2 : w.heap.size + 2 < w1.heap.size := by have := hb1.size; first | omega | (simp at this; omega)
  go_wp2
  exact bodyPost_ret (v := (.tuple #[.agg #[.int .i64 2, .int .i64 (bitI true), .string ⟨#[]⟩], .int .i64 0])) (by simp [results, Try.results43, go_sem, *]) rfl ⟨rfl, (by repeat (first | exact Below.refl _ _ | refine nx_al ?_ | refine nx_set ?_ (by first | omega | (simp <;> omega)) | refine nx_drew ?_ | refine nx_trans ?_ (by assumption)))⟩

set_option maxHeartbeats 400000 in
theorem l01Binary_eq_no0 (op : ByteArray) (ka na : Int) (ta : ByteArray) (kb nb : Int) (tb : ByteArray) (w : World) (h : op.toList = [61, 61]) (hne : (ka == kb) = false) :
    Calls Try.prog 43 #[.string op, .agg #[.int .i64 ka, .int .i64 na, .string ta], .agg #[.int .i64 kb, .int .i64 nb, .string tb]] w fun e w' => e = .returned (.tuple #[.agg #[.int .i64 2, .int .i64 (bitI false), .string ⟨#[]⟩], .int .i64 0]) ∧ Below w.heap.size w w' := by
  go_enter Try.func43, Try.ntmps43
  go_wp2_with fail
  refine (l01Bool_any _ _).mono ?_
  rintro e w1 ⟨rfl, hb1⟩
  obtain ⟨hc1, hf1⟩ := bcell hb1
  have hz1_0 : w.heap.size < w1.heap.size := by have := hb1.size; first | omega | (simp at this; omega)
  have hz1_1 : w.heap.size + 1 < w1.heap.size := by have := hb1.size; first | omega | (simp at this; omega)
  have hz1_2 : w.heap.size + 2 < w1.heap.size := by have := hb1.size; first | omega | (simp at this; omega)
  go_wp2
  exact bodyPost_ret (v := (.tuple #[.agg #[.int .i64 2, .int .i64 (bitI false), .string ⟨#[]⟩], .int .i64 0])) (by simp [results, Try.results43, go_sem, *]) rfl ⟨rfl, (by repeat (first | exact Below.refl _ _ | refine nx_al ?_ | refine nx_set ?_ (by first | omega | (simp <;> omega)) | refine nx_drew ?_ | refine nx_trans ?_ (by assumption)))⟩

set_option maxHeartbeats 400000 in
theorem l01Binary_eq_no1 (op : ByteArray) (ka na : Int) (ta : ByteArray) (kb nb : Int) (tb : ByteArray) (w : World) (h : op.toList = [61, 61]) (hna : ka = kb) (hne : (na == nb) = false) :
    Calls Try.prog 43 #[.string op, .agg #[.int .i64 ka, .int .i64 na, .string ta], .agg #[.int .i64 kb, .int .i64 nb, .string tb]] w fun e w' => e = .returned (.tuple #[.agg #[.int .i64 2, .int .i64 (bitI false), .string ⟨#[]⟩], .int .i64 0]) ∧ Below w.heap.size w w' := by
  subst hna
  go_enter Try.func43, Try.ntmps43
  go_wp2_with fail
  refine (l01Bool_any _ _).mono ?_
  rintro e w1 ⟨rfl, hb1⟩
  obtain ⟨hc1, hf1⟩ := bcell hb1
  have hz1_0 : w.heap.size < w1.heap.size := by have := hb1.size; first | omega | (simp at this; omega)
  have hz1_1 : w.heap.size + 1 < w1.heap.size := by have := hb1.size; first | omega | (simp at this; omega)
  have hz1_2 : w.heap.size + 2 < w1.heap.size := by have := hb1.size; first | omega | (simp at this; omega)
  go_wp2
  exact bodyPost_ret (v := (.tuple #[.agg #[.int .i64 2, .int .i64 (bitI false), .string ⟨#[]⟩], .int .i64 0])) (by simp [results, Try.results43, go_sem, *]) rfl ⟨rfl, (by repeat (first | exact Below.refl _ _ | refine nx_al ?_ | refine nx_set ?_ (by first | omega | (simp <;> omega)) | refine nx_drew ?_ | refine nx_trans ?_ (by assumption)))⟩

set_option maxHeartbeats 400000 in
theorem l01Binary_eq_no2 (op : ByteArray) (ka na : Int) (ta : ByteArray) (kb nb : Int) (tb : ByteArray) (w : World) (h : op.toList = [61, 61]) (hna : ka = kb) (hnb : na = nb) (hne : (ta.toList == tb.toList) = false) :
    Calls Try.prog 43 #[.string op, .agg #[.int .i64 ka, .int .i64 na, .string ta], .agg #[.int .i64 kb, .int .i64 nb, .string tb]] w fun e w' => e = .returned (.tuple #[.agg #[.int .i64 2, .int .i64 (bitI false), .string ⟨#[]⟩], .int .i64 0]) ∧ Below w.heap.size w w' := by
  subst hna
  subst hnb
  go_enter Try.func43, Try.ntmps43
  go_wp2_with fail
  refine (l01Bool_any _ _).mono ?_
  rintro e w1 ⟨rfl, hb1⟩
  obtain ⟨hc1, hf1⟩ := bcell hb1
  have hz1_0 : w.heap.size < w1.heap.size := by have := hb1.size; first | omega | (simp at this; omega)
  have hz1_1 : w.heap.size + 1 < w1.heap.size := by have := hb1.size; first | omega | (simp at this; omega)
  have hz1_2 : w.heap.size + 2 < w1.heap.size := by have := hb1.size; first | omega | (simp at this; omega)
  go_wp2
  exact bodyPost_ret (v := (.tuple #[.agg #[.int .i64 2, .int .i64 (bitI false), .string ⟨#[]⟩], .int .i64 0])) (by simp [results, Try.results43, go_sem, *]) rfl ⟨rfl, (by repeat (first | exact Below.refl _ _ | refine nx_al ?_ | refine nx_set ?_ (by first | omega | (simp <;> omega)) | refine nx_drew ?_ | refine nx_trans ?_ (by assumption)))⟩

set_option maxHeartbeats 400000 in
theorem l01Binary_text_lt (op : ByteArray) (na : Int) (ta : ByteArray) (nb : Int) (tb : ByteArray) (w : World) (h : op.toList = [60]) :
    Calls Try.prog 43 #[.string op, .agg #[.int .i64 3, .int .i64 na, .string ta], .agg #[.int .i64 3, .int .i64 nb, .string tb]] w fun e w' => e = .returned (.tuple #[.agg #[.int .i64 2, .int .i64 (bitI (Op.bytesLess ta.toList tb.toList)), .string ⟨#[]⟩], .int .i64 0]) ∧ Below w.heap.size w w' := by
  go_enter Try.func43, Try.ntmps43
  go_wp2_with fail
  refine (l01Bool_any _ _).mono ?_
  rintro e w1 ⟨rfl, hb1⟩
  obtain ⟨hc1, hf1⟩ := bcell hb1
  have hz1_0 : w.heap.size < w1.heap.size := by have := hb1.size; first | omega | (simp at this; omega)
  have hz1_1 : w.heap.size + 1 < w1.heap.size := by have := hb1.size; first | omega | (simp at this; omega)
  have hz1_2 : w.heap.size + 2 < w1.heap.size := by have := hb1.size; first | omega | (simp at this; omega)
  go_wp2
  exact bodyPost_ret (v := (.tuple #[.agg #[.int .i64 2, .int .i64 (bitI (Op.bytesLess ta.toList tb.toList)), .string ⟨#[]⟩], .int .i64 0])) (by simp [results, Try.results43, go_sem, *]) rfl ⟨rfl, (by repeat (first | exact Below.refl _ _ | refine nx_al ?_ | refine nx_set ?_ (by first | omega | (simp <;> omega)) | refine nx_drew ?_ | refine nx_trans ?_ (by assumption)))⟩

set_option maxHeartbeats 400000 in
theorem l01Binary_text_size (op : ByteArray) (na : Int) (ta : ByteArray) (nb : Int) (tb : ByteArray) (w : World) (h : op.toList = [43]) (ha : ta.size ≤ 60) (hb : tb.size ≤ 60) (hs : 60 < ta.size + tb.size) :
    Calls Try.prog 43 #[.string op, .agg #[.int .i64 3, .int .i64 na, .string ta], .agg #[.int .i64 3, .int .i64 nb, .string tb]] w fun e w' => e = .returned (.tuple #[.agg #[.int .i64 0, .int .i64 0, .string ⟨#[]⟩], .int .i64 10]) ∧ Below w.heap.size w w' := by
  go_enter Try.func43, Try.ntmps43
  go_wp2
  exact bodyPost_ret (v := (.tuple #[.agg #[.int .i64 0, .int .i64 0, .string ⟨#[]⟩], .int .i64 10])) (by simp [results, Try.results43, go_sem]) rfl ⟨rfl, (by repeat (first | exact Below.refl _ _ | refine nx_al ?_ | refine nx_set ?_ (by first | omega | (simp <;> omega)) | refine nx_drew ?_ | refine nx_trans ?_ (by assumption)))⟩

set_option maxHeartbeats 400000 in
theorem l01Binary_text_cat (op : ByteArray) (na : Int) (ta : ByteArray) (nb : Int) (tb : ByteArray) (w : World) (h : op.toList = [43]) (hs : ta.size + tb.size ≤ 60) :
    Calls Try.prog 43 #[.string op, .agg #[.int .i64 3, .int .i64 na, .string ta], .agg #[.int .i64 3, .int .i64 nb, .string tb]] w fun e w' => e = .returned (.tuple #[.agg #[.int .i64 3, .int .i64 0, .string (ta ++ tb)], .int .i64 0]) ∧ Below w.heap.size w w' := by
  go_enter Try.func43, Try.ntmps43
  go_wp2_with fail
  refine (l01Text_any _ _).mono ?_
  rintro e w1 ⟨rfl, hb1⟩
  obtain ⟨hc1, hf1⟩ := bcell hb1
  have hz1_0 : w.heap.size < w1.heap.size := by have := hb1.size; first | omega | (simp at this; omega)
  have hz1_1 : w.heap.size + 1 < w1.heap.size := by have := hb1.size; first | omega | (simp at this; omega)
  have hz1_2 : w.heap.size + 2 < w1.heap.size := by have := hb1.size; first | omega | (simp at this; omega)
  go_wp2
  exact bodyPost_ret (v := (.tuple #[.agg #[.int .i64 3, .int .i64 0, .string (ta ++ tb)], .int .i64 0])) (by simp [results, Try.results43, go_sem, *]) rfl ⟨rfl, (by repeat (first | exact Below.refl _ _ | refine nx_al ?_ | refine nx_set ?_ (by first | omega | (simp <;> omega)) | refine nx_drew ?_ | refine nx_trans ?_ (by assumption)))⟩

set_option maxHeartbeats 400000 in
theorem l01Binary_type_lt_a (op : ByteArray) (ka na : Int) (ta : ByteArray) (kb nb : Int) (tb : ByteArray) (w : World) (h : op.toList = [60]) (hk : (ka == 1) = false) (hk3 : (ka == 3) = false) :
    Calls Try.prog 43 #[.string op, .agg #[.int .i64 ka, .int .i64 na, .string ta], .agg #[.int .i64 kb, .int .i64 nb, .string tb]] w fun e w' => e = .returned (.tuple #[.agg #[.int .i64 0, .int .i64 0, .string ⟨#[]⟩], .int .i64 8]) ∧ Below w.heap.size w w' := by
  go_enter Try.func43, Try.ntmps43
  go_wp2
  exact bodyPost_ret (v := (.tuple #[.agg #[.int .i64 0, .int .i64 0, .string ⟨#[]⟩], .int .i64 8])) (by simp [results, Try.results43, go_sem]) rfl ⟨rfl, (by repeat (first | exact Below.refl _ _ | refine nx_al ?_ | refine nx_set ?_ (by first | omega | (simp <;> omega)) | refine nx_drew ?_ | refine nx_trans ?_ (by assumption)))⟩

set_option maxHeartbeats 400000 in
theorem l01Binary_type_lt_b (op : ByteArray) (na : Int) (ta : ByteArray) (kb nb : Int) (tb : ByteArray) (w : World) (h : op.toList = [60]) (hk3 : (kb == 3) = false) :
    Calls Try.prog 43 #[.string op, .agg #[.int .i64 3, .int .i64 na, .string ta], .agg #[.int .i64 kb, .int .i64 nb, .string tb]] w fun e w' => e = .returned (.tuple #[.agg #[.int .i64 0, .int .i64 0, .string ⟨#[]⟩], .int .i64 8]) ∧ Below w.heap.size w w' := by
  go_enter Try.func43, Try.ntmps43
  go_wp2
  exact bodyPost_ret (v := (.tuple #[.agg #[.int .i64 0, .int .i64 0, .string ⟨#[]⟩], .int .i64 8])) (by simp [results, Try.results43, go_sem]) rfl ⟨rfl, (by repeat (first | exact Below.refl _ _ | refine nx_al ?_ | refine nx_set ?_ (by first | omega | (simp <;> omega)) | refine nx_drew ?_ | refine nx_trans ?_ (by assumption)))⟩

set_option maxHeartbeats 400000 in
theorem l01Binary_type_lt_c (op : ByteArray) (na : Int) (ta : ByteArray) (kb nb : Int) (tb : ByteArray) (w : World) (h : op.toList = [60]) (hk3 : (kb == 1) = false) :
    Calls Try.prog 43 #[.string op, .agg #[.int .i64 1, .int .i64 na, .string ta], .agg #[.int .i64 kb, .int .i64 nb, .string tb]] w fun e w' => e = .returned (.tuple #[.agg #[.int .i64 0, .int .i64 0, .string ⟨#[]⟩], .int .i64 8]) ∧ Below w.heap.size w w' := by
  go_enter Try.func43, Try.ntmps43
  go_wp2
  exact bodyPost_ret (v := (.tuple #[.agg #[.int .i64 0, .int .i64 0, .string ⟨#[]⟩], .int .i64 8])) (by simp [results, Try.results43, go_sem]) rfl ⟨rfl, (by repeat (first | exact Below.refl _ _ | refine nx_al ?_ | refine nx_set ?_ (by first | omega | (simp <;> omega)) | refine nx_drew ?_ | refine nx_trans ?_ (by assumption)))⟩

set_option maxHeartbeats 400000 in
theorem l01Binary_type_add_a (op : ByteArray) (ka na : Int) (ta : ByteArray) (kb nb : Int) (tb : ByteArray) (w : World) (h : op.toList = [43]) (hk : (ka == 1) = false) (hk3 : (ka == 3) = false) :
    Calls Try.prog 43 #[.string op, .agg #[.int .i64 ka, .int .i64 na, .string ta], .agg #[.int .i64 kb, .int .i64 nb, .string tb]] w fun e w' => e = .returned (.tuple #[.agg #[.int .i64 0, .int .i64 0, .string ⟨#[]⟩], .int .i64 8]) ∧ Below w.heap.size w w' := by
  go_enter Try.func43, Try.ntmps43
  go_wp2
  exact bodyPost_ret (v := (.tuple #[.agg #[.int .i64 0, .int .i64 0, .string ⟨#[]⟩], .int .i64 8])) (by simp [results, Try.results43, go_sem]) rfl ⟨rfl, (by repeat (first | exact Below.refl _ _ | refine nx_al ?_ | refine nx_set ?_ (by first | omega | (simp <;> omega)) | refine nx_drew ?_ | refine nx_trans ?_ (by assumption)))⟩

set_option maxHeartbeats 400000 in
theorem l01Binary_type_add_b (op : ByteArray) (na : Int) (ta : ByteArray) (kb nb : Int) (tb : ByteArray) (w : World) (h : op.toList = [43]) (hk3 : (kb == 3) = false) :
    Calls Try.prog 43 #[.string op, .agg #[.int .i64 3, .int .i64 na, .string ta], .agg #[.int .i64 kb, .int .i64 nb, .string tb]] w fun e w' => e = .returned (.tuple #[.agg #[.int .i64 0, .int .i64 0, .string ⟨#[]⟩], .int .i64 8]) ∧ Below w.heap.size w w' := by
  go_enter Try.func43, Try.ntmps43
  go_wp2
  exact bodyPost_ret (v := (.tuple #[.agg #[.int .i64 0, .int .i64 0, .string ⟨#[]⟩], .int .i64 8])) (by simp [results, Try.results43, go_sem]) rfl ⟨rfl, (by repeat (first | exact Below.refl _ _ | refine nx_al ?_ | refine nx_set ?_ (by first | omega | (simp <;> omega)) | refine nx_drew ?_ | refine nx_trans ?_ (by assumption)))⟩

set_option maxHeartbeats 400000 in
theorem l01Binary_type_add_c (op : ByteArray) (na : Int) (ta : ByteArray) (kb nb : Int) (tb : ByteArray) (w : World) (h : op.toList = [43]) (hk3 : (kb == 1) = false) :
    Calls Try.prog 43 #[.string op, .agg #[.int .i64 1, .int .i64 na, .string ta], .agg #[.int .i64 kb, .int .i64 nb, .string tb]] w fun e w' => e = .returned (.tuple #[.agg #[.int .i64 0, .int .i64 0, .string ⟨#[]⟩], .int .i64 8]) ∧ Below w.heap.size w w' := by
  go_enter Try.func43, Try.ntmps43
  go_wp2
  exact bodyPost_ret (v := (.tuple #[.agg #[.int .i64 0, .int .i64 0, .string ⟨#[]⟩], .int .i64 8])) (by simp [results, Try.results43, go_sem]) rfl ⟨rfl, (by repeat (first | exact Below.refl _ _ | refine nx_al ?_ | refine nx_set ?_ (by first | omega | (simp <;> omega)) | refine nx_drew ?_ | refine nx_trans ?_ (by assumption)))⟩

set_option maxHeartbeats 400000 in
theorem l01Binary_type_sub_a (op : ByteArray) (ka na : Int) (ta : ByteArray) (kb nb : Int) (tb : ByteArray) (w : World) (h : op.toList = [45]) (hk : (ka == 1) = false) (hk3 : (ka == 3) = false) :
    Calls Try.prog 43 #[.string op, .agg #[.int .i64 ka, .int .i64 na, .string ta], .agg #[.int .i64 kb, .int .i64 nb, .string tb]] w fun e w' => e = .returned (.tuple #[.agg #[.int .i64 0, .int .i64 0, .string ⟨#[]⟩], .int .i64 8]) ∧ Below w.heap.size w w' := by
  go_enter Try.func43, Try.ntmps43
  go_wp2
  exact bodyPost_ret (v := (.tuple #[.agg #[.int .i64 0, .int .i64 0, .string ⟨#[]⟩], .int .i64 8])) (by simp [results, Try.results43, go_sem]) rfl ⟨rfl, (by repeat (first | exact Below.refl _ _ | refine nx_al ?_ | refine nx_set ?_ (by first | omega | (simp <;> omega)) | refine nx_drew ?_ | refine nx_trans ?_ (by assumption)))⟩

set_option maxHeartbeats 400000 in
theorem l01Binary_type_sub_b (op : ByteArray) (na : Int) (ta : ByteArray) (kb nb : Int) (tb : ByteArray) (w : World) (h : op.toList = [45])  :
    Calls Try.prog 43 #[.string op, .agg #[.int .i64 3, .int .i64 na, .string ta], .agg #[.int .i64 kb, .int .i64 nb, .string tb]] w fun e w' => e = .returned (.tuple #[.agg #[.int .i64 0, .int .i64 0, .string ⟨#[]⟩], .int .i64 8]) ∧ Below w.heap.size w w' := by
  go_enter Try.func43, Try.ntmps43
  go_wp2
  all_goals
    exact bodyPost_ret (v := (.tuple #[.agg #[.int .i64 0, .int .i64 0, .string ⟨#[]⟩], .int .i64 8])) (by simp [results, Try.results43, go_sem]) rfl ⟨rfl, (by repeat (first | exact Below.refl _ _ | refine nx_al ?_ | refine nx_set ?_ (by first | omega | (simp <;> omega)) | refine nx_drew ?_ | refine nx_trans ?_ (by assumption)))⟩

set_option maxHeartbeats 400000 in
theorem l01Binary_type_sub_c (op : ByteArray) (na : Int) (ta : ByteArray) (kb nb : Int) (tb : ByteArray) (w : World) (h : op.toList = [45]) (hk3 : (kb == 1) = false) :
    Calls Try.prog 43 #[.string op, .agg #[.int .i64 1, .int .i64 na, .string ta], .agg #[.int .i64 kb, .int .i64 nb, .string tb]] w fun e w' => e = .returned (.tuple #[.agg #[.int .i64 0, .int .i64 0, .string ⟨#[]⟩], .int .i64 8]) ∧ Below w.heap.size w w' := by
  go_enter Try.func43, Try.ntmps43
  go_wp2
  exact bodyPost_ret (v := (.tuple #[.agg #[.int .i64 0, .int .i64 0, .string ⟨#[]⟩], .int .i64 8])) (by simp [results, Try.results43, go_sem]) rfl ⟨rfl, (by repeat (first | exact Below.refl _ _ | refine nx_al ?_ | refine nx_set ?_ (by first | omega | (simp <;> omega)) | refine nx_drew ?_ | refine nx_trans ?_ (by assumption)))⟩

set_option maxHeartbeats 400000 in
theorem l01Binary_type_mul_a (op : ByteArray) (ka na : Int) (ta : ByteArray) (kb nb : Int) (tb : ByteArray) (w : World) (h : op.toList = [42]) (hk : (ka == 1) = false) (hk3 : (ka == 3) = false) :
    Calls Try.prog 43 #[.string op, .agg #[.int .i64 ka, .int .i64 na, .string ta], .agg #[.int .i64 kb, .int .i64 nb, .string tb]] w fun e w' => e = .returned (.tuple #[.agg #[.int .i64 0, .int .i64 0, .string ⟨#[]⟩], .int .i64 8]) ∧ Below w.heap.size w w' := by
  go_enter Try.func43, Try.ntmps43
  go_wp2
  exact bodyPost_ret (v := (.tuple #[.agg #[.int .i64 0, .int .i64 0, .string ⟨#[]⟩], .int .i64 8])) (by simp [results, Try.results43, go_sem]) rfl ⟨rfl, (by repeat (first | exact Below.refl _ _ | refine nx_al ?_ | refine nx_set ?_ (by first | omega | (simp <;> omega)) | refine nx_drew ?_ | refine nx_trans ?_ (by assumption)))⟩

set_option maxHeartbeats 400000 in
theorem l01Binary_type_mul_b (op : ByteArray) (na : Int) (ta : ByteArray) (kb nb : Int) (tb : ByteArray) (w : World) (h : op.toList = [42])  :
    Calls Try.prog 43 #[.string op, .agg #[.int .i64 3, .int .i64 na, .string ta], .agg #[.int .i64 kb, .int .i64 nb, .string tb]] w fun e w' => e = .returned (.tuple #[.agg #[.int .i64 0, .int .i64 0, .string ⟨#[]⟩], .int .i64 8]) ∧ Below w.heap.size w w' := by
  go_enter Try.func43, Try.ntmps43
  go_wp2
  all_goals
    exact bodyPost_ret (v := (.tuple #[.agg #[.int .i64 0, .int .i64 0, .string ⟨#[]⟩], .int .i64 8])) (by simp [results, Try.results43, go_sem]) rfl ⟨rfl, (by repeat (first | exact Below.refl _ _ | refine nx_al ?_ | refine nx_set ?_ (by first | omega | (simp <;> omega)) | refine nx_drew ?_ | refine nx_trans ?_ (by assumption)))⟩

set_option maxHeartbeats 400000 in
theorem l01Binary_type_mul_c (op : ByteArray) (na : Int) (ta : ByteArray) (kb nb : Int) (tb : ByteArray) (w : World) (h : op.toList = [42]) (hk3 : (kb == 1) = false) :
    Calls Try.prog 43 #[.string op, .agg #[.int .i64 1, .int .i64 na, .string ta], .agg #[.int .i64 kb, .int .i64 nb, .string tb]] w fun e w' => e = .returned (.tuple #[.agg #[.int .i64 0, .int .i64 0, .string ⟨#[]⟩], .int .i64 8]) ∧ Below w.heap.size w w' := by
  go_enter Try.func43, Try.ntmps43
  go_wp2
  exact bodyPost_ret (v := (.tuple #[.agg #[.int .i64 0, .int .i64 0, .string ⟨#[]⟩], .int .i64 8])) (by simp [results, Try.results43, go_sem]) rfl ⟨rfl, (by repeat (first | exact Below.refl _ _ | refine nx_al ?_ | refine nx_set ?_ (by first | omega | (simp <;> omega)) | refine nx_drew ?_ | refine nx_trans ?_ (by assumption)))⟩

set_option maxHeartbeats 400000 in
theorem l01Binary_type_quo_a (op : ByteArray) (ka na : Int) (ta : ByteArray) (kb nb : Int) (tb : ByteArray) (w : World) (h : op.toList = [47]) (hk : (ka == 1) = false) (hk3 : (ka == 3) = false) :
    Calls Try.prog 43 #[.string op, .agg #[.int .i64 ka, .int .i64 na, .string ta], .agg #[.int .i64 kb, .int .i64 nb, .string tb]] w fun e w' => e = .returned (.tuple #[.agg #[.int .i64 0, .int .i64 0, .string ⟨#[]⟩], .int .i64 8]) ∧ Below w.heap.size w w' := by
  go_enter Try.func43, Try.ntmps43
  go_wp2
  exact bodyPost_ret (v := (.tuple #[.agg #[.int .i64 0, .int .i64 0, .string ⟨#[]⟩], .int .i64 8])) (by simp [results, Try.results43, go_sem]) rfl ⟨rfl, (by repeat (first | exact Below.refl _ _ | refine nx_al ?_ | refine nx_set ?_ (by first | omega | (simp <;> omega)) | refine nx_drew ?_ | refine nx_trans ?_ (by assumption)))⟩

set_option maxHeartbeats 400000 in
theorem l01Binary_type_quo_b (op : ByteArray) (na : Int) (ta : ByteArray) (kb nb : Int) (tb : ByteArray) (w : World) (h : op.toList = [47])  :
    Calls Try.prog 43 #[.string op, .agg #[.int .i64 3, .int .i64 na, .string ta], .agg #[.int .i64 kb, .int .i64 nb, .string tb]] w fun e w' => e = .returned (.tuple #[.agg #[.int .i64 0, .int .i64 0, .string ⟨#[]⟩], .int .i64 8]) ∧ Below w.heap.size w w' := by
  go_enter Try.func43, Try.ntmps43
  go_wp2
  all_goals
    exact bodyPost_ret (v := (.tuple #[.agg #[.int .i64 0, .int .i64 0, .string ⟨#[]⟩], .int .i64 8])) (by simp [results, Try.results43, go_sem]) rfl ⟨rfl, (by repeat (first | exact Below.refl _ _ | refine nx_al ?_ | refine nx_set ?_ (by first | omega | (simp <;> omega)) | refine nx_drew ?_ | refine nx_trans ?_ (by assumption)))⟩

set_option maxHeartbeats 400000 in
theorem l01Binary_type_quo_c (op : ByteArray) (na : Int) (ta : ByteArray) (kb nb : Int) (tb : ByteArray) (w : World) (h : op.toList = [47]) (hk3 : (kb == 1) = false) :
    Calls Try.prog 43 #[.string op, .agg #[.int .i64 1, .int .i64 na, .string ta], .agg #[.int .i64 kb, .int .i64 nb, .string tb]] w fun e w' => e = .returned (.tuple #[.agg #[.int .i64 0, .int .i64 0, .string ⟨#[]⟩], .int .i64 8]) ∧ Below w.heap.size w w' := by
  go_enter Try.func43, Try.ntmps43
  go_wp2
  exact bodyPost_ret (v := (.tuple #[.agg #[.int .i64 0, .int .i64 0, .string ⟨#[]⟩], .int .i64 8])) (by simp [results, Try.results43, go_sem]) rfl ⟨rfl, (by repeat (first | exact Below.refl _ _ | refine nx_al ?_ | refine nx_set ?_ (by first | omega | (simp <;> omega)) | refine nx_drew ?_ | refine nx_trans ?_ (by assumption)))⟩

set_option maxHeartbeats 400000 in
theorem l01Binary_type_rem_a (op : ByteArray) (ka na : Int) (ta : ByteArray) (kb nb : Int) (tb : ByteArray) (w : World) (h : op.toList = [37]) (hk : (ka == 1) = false) (hk3 : (ka == 3) = false) :
    Calls Try.prog 43 #[.string op, .agg #[.int .i64 ka, .int .i64 na, .string ta], .agg #[.int .i64 kb, .int .i64 nb, .string tb]] w fun e w' => e = .returned (.tuple #[.agg #[.int .i64 0, .int .i64 0, .string ⟨#[]⟩], .int .i64 8]) ∧ Below w.heap.size w w' := by
  go_enter Try.func43, Try.ntmps43
  go_wp2
  exact bodyPost_ret (v := (.tuple #[.agg #[.int .i64 0, .int .i64 0, .string ⟨#[]⟩], .int .i64 8])) (by simp [results, Try.results43, go_sem]) rfl ⟨rfl, (by repeat (first | exact Below.refl _ _ | refine nx_al ?_ | refine nx_set ?_ (by first | omega | (simp <;> omega)) | refine nx_drew ?_ | refine nx_trans ?_ (by assumption)))⟩

set_option maxHeartbeats 400000 in
theorem l01Binary_type_rem_b (op : ByteArray) (na : Int) (ta : ByteArray) (kb nb : Int) (tb : ByteArray) (w : World) (h : op.toList = [37])  :
    Calls Try.prog 43 #[.string op, .agg #[.int .i64 3, .int .i64 na, .string ta], .agg #[.int .i64 kb, .int .i64 nb, .string tb]] w fun e w' => e = .returned (.tuple #[.agg #[.int .i64 0, .int .i64 0, .string ⟨#[]⟩], .int .i64 8]) ∧ Below w.heap.size w w' := by
  go_enter Try.func43, Try.ntmps43
  go_wp2
  all_goals
    exact bodyPost_ret (v := (.tuple #[.agg #[.int .i64 0, .int .i64 0, .string ⟨#[]⟩], .int .i64 8])) (by simp [results, Try.results43, go_sem]) rfl ⟨rfl, (by repeat (first | exact Below.refl _ _ | refine nx_al ?_ | refine nx_set ?_ (by first | omega | (simp <;> omega)) | refine nx_drew ?_ | refine nx_trans ?_ (by assumption)))⟩

set_option maxHeartbeats 400000 in
theorem l01Binary_type_rem_c (op : ByteArray) (na : Int) (ta : ByteArray) (kb nb : Int) (tb : ByteArray) (w : World) (h : op.toList = [37]) (hk3 : (kb == 1) = false) :
    Calls Try.prog 43 #[.string op, .agg #[.int .i64 1, .int .i64 na, .string ta], .agg #[.int .i64 kb, .int .i64 nb, .string tb]] w fun e w' => e = .returned (.tuple #[.agg #[.int .i64 0, .int .i64 0, .string ⟨#[]⟩], .int .i64 8]) ∧ Below w.heap.size w w' := by
  go_enter Try.func43, Try.ntmps43
  go_wp2
  exact bodyPost_ret (v := (.tuple #[.agg #[.int .i64 0, .int .i64 0, .string ⟨#[]⟩], .int .i64 8])) (by simp [results, Try.results43, go_sem]) rfl ⟨rfl, (by repeat (first | exact Below.refl _ _ | refine nx_al ?_ | refine nx_set ?_ (by first | omega | (simp <;> omega)) | refine nx_drew ?_ | refine nx_trans ?_ (by assumption)))⟩

set_option maxHeartbeats 400000 in
theorem l01Binary_int_lt (op : ByteArray) (a : Int) (ta : ByteArray) (b : Int) (tb : ByteArray) (w : World) (h : op.toList = [60]) :
    Calls Try.prog 43 #[.string op, .agg #[.int .i64 1, .int .i64 a, .string ta], .agg #[.int .i64 1, .int .i64 b, .string tb]] w fun e w' => e = .returned (.tuple #[.agg #[.int .i64 2, .int .i64 (bitI (decide (a < b))), .string ⟨#[]⟩], .int .i64 0]) ∧ Below w.heap.size w w' := by
  go_enter Try.func43, Try.ntmps43
  go_wp2_with fail
  refine (l01Bool_any _ _).mono ?_
  rintro e w1 ⟨rfl, hb1⟩
  obtain ⟨hc1, hf1⟩ := bcell hb1
  have hz1_0 : w.heap.size < w1.heap.size := by have := hb1.size; first | omega | (simp at this; omega)
  have hz1_1 : w.heap.size + 1 < w1.heap.size := by have := hb1.size; first | omega | (simp at this; omega)
  have hz1_2 : w.heap.size + 2 < w1.heap.size := by have := hb1.size; first | omega | (simp at this; omega)
  go_wp2
  exact bodyPost_ret (v := (.tuple #[.agg #[.int .i64 2, .int .i64 (bitI (decide (a < b))), .string ⟨#[]⟩], .int .i64 0])) (by simp [results, Try.results43, go_sem, *]) rfl ⟨rfl, (by repeat (first | exact Below.refl _ _ | refine nx_al ?_ | refine nx_set ?_ (by first | omega | (simp <;> omega)) | refine nx_drew ?_ | refine nx_trans ?_ (by assumption)))⟩

set_option maxHeartbeats 400000 in
theorem l01Binary_int_add (op : ByteArray) (a : Int) (ta : ByteArray) (b : Int) (tb : ByteArray) (w : World) (h : op.toList = [43]) (ha1 : -2147483648 ≤ a) (ha2 : a ≤ 2147483647) (hb1' : -2147483648 ≤ b) (hb2' : b ≤ 2147483647)  :
    Calls Try.prog 43 #[.string op, .agg #[.int .i64 1, .int .i64 a, .string ta], .agg #[.int .i64 1, .int .i64 b, .string tb]] w fun e w' => e = .returned (.tuple #[.agg #[.int .i64 (fitR (a + b)).k, .int .i64 (fitR (a + b)).n, .string (fitR (a + b)).t], .int .i64 (fitR (a + b)).c]) ∧ Below w.heap.size w w' := by
  go_enter Try.func43, Try.ntmps43
  go_wp2_with fail
  refine (l01Fit_any _ _).mono ?_
  rintro e w1 ⟨rfl, hb1⟩
  obtain ⟨hc1, hf1⟩ := bcell hb1
  have hz1_0 : w.heap.size < w1.heap.size := by have := hb1.size; first | omega | (simp at this; omega)
  have hz1_1 : w.heap.size + 1 < w1.heap.size := by have := hb1.size; first | omega | (simp at this; omega)
  have hz1_2 : w.heap.size + 2 < w1.heap.size := by have := hb1.size; first | omega | (simp at this; omega)
  go_wp2
  exact bodyPost_ret (v := (.tuple #[.agg #[.int .i64 (fitR (a + b)).k, .int .i64 (fitR (a + b)).n, .string (fitR (a + b)).t], .int .i64 (fitR (a + b)).c])) (by simp [results, Try.results43, go_sem, *]) rfl ⟨rfl, (by repeat (first | exact Below.refl _ _ | refine nx_al ?_ | refine nx_set ?_ (by first | omega | (simp <;> omega)) | refine nx_drew ?_ | refine nx_trans ?_ (by assumption)))⟩

set_option maxHeartbeats 400000 in
theorem l01Binary_int_sub (op : ByteArray) (a : Int) (ta : ByteArray) (b : Int) (tb : ByteArray) (w : World) (h : op.toList = [45]) (ha1 : -2147483648 ≤ a) (ha2 : a ≤ 2147483647) (hb1' : -2147483648 ≤ b) (hb2' : b ≤ 2147483647)  :
    Calls Try.prog 43 #[.string op, .agg #[.int .i64 1, .int .i64 a, .string ta], .agg #[.int .i64 1, .int .i64 b, .string tb]] w fun e w' => e = .returned (.tuple #[.agg #[.int .i64 (fitR (a - b)).k, .int .i64 (fitR (a - b)).n, .string (fitR (a - b)).t], .int .i64 (fitR (a - b)).c]) ∧ Below w.heap.size w w' := by
  go_enter Try.func43, Try.ntmps43
  go_wp2_with fail
  refine (l01Fit_any _ _).mono ?_
  rintro e w1 ⟨rfl, hb1⟩
  obtain ⟨hc1, hf1⟩ := bcell hb1
  have hz1_0 : w.heap.size < w1.heap.size := by have := hb1.size; first | omega | (simp at this; omega)
  have hz1_1 : w.heap.size + 1 < w1.heap.size := by have := hb1.size; first | omega | (simp at this; omega)
  have hz1_2 : w.heap.size + 2 < w1.heap.size := by have := hb1.size; first | omega | (simp at this; omega)
  go_wp2
  exact bodyPost_ret (v := (.tuple #[.agg #[.int .i64 (fitR (a - b)).k, .int .i64 (fitR (a - b)).n, .string (fitR (a - b)).t], .int .i64 (fitR (a - b)).c])) (by simp [results, Try.results43, go_sem, *]) rfl ⟨rfl, (by repeat (first | exact Below.refl _ _ | refine nx_al ?_ | refine nx_set ?_ (by first | omega | (simp <;> omega)) | refine nx_drew ?_ | refine nx_trans ?_ (by assumption)))⟩

set_option maxHeartbeats 400000 in
theorem l01Binary_int_mul (op : ByteArray) (a : Int) (ta : ByteArray) (b : Int) (tb : ByteArray) (w : World) (h : op.toList = [42]) (ha1 : -2147483648 ≤ a) (ha2 : a ≤ 2147483647) (hb1' : -2147483648 ≤ b) (hb2' : b ≤ 2147483647) (hm1 : -4611686018427387904 ≤ a * b) (hm2 : a * b ≤ 4611686018427387904) :
    Calls Try.prog 43 #[.string op, .agg #[.int .i64 1, .int .i64 a, .string ta], .agg #[.int .i64 1, .int .i64 b, .string tb]] w fun e w' => e = .returned (.tuple #[.agg #[.int .i64 (fitR (a * b)).k, .int .i64 (fitR (a * b)).n, .string (fitR (a * b)).t], .int .i64 (fitR (a * b)).c]) ∧ Below w.heap.size w w' := by
  go_enter Try.func43, Try.ntmps43
  go_wp2_with fail
  refine (l01Fit_any _ _).mono ?_
  rintro e w1 ⟨rfl, hb1⟩
  obtain ⟨hc1, hf1⟩ := bcell hb1
  have hz1_0 : w.heap.size < w1.heap.size := by have := hb1.size; first | omega | (simp at this; omega)
  have hz1_1 : w.heap.size + 1 < w1.heap.size := by have := hb1.size; first | omega | (simp at this; omega)
  have hz1_2 : w.heap.size + 2 < w1.heap.size := by have := hb1.size; first | omega | (simp at this; omega)
  go_wp2
  exact bodyPost_ret (v := (.tuple #[.agg #[.int .i64 (fitR (a * b)).k, .int .i64 (fitR (a * b)).n, .string (fitR (a * b)).t], .int .i64 (fitR (a * b)).c])) (by simp [results, Try.results43, go_sem, *]) rfl ⟨rfl, (by repeat (first | exact Below.refl _ _ | refine nx_al ?_ | refine nx_set ?_ (by first | omega | (simp <;> omega)) | refine nx_drew ?_ | refine nx_trans ?_ (by assumption)))⟩

set_option maxHeartbeats 400000 in
theorem l01Binary_int_quo0 (op : ByteArray) (a : Int) (ta : ByteArray) (tb : ByteArray) (w : World) (h : op.toList = [47]) :
    Calls Try.prog 43 #[.string op, .agg #[.int .i64 1, .int .i64 a, .string ta], .agg #[.int .i64 1, .int .i64 0, .string tb]] w fun e w' => e = .returned (.tuple #[.agg #[.int .i64 0, .int .i64 0, .string ⟨#[]⟩], .int .i64 4]) ∧ Below w.heap.size w w' := by
  go_enter Try.func43, Try.ntmps43
  go_wp2
  exact bodyPost_ret (v := (.tuple #[.agg #[.int .i64 0, .int .i64 0, .string ⟨#[]⟩], .int .i64 4])) (by simp [results, Try.results43, go_sem]) rfl ⟨rfl, (by repeat (first | exact Below.refl _ _ | refine nx_al ?_ | refine nx_set ?_ (by first | omega | (simp <;> omega)) | refine nx_drew ?_ | refine nx_trans ?_ (by assumption)))⟩

set_option maxHeartbeats 400000 in
theorem l01Binary_int_rem0 (op : ByteArray) (a : Int) (ta : ByteArray) (tb : ByteArray) (w : World) (h : op.toList = [37]) :
    Calls Try.prog 43 #[.string op, .agg #[.int .i64 1, .int .i64 a, .string ta], .agg #[.int .i64 1, .int .i64 0, .string tb]] w fun e w' => e = .returned (.tuple #[.agg #[.int .i64 0, .int .i64 0, .string ⟨#[]⟩], .int .i64 4]) ∧ Below w.heap.size w w' := by
  go_enter Try.func43, Try.ntmps43
  go_wp2
  exact bodyPost_ret (v := (.tuple #[.agg #[.int .i64 0, .int .i64 0, .string ⟨#[]⟩], .int .i64 4])) (by simp [results, Try.results43, go_sem]) rfl ⟨rfl, (by repeat (first | exact Below.refl _ _ | refine nx_al ?_ | refine nx_set ?_ (by first | omega | (simp <;> omega)) | refine nx_drew ?_ | refine nx_trans ?_ (by assumption)))⟩

set_option maxHeartbeats 400000 in
theorem l01Binary_int_rem (op : ByteArray) (a : Int) (ta : ByteArray) (b : Int) (tb : ByteArray) (w : World) (h : op.toList = [37]) (h0 : (b == 0) = false) (h0' : ¬ b = 0) (ha1 : -2147483648 ≤ a) (ha2 : a ≤ 2147483647) (hb1' : -2147483648 ≤ b) (hb2' : b ≤ 2147483647)  :
    Calls Try.prog 43 #[.string op, .agg #[.int .i64 1, .int .i64 a, .string ta], .agg #[.int .i64 1, .int .i64 b, .string tb]] w fun e w' => e = .returned (.tuple #[.agg #[.int .i64 1, .int .i64 (a.tmod b), .string ⟨#[]⟩], .int .i64 0]) ∧ Below w.heap.size w w' := by
  go_enter Try.func43, Try.ntmps43
  go_wp2_with fail
  refine (l01Int_any _ _).mono ?_
  rintro e w1 ⟨rfl, hb1⟩
  obtain ⟨hc1, hf1⟩ := bcell hb1
  have hz1_0 : w.heap.size < w1.heap.size := by have := hb1.size; first | omega | (simp at this; omega)
  have hz1_1 : w.heap.size + 1 < w1.heap.size := by have := hb1.size; first | omega | (simp at this; omega)
  have hz1_2 : w.heap.size + 2 < w1.heap.size := by have := hb1.size; first | omega | (simp at this; omega)
  unfold intV
  go_wp2
  exact bodyPost_ret (v := (.tuple #[.agg #[.int .i64 1, .int .i64 (a.tmod b), .string ⟨#[]⟩], .int .i64 0])) (by simp [results, Try.results43, go_sem, *]) rfl ⟨rfl, (by repeat (first | exact Below.refl _ _ | refine nx_al ?_ | refine nx_set ?_ (by first | omega | (simp <;> omega)) | refine nx_drew ?_ | refine nx_trans ?_ (by assumption)))⟩

set_option maxHeartbeats 400000 in
theorem l01Binary_int_part (op : ByteArray) (a : Int) (ta : ByteArray) (b : Int) (tb : ByteArray) (w : World) (h : op.toList = [47]) (h0 : (b == 0) = false) (h0' : ¬ b = 0) (hm : (a.tmod b != 0) = true) (ha1 : -2147483648 ≤ a) (ha2 : a ≤ 2147483647) (hb1' : -2147483648 ≤ b) (hb2' : b ≤ 2147483647)  :
    Calls Try.prog 43 #[.string op, .agg #[.int .i64 1, .int .i64 a, .string ta], .agg #[.int .i64 1, .int .i64 b, .string tb]] w fun e w' => e = .returned (.tuple #[.agg #[.int .i64 0, .int .i64 0, .string ⟨#[]⟩], .int .i64 4]) ∧ Below w.heap.size w w' := by
  go_enter Try.func43, Try.ntmps43
  go_wp2
  exact bodyPost_ret (v := (.tuple #[.agg #[.int .i64 0, .int .i64 0, .string ⟨#[]⟩], .int .i64 4])) (by simp [results, Try.results43, go_sem]) rfl ⟨rfl, (by repeat (first | exact Below.refl _ _ | refine nx_al ?_ | refine nx_set ?_ (by first | omega | (simp <;> omega)) | refine nx_drew ?_ | refine nx_trans ?_ (by assumption)))⟩

set_option maxHeartbeats 400000 in
theorem l01Binary_int_quo (op : ByteArray) (a : Int) (ta : ByteArray) (b : Int) (tb : ByteArray) (w : World) (h : op.toList = [47]) (h0 : (b == 0) = false) (h0' : ¬ b = 0) (hm : (a.tmod b != 0) = false) (ha1 : -2147483648 ≤ a) (ha2 : a ≤ 2147483647) (hb1' : -2147483648 ≤ b) (hb2' : b ≤ 2147483647)  :
    Calls Try.prog 43 #[.string op, .agg #[.int .i64 1, .int .i64 a, .string ta], .agg #[.int .i64 1, .int .i64 b, .string tb]] w fun e w' => e = .returned (.tuple #[.agg #[.int .i64 (fitR (wrap64 (a.tdiv b))).k, .int .i64 (fitR (wrap64 (a.tdiv b))).n, .string (fitR (wrap64 (a.tdiv b))).t], .int .i64 (fitR (wrap64 (a.tdiv b))).c]) ∧ Below w.heap.size w w' := by
  go_enter Try.func43, Try.ntmps43
  go_wp2_with fail
  refine (l01Fit_any _ _).mono ?_
  rintro e w1 ⟨rfl, hb1⟩
  obtain ⟨hc1, hf1⟩ := bcell hb1
  have hz1_0 : w.heap.size < w1.heap.size := by have := hb1.size; first | omega | (simp at this; omega)
  have hz1_1 : w.heap.size + 1 < w1.heap.size := by have := hb1.size; first | omega | (simp at this; omega)
  have hz1_2 : w.heap.size + 2 < w1.heap.size := by have := hb1.size; first | omega | (simp at this; omega)
  go_wp2
  exact bodyPost_ret (v := (.tuple #[.agg #[.int .i64 (fitR (wrap64 (a.tdiv b))).k, .int .i64 (fitR (wrap64 (a.tdiv b))).n, .string (fitR (wrap64 (a.tdiv b))).t], .int .i64 (fitR (wrap64 (a.tdiv b))).c])) (by simp [results, Try.results43, go_sem, *]) rfl ⟨rfl, (by repeat (first | exact Below.refl _ _ | refine nx_al ?_ | refine nx_set ?_ (by first | omega | (simp <;> omega)) | refine nx_drew ?_ | refine nx_trans ?_ (by assumption)))⟩

end Go.Proofs.Ytpncohkbdaoceaa
