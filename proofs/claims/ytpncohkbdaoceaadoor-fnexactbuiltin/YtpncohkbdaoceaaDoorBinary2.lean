/- 'impl.Binary', case by case. -/
import Derived.Test.YtpncohkbdaoceaaDoorBinary1
namespace Go.Proofs.YtpncohkbdaoceaaDoor
open Go.RowKit
set_option linter.unusedVariables false

set_option maxHeartbeats 400000 in
theorem Binary_long (op : ByteArray) (ka na : Int) (ta : ByteArray) (kb nb : Int) (tb : ByteArray) (w : World) (h : 65536 < op.size) :
    Calls Tryd.prog 13 #[.string op, .agg #[.int .i64 ka, .int .i64 na, .string ta], .agg #[.int .i64 kb, .int .i64 nb, .string tb]] w fun e w' => e = .returned (.tuple #[.agg #[.int .i64 0, .int .i64 0, .string ⟨#[]⟩], .int .i64 2]) ∧ Below w.heap.size w w' := by
  go_enter Tryd.func13, Tryd.ntmps13
  go_wp2
  exact bodyPost_ret (v := (.tuple #[.agg #[.int .i64 0, .int .i64 0, .string ⟨#[]⟩], .int .i64 2])) (by simp [results, Tryd.results13, go_sem]) rfl ⟨rfl, (by repeat (first | exact Below.refl _ _ | refine nx_al ?_ | refine nx_set ?_ (by first | omega | (simp <;> omega)) | refine nx_drew ?_ | refine nx_trans ?_ (by assumption)))⟩

set_option maxHeartbeats 400000 in
theorem Binary_bada (op : ByteArray) (ka na : Int) (ta : ByteArray) (kb nb : Int) (tb : ByteArray) (w : World) (ho : op.size ≤ 65536) (hta : ta.size ≤ maxLen) (htb : tb.size ≤ maxLen) (hva : vokB ka na ta = false) :
    Calls Tryd.prog 13 #[.string op, .agg #[.int .i64 ka, .int .i64 na, .string ta], .agg #[.int .i64 kb, .int .i64 nb, .string tb]] w fun e w' => e = .returned (.tuple #[.agg #[.int .i64 0, .int .i64 0, .string ⟨#[]⟩], .int .i64 1]) ∧ Below w.heap.size w w' := by
  go_enter Tryd.func13, Tryd.ntmps13
  go_wp2_with fail
  refine (ValueOK_any ka na ta _ hta).mono ?_
  rintro e w1 ⟨rfl, hb1⟩
  obtain ⟨hc1, hf1⟩ := bcell hb1
  have hz1_0 : w.heap.size < w1.heap.size := by have := hb1.size; first | omega | (simp at this; omega)
  have hz1_1 : w.heap.size + 1 < w1.heap.size := by have := hb1.size; first | omega | (simp at this; omega)
  have hz1_2 : w.heap.size + 2 < w1.heap.size := by have := hb1.size; first | omega | (simp at this; omega)
  go_wp2
  exact bodyPost_ret (v := (.tuple #[.agg #[.int .i64 0, .int .i64 0, .string ⟨#[]⟩], .int .i64 1])) (by simp [results, Tryd.results13, go_sem, *]) rfl ⟨rfl, (by repeat (first | exact Below.refl _ _ | refine nx_al ?_ | refine nx_set ?_ (by first | omega | (simp <;> omega)) | refine nx_drew ?_ | refine nx_trans ?_ (by assumption)))⟩

set_option maxHeartbeats 400000 in
theorem Binary_badb (op : ByteArray) (ka na : Int) (ta : ByteArray) (kb nb : Int) (tb : ByteArray) (w : World) (ho : op.size ≤ 65536) (hta : ta.size ≤ maxLen) (htb : tb.size ≤ maxLen) (hva : vokB ka na ta = true) (hvb : vokB kb nb tb = false) :
    Calls Tryd.prog 13 #[.string op, .agg #[.int .i64 ka, .int .i64 na, .string ta], .agg #[.int .i64 kb, .int .i64 nb, .string tb]] w fun e w' => e = .returned (.tuple #[.agg #[.int .i64 0, .int .i64 0, .string ⟨#[]⟩], .int .i64 1]) ∧ Below w.heap.size w w' := by
  go_enter Tryd.func13, Tryd.ntmps13
  go_wp2_with fail
  refine (ValueOK_any ka na ta _ hta).mono ?_
  rintro e w1 ⟨rfl, hb1⟩
  obtain ⟨hc1, hf1⟩ := bcell hb1
  have hz1_0 : w.heap.size < w1.heap.size := by have := hb1.size; first | omega | (simp at this; omega)
  have hz1_1 : w.heap.size + 1 < w1.heap.size := by have := hb1.size; first | omega | (simp at this; omega)
  have hz1_2 : w.heap.size + 2 < w1.heap.size := by have := hb1.size; first | omega | (simp at this; omega)
  go_wp2_with fail
  refine (ValueOK_any kb nb tb _ htb).mono ?_
  rintro e w2 ⟨rfl, hb2⟩
  obtain ⟨hc2, hf2⟩ := bcell hb2
  have hz2_0 : w.heap.size < w2.heap.size := by have := hb2.size; first | omega | (simp at this; omega)
  have hz2_1 : w.heap.size + 1 < w2.heap.size := by have := hb2.size; first | omega | (simp at this; omega)
  have hz2_2 : w.heap.size + 2 < w2.heap.size := by have := hb2.size; first | omega | (simp at this; omega)
  go_wp2
  exact bodyPost_ret (v := (.tuple #[.agg #[.int .i64 0, .int .i64 0, .string ⟨#[]⟩], .int .i64 1])) (by simp [results, Tryd.results13, go_sem, *]) rfl ⟨rfl, (by repeat (first | exact Below.refl _ _ | refine nx_al ?_ | refine nx_set ?_ (by first | omega | (simp <;> omega)) | refine nx_drew ?_ | refine nx_trans ?_ (by assumption)))⟩

set_option maxHeartbeats 400000 in
theorem Binary_eq_yes (op : ByteArray) (ka na : Int) (ta : ByteArray) (w : World) (ho : op.size ≤ 65536) (hta : ta.size ≤ maxLen) (hva : vokB ka na ta = true) (h : op.toList = [61, 61])  :
    Calls Tryd.prog 13 #[.string op, .agg #[.int .i64 ka, .int .i64 na, .string ta], .agg #[.int .i64 ka, .int .i64 na, .string ta]] w fun e w' => e = .returned (.tuple #[.agg #[.int .i64 2, .int .i64 (bitI true), .string ⟨#[]⟩], .int .i64 0]) ∧ Below w.heap.size w w' := by
  go_enter Tryd.func13, Tryd.ntmps13
  go_wp2_with fail
  refine (ValueOK_any ka na ta _ hta).mono ?_
  rintro e w1 ⟨rfl, hb1⟩
  obtain ⟨hc1, hf1⟩ := bcell hb1
  have hz1_0 : w.heap.size < w1.heap.size := by have := hb1.size; first | omega | (simp at this; omega)
  have hz1_1 : w.heap.size + 1 < w1.heap.size := by have := hb1.size; first | omega | (simp at this; omega)
  have hz1_2 : w.heap.size + 2 < w1.heap.size := by have := hb1.size; first | omega | (simp at this; omega)
  go_wp2_with fail
  refine (ValueOK_any ka na ta _ hta).mono ?_
  rintro e w2 ⟨rfl, hb2⟩
  obtain ⟨hc2, hf2⟩ := bcell hb2
  have hz2_0 : w.heap.size < w2.heap.size := by have := hb2.size; first | omega | (simp at this; omega)
  have hz2_1 : w.heap.size + 1 < w2.heap.size := by have := hb2.size; first | omega | (simp at this; omega)
  have hz2_2 : w.heap.size + 2 < w2.heap.size := by have := hb2.size; first | omega | (simp at this; omega)
  go_wp2_with fail
  refine (boolValue_bit _ _).mono ?_
  rintro e w3 ⟨rfl, hb3⟩
  obtain ⟨hc3, hf3⟩ := bcell hb3
  have hz3_0 : w.heap.size < w3.heap.size := by have := hb3.size; first | omega | (simp at this; omega)
  have hz3_1 : w.heap.size + 1 < w3.heap.size := by have := hb3.size; first | omega | (simp at this; omega)
  have hz3_2 : w.heap.size + 2 < w3.heap.size := by have := hb3.size; first | omega | (simp at this; omega)
  go_wp2
  exact bodyPost_ret (v := (.tuple #[.agg #[.int .i64 2, .int .i64 (bitI true), .string ⟨#[]⟩], .int .i64 0])) (by simp [results, Tryd.results13, go_sem, *]) rfl ⟨rfl, (by repeat (first | exact Below.refl _ _ | refine nx_al ?_ | refine nx_set ?_ (by first | omega | (simp <;> omega)) | refine nx_drew ?_ | refine nx_trans ?_ (by assumption)))⟩

set_option maxHeartbeats 400000 in
theorem Binary_eq_no0 (op : ByteArray) (ka na : Int) (ta : ByteArray) (kb nb : Int) (tb : ByteArray) (w : World) (ho : op.size ≤ 65536) (hta : ta.size ≤ maxLen) (htb : tb.size ≤ maxLen) (hva : vokB ka na ta = true) (hvb : vokB kb nb tb = true) (h : op.toList = [61, 61]) (hne : (ka == kb) = false) :
    Calls Tryd.prog 13 #[.string op, .agg #[.int .i64 ka, .int .i64 na, .string ta], .agg #[.int .i64 kb, .int .i64 nb, .string tb]] w fun e w' => e = .returned (.tuple #[.agg #[.int .i64 2, .int .i64 (bitI false), .string ⟨#[]⟩], .int .i64 0]) ∧ Below w.heap.size w w' := by
  go_enter Tryd.func13, Tryd.ntmps13
  go_wp2_with fail
  refine (ValueOK_any ka na ta _ hta).mono ?_
  rintro e w1 ⟨rfl, hb1⟩
  obtain ⟨hc1, hf1⟩ := bcell hb1
  have hz1_0 : w.heap.size < w1.heap.size := by have := hb1.size; first | omega | (simp at this; omega)
  have hz1_1 : w.heap.size + 1 < w1.heap.size := by have := hb1.size; first | omega | (simp at this; omega)
  have hz1_2 : w.heap.size + 2 < w1.heap.size := by have := hb1.size; first | omega | (simp at this; omega)
  go_wp2_with fail
  refine (ValueOK_any kb nb tb _ htb).mono ?_
  rintro e w2 ⟨rfl, hb2⟩
  obtain ⟨hc2, hf2⟩ := bcell hb2
  have hz2_0 : w.heap.size < w2.heap.size := by have := hb2.size; first | omega | (simp at this; omega)
  have hz2_1 : w.heap.size + 1 < w2.heap.size := by have := hb2.size; first | omega | (simp at this; omega)
  have hz2_2 : w.heap.size + 2 < w2.heap.size := by have := hb2.size; first | omega | (simp at this; omega)
  go_wp2_with fail
  refine (boolValue_bit _ _).mono ?_
  rintro e w3 ⟨rfl, hb3⟩
  obtain ⟨hc3, hf3⟩ := bcell hb3
  have hz3_0 : w.heap.size < w3.heap.size := by have := hb3.size; first | omega | (simp at this; omega)
  have hz3_1 : w.heap.size + 1 < w3.heap.size := by have := hb3.size; first | omega | (simp at this; omega)
  have hz3_2 : w.heap.size + 2 < w3.heap.size := by have := hb3.size; first | omega | (simp at this; omega)
  go_wp2
  exact bodyPost_ret (v := (.tuple #[.agg #[.int .i64 2, .int .i64 (bitI false), .string ⟨#[]⟩], .int .i64 0])) (by simp [results, Tryd.results13, go_sem, *]) rfl ⟨rfl, (by repeat (first | exact Below.refl _ _ | refine nx_al ?_ | refine nx_set ?_ (by first | omega | (simp <;> omega)) | refine nx_drew ?_ | refine nx_trans ?_ (by assumption)))⟩

set_option maxHeartbeats 400000 in
theorem Binary_eq_no1 (op : ByteArray) (ka na : Int) (ta : ByteArray) (kb nb : Int) (tb : ByteArray) (w : World) (ho : op.size ≤ 65536) (hta : ta.size ≤ maxLen) (htb : tb.size ≤ maxLen) (hva : vokB ka na ta = true) (hvb : vokB kb nb tb = true) (h : op.toList = [61, 61]) (hna : ka = kb) (hne : (na == nb) = false) :
    Calls Tryd.prog 13 #[.string op, .agg #[.int .i64 ka, .int .i64 na, .string ta], .agg #[.int .i64 kb, .int .i64 nb, .string tb]] w fun e w' => e = .returned (.tuple #[.agg #[.int .i64 2, .int .i64 (bitI false), .string ⟨#[]⟩], .int .i64 0]) ∧ Below w.heap.size w w' := by
  subst hna
  go_enter Tryd.func13, Tryd.ntmps13
  go_wp2_with fail
  refine (ValueOK_any ka na ta _ hta).mono ?_
  rintro e w1 ⟨rfl, hb1⟩
  obtain ⟨hc1, hf1⟩ := bcell hb1
  have hz1_0 : w.heap.size < w1.heap.size := by have := hb1.size; first | omega | (simp at this; omega)
  have hz1_1 : w.heap.size + 1 < w1.heap.size := by have := hb1.size; first | omega | (simp at this; omega)
  have hz1_2 : w.heap.size + 2 < w1.heap.size := by have := hb1.size; first | omega | (simp at this; omega)
  go_wp2_with fail
  refine (ValueOK_any ka nb tb _ htb).mono ?_
  rintro e w2 ⟨rfl, hb2⟩
  obtain ⟨hc2, hf2⟩ := bcell hb2
  have hz2_0 : w.heap.size < w2.heap.size := by have := hb2.size; first | omega | (simp at this; omega)
  have hz2_1 : w.heap.size + 1 < w2.heap.size := by have := hb2.size; first | omega | (simp at this; omega)
  have hz2_2 : w.heap.size + 2 < w2.heap.size := by have := hb2.size; first | omega | (simp at this; omega)
  go_wp2_with fail
  refine (boolValue_bit _ _).mono ?_
  rintro e w3 ⟨rfl, hb3⟩
  obtain ⟨hc3, hf3⟩ := bcell hb3
  have hz3_0 : w.heap.size < w3.heap.size := by have := hb3.size; first | omega | (simp at this; omega)
  have hz3_1 : w.heap.size + 1 < w3.heap.size := by have := hb3.size; first | omega | (simp at this; omega)
  have hz3_2 : w.heap.size + 2 < w3.heap.size := by have := hb3.size; first | omega | (simp at this; omega)
  go_wp2
  exact bodyPost_ret (v := (.tuple #[.agg #[.int .i64 2, .int .i64 (bitI false), .string ⟨#[]⟩], .int .i64 0])) (by simp [results, Tryd.results13, go_sem, *]) rfl ⟨rfl, (by repeat (first | exact Below.refl _ _ | refine nx_al ?_ | refine nx_set ?_ (by first | omega | (simp <;> omega)) | refine nx_drew ?_ | refine nx_trans ?_ (by assumption)))⟩

set_option maxHeartbeats 400000 in
theorem Binary_eq_no2 (op : ByteArray) (ka na : Int) (ta : ByteArray) (kb nb : Int) (tb : ByteArray) (w : World) (ho : op.size ≤ 65536) (hta : ta.size ≤ maxLen) (htb : tb.size ≤ maxLen) (hva : vokB ka na ta = true) (hvb : vokB kb nb tb = true) (h : op.toList = [61, 61]) (hna : ka = kb) (hnb : na = nb) (hne : (ta.toList == tb.toList) = false) :
    Calls Tryd.prog 13 #[.string op, .agg #[.int .i64 ka, .int .i64 na, .string ta], .agg #[.int .i64 kb, .int .i64 nb, .string tb]] w fun e w' => e = .returned (.tuple #[.agg #[.int .i64 2, .int .i64 (bitI false), .string ⟨#[]⟩], .int .i64 0]) ∧ Below w.heap.size w w' := by
  subst hna
  subst hnb
  go_enter Tryd.func13, Tryd.ntmps13
  go_wp2_with fail
  refine (ValueOK_any ka na ta _ hta).mono ?_
  rintro e w1 ⟨rfl, hb1⟩
  obtain ⟨hc1, hf1⟩ := bcell hb1
  have hz1_0 : w.heap.size < w1.heap.size := by have := hb1.size; first | omega | (simp at this; omega)
  have hz1_1 : w.heap.size + 1 < w1.heap.size := by have := hb1.size; first | omega | (simp at this; omega)
  have hz1_2 : w.heap.size + 2 < w1.heap.size := by have := hb1.size; first | omega | (simp at this; omega)
  go_wp2_with fail
  refine (ValueOK_any ka na tb _ htb).mono ?_
  rintro e w2 ⟨rfl, hb2⟩
  obtain ⟨hc2, hf2⟩ := bcell hb2
  have hz2_0 : w.heap.size < w2.heap.size := by have := hb2.size; first | omega | (simp at this; omega)
  have hz2_1 : w.heap.size + 1 < w2.heap.size := by have := hb2.size; first | omega | (simp at this; omega)
  have hz2_2 : w.heap.size + 2 < w2.heap.size := by have := hb2.size; first | omega | (simp at this; omega)
  go_wp2_with fail
  refine (boolValue_bit _ _).mono ?_
  rintro e w3 ⟨rfl, hb3⟩
  obtain ⟨hc3, hf3⟩ := bcell hb3
  have hz3_0 : w.heap.size < w3.heap.size := by have := hb3.size; first | omega | (simp at this; omega)
  have hz3_1 : w.heap.size + 1 < w3.heap.size := by have := hb3.size; first | omega | (simp at this; omega)
  have hz3_2 : w.heap.size + 2 < w3.heap.size := by have := hb3.size; first | omega | (simp at this; omega)
  go_wp2
  exact bodyPost_ret (v := (.tuple #[.agg #[.int .i64 2, .int .i64 (bitI false), .string ⟨#[]⟩], .int .i64 0])) (by simp [results, Tryd.results13, go_sem, *]) rfl ⟨rfl, (by repeat (first | exact Below.refl _ _ | refine nx_al ?_ | refine nx_set ?_ (by first | omega | (simp <;> omega)) | refine nx_drew ?_ | refine nx_trans ?_ (by assumption)))⟩

set_option maxHeartbeats 400000 in
theorem Binary_text_lt (op : ByteArray) (na : Int) (ta : ByteArray) (nb : Int) (tb : ByteArray) (w : World) (ho : op.size ≤ 65536) (hta : ta.size ≤ maxLen) (htb : tb.size ≤ maxLen) (hva : vokB 3 na ta = true) (hvb : vokB 3 nb tb = true) (ha6 : ta.size ≤ 60) (hb6 : tb.size ≤ 60) (h : op.toList = [60])  :
    Calls Tryd.prog 13 #[.string op, .agg #[.int .i64 3, .int .i64 na, .string ta], .agg #[.int .i64 3, .int .i64 nb, .string tb]] w fun e w' => e = .returned (.tuple #[.agg #[.int .i64 (textsR op.toList ta tb).k, .int .i64 (textsR op.toList ta tb).n, .string (textsR op.toList ta tb).t], .int .i64 (textsR op.toList ta tb).c]) ∧ Below w.heap.size w w' := by
  go_enter Tryd.func13, Tryd.ntmps13
  go_wp2_with fail
  refine (ValueOK_any 3 na ta _ hta).mono ?_
  rintro e w1 ⟨rfl, hb1⟩
  obtain ⟨hc1, hf1⟩ := bcell hb1
  have hz1_0 : w.heap.size < w1.heap.size := by have := hb1.size; first | omega | (simp at this; omega)
  have hz1_1 : w.heap.size + 1 < w1.heap.size := by have := hb1.size; first | omega | (simp at this; omega)
  have hz1_2 : w.heap.size + 2 < w1.heap.size := by have := hb1.size; first | omega | (simp at this; omega)
  go_wp2_with fail
  refine (ValueOK_any 3 nb tb _ htb).mono ?_
  rintro e w2 ⟨rfl, hb2⟩
  obtain ⟨hc2, hf2⟩ := bcell hb2
  have hz2_0 : w.heap.size < w2.heap.size := by have := hb2.size; first | omega | (simp at this; omega)
  have hz2_1 : w.heap.size + 1 < w2.heap.size := by have := hb2.size; first | omega | (simp at this; omega)
  have hz2_2 : w.heap.size + 2 < w2.heap.size := by have := hb2.size; first | omega | (simp at this; omega)
  go_wp2_with fail
  refine (binaryTexts_any op ta tb _ ha6 hb6).mono ?_
  rintro e w3 ⟨rfl, hb3⟩
  obtain ⟨hc3, hf3⟩ := bcell hb3
  have hz3_0 : w.heap.size < w3.heap.size := by have := hb3.size; first | omega | (simp at this; omega)
  have hz3_1 : w.heap.size + 1 < w3.heap.size := by have := hb3.size; first | omega | (simp at this; omega)
  have hz3_2 : w.heap.size + 2 < w3.heap.size := by have := hb3.size; first | omega | (simp at this; omega)
  go_wp2
  exact bodyPost_ret (v := (.tuple #[.agg #[.int .i64 (textsR op.toList ta tb).k, .int .i64 (textsR op.toList ta tb).n, .string (textsR op.toList ta tb).t], .int .i64 (textsR op.toList ta tb).c])) (by simp [results, Tryd.results13, go_sem, *]) rfl ⟨rfl, (by repeat (first | exact Below.refl _ _ | refine nx_al ?_ | refine nx_set ?_ (by first | omega | (simp <;> omega)) | refine nx_drew ?_ | refine nx_trans ?_ (by assumption)))⟩

set_option maxHeartbeats 400000 in
theorem Binary_type_lt_a (op : ByteArray) (ka na : Int) (ta : ByteArray) (kb nb : Int) (tb : ByteArray) (w : World) (ho : op.size ≤ 65536) (hta : ta.size ≤ maxLen) (htb : tb.size ≤ maxLen) (hva : vokB ka na ta = true) (hvb : vokB kb nb tb = true) (h : op.toList = [60]) (hk : (ka == 1) = false) (hk3 : (ka == 3) = false) :
    Calls Tryd.prog 13 #[.string op, .agg #[.int .i64 ka, .int .i64 na, .string ta], .agg #[.int .i64 kb, .int .i64 nb, .string tb]] w fun e w' => e = .returned (.tuple #[.agg #[.int .i64 0, .int .i64 0, .string ⟨#[]⟩], .int .i64 8]) ∧ Below w.heap.size w w' := by
  go_enter Tryd.func13, Tryd.ntmps13
  go_wp2_with fail
  refine (ValueOK_any ka na ta _ hta).mono ?_
  rintro e w1 ⟨rfl, hb1⟩
  obtain ⟨hc1, hf1⟩ := bcell hb1
  have hz1_0 : w.heap.size < w1.heap.size := by have := hb1.size; first | omega | (simp at this; omega)
  have hz1_1 : w.heap.size + 1 < w1.heap.size := by have := hb1.size; first | omega | (simp at this; omega)
  have hz1_2 : w.heap.size + 2 < w1.heap.size := by have := hb1.size; first | omega | (simp at this; omega)
  go_wp2_with fail
  refine (ValueOK_any kb nb tb _ htb).mono ?_
  rintro e w2 ⟨rfl, hb2⟩
  obtain ⟨hc2, hf2⟩ := bcell hb2
  have hz2_0 : w.heap.size < w2.heap.size := by have := hb2.size; first | omega | (simp at this; omega)
  have hz2_1 : w.heap.size + 1 < w2.heap.size := by have := hb2.size; first | omega | (simp at this; omega)
  have hz2_2 : w.heap.size + 2 < w2.heap.size := by have := hb2.size; first | omega | (simp at this; omega)
  go_wp2
  exact bodyPost_ret (v := (.tuple #[.agg #[.int .i64 0, .int .i64 0, .string ⟨#[]⟩], .int .i64 8])) (by simp [results, Tryd.results13, go_sem, *]) rfl ⟨rfl, (by repeat (first | exact Below.refl _ _ | refine nx_al ?_ | refine nx_set ?_ (by first | omega | (simp <;> omega)) | refine nx_drew ?_ | refine nx_trans ?_ (by assumption)))⟩

set_option maxHeartbeats 400000 in
theorem Binary_type_lt_b (op : ByteArray) (na : Int) (ta : ByteArray) (kb nb : Int) (tb : ByteArray) (w : World) (ho : op.size ≤ 65536) (hta : ta.size ≤ maxLen) (htb : tb.size ≤ maxLen) (hva : vokB 3 na ta = true) (hvb : vokB kb nb tb = true) (h : op.toList = [60]) (hk3 : (kb == 3) = false) :
    Calls Tryd.prog 13 #[.string op, .agg #[.int .i64 3, .int .i64 na, .string ta], .agg #[.int .i64 kb, .int .i64 nb, .string tb]] w fun e w' => e = .returned (.tuple #[.agg #[.int .i64 0, .int .i64 0, .string ⟨#[]⟩], .int .i64 8]) ∧ Below w.heap.size w w' := by
  go_enter Tryd.func13, Tryd.ntmps13
  go_wp2_with fail
  refine (ValueOK_any 3 na ta _ hta).mono ?_
  rintro e w1 ⟨rfl, hb1⟩
  obtain ⟨hc1, hf1⟩ := bcell hb1
  have hz1_0 : w.heap.size < w1.heap.size := by have := hb1.size; first | omega | (simp at this; omega)
  have hz1_1 : w.heap.size + 1 < w1.heap.size := by have := hb1.size; first | omega | (simp at this; omega)
  have hz1_2 : w.heap.size + 2 < w1.heap.size := by have := hb1.size; first | omega | (simp at this; omega)
  go_wp2_with fail
  refine (ValueOK_any kb nb tb _ htb).mono ?_
  rintro e w2 ⟨rfl, hb2⟩
  obtain ⟨hc2, hf2⟩ := bcell hb2
  have hz2_0 : w.heap.size < w2.heap.size := by have := hb2.size; first | omega | (simp at this; omega)
  have hz2_1 : w.heap.size + 1 < w2.heap.size := by have := hb2.size; first | omega | (simp at this; omega)
  have hz2_2 : w.heap.size + 2 < w2.heap.size := by have := hb2.size; first | omega | (simp at this; omega)
  go_wp2
  exact bodyPost_ret (v := (.tuple #[.agg #[.int .i64 0, .int .i64 0, .string ⟨#[]⟩], .int .i64 8])) (by simp [results, Tryd.results13, go_sem, *]) rfl ⟨rfl, (by repeat (first | exact Below.refl _ _ | refine nx_al ?_ | refine nx_set ?_ (by first | omega | (simp <;> omega)) | refine nx_drew ?_ | refine nx_trans ?_ (by assumption)))⟩

set_option maxHeartbeats 400000 in
theorem Binary_type_lt_c (op : ByteArray) (na : Int) (ta : ByteArray) (kb nb : Int) (tb : ByteArray) (w : World) (ho : op.size ≤ 65536) (hta : ta.size ≤ maxLen) (htb : tb.size ≤ maxLen) (hva : vokB 1 na ta = true) (hvb : vokB kb nb tb = true) (h : op.toList = [60]) (hk3 : (kb == 1) = false) :
    Calls Tryd.prog 13 #[.string op, .agg #[.int .i64 1, .int .i64 na, .string ta], .agg #[.int .i64 kb, .int .i64 nb, .string tb]] w fun e w' => e = .returned (.tuple #[.agg #[.int .i64 0, .int .i64 0, .string ⟨#[]⟩], .int .i64 8]) ∧ Below w.heap.size w w' := by
  go_enter Tryd.func13, Tryd.ntmps13
  go_wp2_with fail
  refine (ValueOK_any 1 na ta _ hta).mono ?_
  rintro e w1 ⟨rfl, hb1⟩
  obtain ⟨hc1, hf1⟩ := bcell hb1
  have hz1_0 : w.heap.size < w1.heap.size := by have := hb1.size; first | omega | (simp at this; omega)
  have hz1_1 : w.heap.size + 1 < w1.heap.size := by have := hb1.size; first | omega | (simp at this; omega)
  have hz1_2 : w.heap.size + 2 < w1.heap.size := by have := hb1.size; first | omega | (simp at this; omega)
  go_wp2_with fail
  refine (ValueOK_any kb nb tb _ htb).mono ?_
  rintro e w2 ⟨rfl, hb2⟩
  obtain ⟨hc2, hf2⟩ := bcell hb2
  have hz2_0 : w.heap.size < w2.heap.size := by have := hb2.size; first | omega | (simp at this; omega)
  have hz2_1 : w.heap.size + 1 < w2.heap.size := by have := hb2.size; first | omega | (simp at this; omega)
  have hz2_2 : w.heap.size + 2 < w2.heap.size := by have := hb2.size; first | omega | (simp at this; omega)
  go_wp2
  exact bodyPost_ret (v := (.tuple #[.agg #[.int .i64 0, .int .i64 0, .string ⟨#[]⟩], .int .i64 8])) (by simp [results, Tryd.results13, go_sem, *]) rfl ⟨rfl, (by repeat (first | exact Below.refl _ _ | refine nx_al ?_ | refine nx_set ?_ (by first | omega | (simp <;> omega)) | refine nx_drew ?_ | refine nx_trans ?_ (by assumption)))⟩

set_option maxHeartbeats 400000 in
theorem Binary_text_add (op : ByteArray) (na : Int) (ta : ByteArray) (nb : Int) (tb : ByteArray) (w : World) (ho : op.size ≤ 65536) (hta : ta.size ≤ maxLen) (htb : tb.size ≤ maxLen) (hva : vokB 3 na ta = true) (hvb : vokB 3 nb tb = true) (ha6 : ta.size ≤ 60) (hb6 : tb.size ≤ 60) (h : op.toList = [43])  :
    Calls Tryd.prog 13 #[.string op, .agg #[.int .i64 3, .int .i64 na, .string ta], .agg #[.int .i64 3, .int .i64 nb, .string tb]] w fun e w' => e = .returned (.tuple #[.agg #[.int .i64 (textsR op.toList ta tb).k, .int .i64 (textsR op.toList ta tb).n, .string (textsR op.toList ta tb).t], .int .i64 (textsR op.toList ta tb).c]) ∧ Below w.heap.size w w' := by
  go_enter Tryd.func13, Tryd.ntmps13
  go_wp2_with fail
  refine (ValueOK_any 3 na ta _ hta).mono ?_
  rintro e w1 ⟨rfl, hb1⟩
  obtain ⟨hc1, hf1⟩ := bcell hb1
  have hz1_0 : w.heap.size < w1.heap.size := by have := hb1.size; first | omega | (simp at this; omega)
  have hz1_1 : w.heap.size + 1 < w1.heap.size := by have := hb1.size; first | omega | (simp at this; omega)
  have hz1_2 : w.heap.size + 2 < w1.heap.size := by have := hb1.size; first | omega | (simp at this; omega)
  go_wp2_with fail
  refine (ValueOK_any 3 nb tb _ htb).mono ?_
  rintro e w2 ⟨rfl, hb2⟩
  obtain ⟨hc2, hf2⟩ := bcell hb2
  have hz2_0 : w.heap.size < w2.heap.size := by have := hb2.size; first | omega | (simp at this; omega)
  have hz2_1 : w.heap.size + 1 < w2.heap.size := by have := hb2.size; first | omega | (simp at this; omega)
  have hz2_2 : w.heap.size + 2 < w2.heap.size := by have := hb2.size; first | omega | (simp at this; omega)
  go_wp2_with fail
  refine (binaryTexts_any op ta tb _ ha6 hb6).mono ?_
  rintro e w3 ⟨rfl, hb3⟩
  obtain ⟨hc3, hf3⟩ := bcell hb3
  have hz3_0 : w.heap.size < w3.heap.size := by have := hb3.size; first | omega | (simp at this; omega)
  have hz3_1 : w.heap.size + 1 < w3.heap.size := by have := hb3.size; first | omega | (simp at this; omega)
  have hz3_2 : w.heap.size + 2 < w3.heap.size := by have := hb3.size; first | omega | (simp at this; omega)
  go_wp2
  exact bodyPost_ret (v := (.tuple #[.agg #[.int .i64 (textsR op.toList ta tb).k, .int .i64 (textsR op.toList ta tb).n, .string (textsR op.toList ta tb).t], .int .i64 (textsR op.toList ta tb).c])) (by simp [results, Tryd.results13, go_sem, *]) rfl ⟨rfl, (by repeat (first | exact Below.refl _ _ | refine nx_al ?_ | refine nx_set ?_ (by first | omega | (simp <;> omega)) | refine nx_drew ?_ | refine nx_trans ?_ (by assumption)))⟩

set_option maxHeartbeats 400000 in
theorem Binary_type_add_a (op : ByteArray) (ka na : Int) (ta : ByteArray) (kb nb : Int) (tb : ByteArray) (w : World) (ho : op.size ≤ 65536) (hta : ta.size ≤ maxLen) (htb : tb.size ≤ maxLen) (hva : vokB ka na ta = true) (hvb : vokB kb nb tb = true) (h : op.toList = [43]) (hk : (ka == 1) = false) (hk3 : (ka == 3) = false) :
    Calls Tryd.prog 13 #[.string op, .agg #[.int .i64 ka, .int .i64 na, .string ta], .agg #[.int .i64 kb, .int .i64 nb, .string tb]] w fun e w' => e = .returned (.tuple #[.agg #[.int .i64 0, .int .i64 0, .string ⟨#[]⟩], .int .i64 8]) ∧ Below w.heap.size w w' := by
  go_enter Tryd.func13, Tryd.ntmps13
  go_wp2_with fail
  refine (ValueOK_any ka na ta _ hta).mono ?_
  rintro e w1 ⟨rfl, hb1⟩
  obtain ⟨hc1, hf1⟩ := bcell hb1
  have hz1_0 : w.heap.size < w1.heap.size := by have := hb1.size; first | omega | (simp at this; omega)
  have hz1_1 : w.heap.size + 1 < w1.heap.size := by have := hb1.size; first | omega | (simp at this; omega)
  have hz1_2 : w.heap.size + 2 < w1.heap.size := by have := hb1.size; first | omega | (simp at this; omega)
  go_wp2_with fail
  refine (ValueOK_any kb nb tb _ htb).mono ?_
  rintro e w2 ⟨rfl, hb2⟩
  obtain ⟨hc2, hf2⟩ := bcell hb2
  have hz2_0 : w.heap.size < w2.heap.size := by have := hb2.size; first | omega | (simp at this; omega)
  have hz2_1 : w.heap.size + 1 < w2.heap.size := by have := hb2.size; first | omega | (simp at this; omega)
  have hz2_2 : w.heap.size + 2 < w2.heap.size := by have := hb2.size; first | omega | (simp at this; omega)
  go_wp2
  exact bodyPost_ret (v := (.tuple #[.agg #[.int .i64 0, .int .i64 0, .string ⟨#[]⟩], .int .i64 8])) (by simp [results, Tryd.results13, go_sem, *]) rfl ⟨rfl, (by repeat (first | exact Below.refl _ _ | refine nx_al ?_ | refine nx_set ?_ (by first | omega | (simp <;> omega)) | refine nx_drew ?_ | refine nx_trans ?_ (by assumption)))⟩

set_option maxHeartbeats 400000 in
theorem Binary_type_add_b (op : ByteArray) (na : Int) (ta : ByteArray) (kb nb : Int) (tb : ByteArray) (w : World) (ho : op.size ≤ 65536) (hta : ta.size ≤ maxLen) (htb : tb.size ≤ maxLen) (hva : vokB 3 na ta = true) (hvb : vokB kb nb tb = true) (h : op.toList = [43]) (hk3 : (kb == 3) = false) :
    Calls Tryd.prog 13 #[.string op, .agg #[.int .i64 3, .int .i64 na, .string ta], .agg #[.int .i64 kb, .int .i64 nb, .string tb]] w fun e w' => e = .returned (.tuple #[.agg #[.int .i64 0, .int .i64 0, .string ⟨#[]⟩], .int .i64 8]) ∧ Below w.heap.size w w' := by
  go_enter Tryd.func13, Tryd.ntmps13
  go_wp2_with fail
  refine (ValueOK_any 3 na ta _ hta).mono ?_
  rintro e w1 ⟨rfl, hb1⟩
  obtain ⟨hc1, hf1⟩ := bcell hb1
  have hz1_0 : w.heap.size < w1.heap.size := by have := hb1.size; first | omega | (simp at this; omega)
  have hz1_1 : w.heap.size + 1 < w1.heap.size := by have := hb1.size; first | omega | (simp at this; omega)
  have hz1_2 : w.heap.size + 2 < w1.heap.size := by have := hb1.size; first | omega | (simp at this; omega)
  go_wp2_with fail
  refine (ValueOK_any kb nb tb _ htb).mono ?_
  rintro e w2 ⟨rfl, hb2⟩
  obtain ⟨hc2, hf2⟩ := bcell hb2
  have hz2_0 : w.heap.size < w2.heap.size := by have := hb2.size; first | omega | (simp at this; omega)
  have hz2_1 : w.heap.size + 1 < w2.heap.size := by have := hb2.size; first | omega | (simp at this; omega)
  have hz2_2 : w.heap.size + 2 < w2.heap.size := by have := hb2.size; first | omega | (simp at this; omega)
  go_wp2
  exact bodyPost_ret (v := (.tuple #[.agg #[.int .i64 0, .int .i64 0, .string ⟨#[]⟩], .int .i64 8])) (by simp [results, Tryd.results13, go_sem, *]) rfl ⟨rfl, (by repeat (first | exact Below.refl _ _ | refine nx_al ?_ | refine nx_set ?_ (by first | omega | (simp <;> omega)) | refine nx_drew ?_ | refine nx_trans ?_ (by assumption)))⟩

set_option maxHeartbeats 400000 in
theorem Binary_type_add_c (op : ByteArray) (na : Int) (ta : ByteArray) (kb nb : Int) (tb : ByteArray) (w : World) (ho : op.size ≤ 65536) (hta : ta.size ≤ maxLen) (htb : tb.size ≤ maxLen) (hva : vokB 1 na ta = true) (hvb : vokB kb nb tb = true) (h : op.toList = [43]) (hk3 : (kb == 1) = false) :
    Calls Tryd.prog 13 #[.string op, .agg #[.int .i64 1, .int .i64 na, .string ta], .agg #[.int .i64 kb, .int .i64 nb, .string tb]] w fun e w' => e = .returned (.tuple #[.agg #[.int .i64 0, .int .i64 0, .string ⟨#[]⟩], .int .i64 8]) ∧ Below w.heap.size w w' := by
  go_enter Tryd.func13, Tryd.ntmps13
  go_wp2_with fail
  refine (ValueOK_any 1 na ta _ hta).mono ?_
  rintro e w1 ⟨rfl, hb1⟩
  obtain ⟨hc1, hf1⟩ := bcell hb1
  have hz1_0 : w.heap.size < w1.heap.size := by have := hb1.size; first | omega | (simp at this; omega)
  have hz1_1 : w.heap.size + 1 < w1.heap.size := by have := hb1.size; first | omega | (simp at this; omega)
  have hz1_2 : w.heap.size + 2 < w1.heap.size := by have := hb1.size; first | omega | (simp at this; omega)
  go_wp2_with fail
  refine (ValueOK_any kb nb tb _ htb).mono ?_
  rintro e w2 ⟨rfl, hb2⟩
  obtain ⟨hc2, hf2⟩ := bcell hb2
  have hz2_0 : w.heap.size < w2.heap.size := by have := hb2.size; first | omega | (simp at this; omega)
  have hz2_1 : w.heap.size + 1 < w2.heap.size := by have := hb2.size; first | omega | (simp at this; omega)
  have hz2_2 : w.heap.size + 2 < w2.heap.size := by have := hb2.size; first | omega | (simp at this; omega)
  go_wp2
  exact bodyPost_ret (v := (.tuple #[.agg #[.int .i64 0, .int .i64 0, .string ⟨#[]⟩], .int .i64 8])) (by simp [results, Tryd.results13, go_sem, *]) rfl ⟨rfl, (by repeat (first | exact Below.refl _ _ | refine nx_al ?_ | refine nx_set ?_ (by first | omega | (simp <;> omega)) | refine nx_drew ?_ | refine nx_trans ?_ (by assumption)))⟩

set_option maxHeartbeats 400000 in
theorem Binary_type_sub_a (op : ByteArray) (ka na : Int) (ta : ByteArray) (kb nb : Int) (tb : ByteArray) (w : World) (ho : op.size ≤ 65536) (hta : ta.size ≤ maxLen) (htb : tb.size ≤ maxLen) (hva : vokB ka na ta = true) (hvb : vokB kb nb tb = true) (h : op.toList = [45]) (hk : (ka == 1) = false) :
    Calls Tryd.prog 13 #[.string op, .agg #[.int .i64 ka, .int .i64 na, .string ta], .agg #[.int .i64 kb, .int .i64 nb, .string tb]] w fun e w' => e = .returned (.tuple #[.agg #[.int .i64 0, .int .i64 0, .string ⟨#[]⟩], .int .i64 8]) ∧ Below w.heap.size w w' := by
  go_enter Tryd.func13, Tryd.ntmps13
  go_wp2_with fail
  refine (ValueOK_any ka na ta _ hta).mono ?_
  rintro e w1 ⟨rfl, hb1⟩
  obtain ⟨hc1, hf1⟩ := bcell hb1
  have hz1_0 : w.heap.size < w1.heap.size := by have := hb1.size; first | omega | (simp at this; omega)
  have hz1_1 : w.heap.size + 1 < w1.heap.size := by have := hb1.size; first | omega | (simp at this; omega)
  have hz1_2 : w.heap.size + 2 < w1.heap.size := by have := hb1.size; first | omega | (simp at this; omega)
  go_wp2_with fail
  refine (ValueOK_any kb nb tb _ htb).mono ?_
  rintro e w2 ⟨rfl, hb2⟩
  obtain ⟨hc2, hf2⟩ := bcell hb2
  have hz2_0 : w.heap.size < w2.heap.size := by have := hb2.size; first | omega | (simp at this; omega)
  have hz2_1 : w.heap.size + 1 < w2.heap.size := by have := hb2.size; first | omega | (simp at this; omega)
  have hz2_2 : w.heap.size + 2 < w2.heap.size := by have := hb2.size; first | omega | (simp at this; omega)
  go_wp2
  exact bodyPost_ret (v := (.tuple #[.agg #[.int .i64 0, .int .i64 0, .string ⟨#[]⟩], .int .i64 8])) (by simp [results, Tryd.results13, go_sem, *]) rfl ⟨rfl, (by repeat (first | exact Below.refl _ _ | refine nx_al ?_ | refine nx_set ?_ (by first | omega | (simp <;> omega)) | refine nx_drew ?_ | refine nx_trans ?_ (by assumption)))⟩

set_option maxHeartbeats 400000 in
theorem Binary_type_sub_c (op : ByteArray) (na : Int) (ta : ByteArray) (kb nb : Int) (tb : ByteArray) (w : World) (ho : op.size ≤ 65536) (hta : ta.size ≤ maxLen) (htb : tb.size ≤ maxLen) (hva : vokB 1 na ta = true) (hvb : vokB kb nb tb = true) (h : op.toList = [45]) (hk3 : (kb == 1) = false) :
    Calls Tryd.prog 13 #[.string op, .agg #[.int .i64 1, .int .i64 na, .string ta], .agg #[.int .i64 kb, .int .i64 nb, .string tb]] w fun e w' => e = .returned (.tuple #[.agg #[.int .i64 0, .int .i64 0, .string ⟨#[]⟩], .int .i64 8]) ∧ Below w.heap.size w w' := by
  go_enter Tryd.func13, Tryd.ntmps13
  go_wp2_with fail
  refine (ValueOK_any 1 na ta _ hta).mono ?_
  rintro e w1 ⟨rfl, hb1⟩
  obtain ⟨hc1, hf1⟩ := bcell hb1
  have hz1_0 : w.heap.size < w1.heap.size := by have := hb1.size; first | omega | (simp at this; omega)
  have hz1_1 : w.heap.size + 1 < w1.heap.size := by have := hb1.size; first | omega | (simp at this; omega)
  have hz1_2 : w.heap.size + 2 < w1.heap.size := by have := hb1.size; first | omega | (simp at this; omega)
  go_wp2_with fail
  refine (ValueOK_any kb nb tb _ htb).mono ?_
  rintro e w2 ⟨rfl, hb2⟩
  obtain ⟨hc2, hf2⟩ := bcell hb2
  have hz2_0 : w.heap.size < w2.heap.size := by have := hb2.size; first | omega | (simp at this; omega)
  have hz2_1 : w.heap.size + 1 < w2.heap.size := by have := hb2.size; first | omega | (simp at this; omega)
  have hz2_2 : w.heap.size + 2 < w2.heap.size := by have := hb2.size; first | omega | (simp at this; omega)
  go_wp2
  exact bodyPost_ret (v := (.tuple #[.agg #[.int .i64 0, .int .i64 0, .string ⟨#[]⟩], .int .i64 8])) (by simp [results, Tryd.results13, go_sem, *]) rfl ⟨rfl, (by repeat (first | exact Below.refl _ _ | refine nx_al ?_ | refine nx_set ?_ (by first | omega | (simp <;> omega)) | refine nx_drew ?_ | refine nx_trans ?_ (by assumption)))⟩

set_option maxHeartbeats 400000 in
theorem Binary_type_mul_a (op : ByteArray) (ka na : Int) (ta : ByteArray) (kb nb : Int) (tb : ByteArray) (w : World) (ho : op.size ≤ 65536) (hta : ta.size ≤ maxLen) (htb : tb.size ≤ maxLen) (hva : vokB ka na ta = true) (hvb : vokB kb nb tb = true) (h : op.toList = [42]) (hk : (ka == 1) = false) :
    Calls Tryd.prog 13 #[.string op, .agg #[.int .i64 ka, .int .i64 na, .string ta], .agg #[.int .i64 kb, .int .i64 nb, .string tb]] w fun e w' => e = .returned (.tuple #[.agg #[.int .i64 0, .int .i64 0, .string ⟨#[]⟩], .int .i64 8]) ∧ Below w.heap.size w w' := by
  go_enter Tryd.func13, Tryd.ntmps13
  go_wp2_with fail
  refine (ValueOK_any ka na ta _ hta).mono ?_
  rintro e w1 ⟨rfl, hb1⟩
  obtain ⟨hc1, hf1⟩ := bcell hb1
  have hz1_0 : w.heap.size < w1.heap.size := by have := hb1.size; first | omega | (simp at this; omega)
  have hz1_1 : w.heap.size + 1 < w1.heap.size := by have := hb1.size; first | omega | (simp at this; omega)
  have hz1_2 : w.heap.size + 2 < w1.heap.size := by have := hb1.size; first | omega | (simp at this; omega)
  go_wp2_with fail
  refine (ValueOK_any kb nb tb _ htb).mono ?_
  rintro e w2 ⟨rfl, hb2⟩
  obtain ⟨hc2, hf2⟩ := bcell hb2
  have hz2_0 : w.heap.size < w2.heap.size := by have := hb2.size; first | omega | (simp at this; omega)
  have hz2_1 : w.heap.size + 1 < w2.heap.size := by have := hb2.size; first | omega | (simp at this; omega)
  have hz2_2 : w.heap.size + 2 < w2.heap.size := by have := hb2.size; first | omega | (simp at this; omega)
  go_wp2
  exact bodyPost_ret (v := (.tuple #[.agg #[.int .i64 0, .int .i64 0, .string ⟨#[]⟩], .int .i64 8])) (by simp [results, Tryd.results13, go_sem, *]) rfl ⟨rfl, (by repeat (first | exact Below.refl _ _ | refine nx_al ?_ | refine nx_set ?_ (by first | omega | (simp <;> omega)) | refine nx_drew ?_ | refine nx_trans ?_ (by assumption)))⟩

set_option maxHeartbeats 400000 in
theorem Binary_type_mul_c (op : ByteArray) (na : Int) (ta : ByteArray) (kb nb : Int) (tb : ByteArray) (w : World) (ho : op.size ≤ 65536) (hta : ta.size ≤ maxLen) (htb : tb.size ≤ maxLen) (hva : vokB 1 na ta = true) (hvb : vokB kb nb tb = true) (h : op.toList = [42]) (hk3 : (kb == 1) = false) :
    Calls Tryd.prog 13 #[.string op, .agg #[.int .i64 1, .int .i64 na, .string ta], .agg #[.int .i64 kb, .int .i64 nb, .string tb]] w fun e w' => e = .returned (.tuple #[.agg #[.int .i64 0, .int .i64 0, .string ⟨#[]⟩], .int .i64 8]) ∧ Below w.heap.size w w' := by
  go_enter Tryd.func13, Tryd.ntmps13
  go_wp2_with fail
  refine (ValueOK_any 1 na ta _ hta).mono ?_
  rintro e w1 ⟨rfl, hb1⟩
  obtain ⟨hc1, hf1⟩ := bcell hb1
  have hz1_0 : w.heap.size < w1.heap.size := by have := hb1.size; first | omega | (simp at this; omega)
  have hz1_1 : w.heap.size + 1 < w1.heap.size := by have := hb1.size; first | omega | (simp at this; omega)
  have hz1_2 : w.heap.size + 2 < w1.heap.size := by have := hb1.size; first | omega | (simp at this; omega)
  go_wp2_with fail
  refine (ValueOK_any kb nb tb _ htb).mono ?_
  rintro e w2 ⟨rfl, hb2⟩
  obtain ⟨hc2, hf2⟩ := bcell hb2
  have hz2_0 : w.heap.size < w2.heap.size := by have := hb2.size; first | omega | (simp at this; omega)
  have hz2_1 : w.heap.size + 1 < w2.heap.size := by have := hb2.size; first | omega | (simp at this; omega)
  have hz2_2 : w.heap.size + 2 < w2.heap.size := by have := hb2.size; first | omega | (simp at this; omega)
  go_wp2
  exact bodyPost_ret (v := (.tuple #[.agg #[.int .i64 0, .int .i64 0, .string ⟨#[]⟩], .int .i64 8])) (by simp [results, Tryd.results13, go_sem, *]) rfl ⟨rfl, (by repeat (first | exact Below.refl _ _ | refine nx_al ?_ | refine nx_set ?_ (by first | omega | (simp <;> omega)) | refine nx_drew ?_ | refine nx_trans ?_ (by assumption)))⟩

set_option maxHeartbeats 400000 in
theorem Binary_type_quo_a (op : ByteArray) (ka na : Int) (ta : ByteArray) (kb nb : Int) (tb : ByteArray) (w : World) (ho : op.size ≤ 65536) (hta : ta.size ≤ maxLen) (htb : tb.size ≤ maxLen) (hva : vokB ka na ta = true) (hvb : vokB kb nb tb = true) (h : op.toList = [47]) (hk : (ka == 1) = false) :
    Calls Tryd.prog 13 #[.string op, .agg #[.int .i64 ka, .int .i64 na, .string ta], .agg #[.int .i64 kb, .int .i64 nb, .string tb]] w fun e w' => e = .returned (.tuple #[.agg #[.int .i64 0, .int .i64 0, .string ⟨#[]⟩], .int .i64 8]) ∧ Below w.heap.size w w' := by
  go_enter Tryd.func13, Tryd.ntmps13
  go_wp2_with fail
  refine (ValueOK_any ka na ta _ hta).mono ?_
  rintro e w1 ⟨rfl, hb1⟩
  obtain ⟨hc1, hf1⟩ := bcell hb1
  have hz1_0 : w.heap.size < w1.heap.size := by have := hb1.size; first | omega | (simp at this; omega)
  have hz1_1 : w.heap.size + 1 < w1.heap.size := by have := hb1.size; first | omega | (simp at this; omega)
  have hz1_2 : w.heap.size + 2 < w1.heap.size := by have := hb1.size; first | omega | (simp at this; omega)
  go_wp2_with fail
  refine (ValueOK_any kb nb tb _ htb).mono ?_
  rintro e w2 ⟨rfl, hb2⟩
  obtain ⟨hc2, hf2⟩ := bcell hb2
  have hz2_0 : w.heap.size < w2.heap.size := by have := hb2.size; first | omega | (simp at this; omega)
  have hz2_1 : w.heap.size + 1 < w2.heap.size := by have := hb2.size; first | omega | (simp at this; omega)
  have hz2_2 : w.heap.size + 2 < w2.heap.size := by have := hb2.size; first | omega | (simp at this; omega)
  go_wp2
  exact bodyPost_ret (v := (.tuple #[.agg #[.int .i64 0, .int .i64 0, .string ⟨#[]⟩], .int .i64 8])) (by simp [results, Tryd.results13, go_sem, *]) rfl ⟨rfl, (by repeat (first | exact Below.refl _ _ | refine nx_al ?_ | refine nx_set ?_ (by first | omega | (simp <;> omega)) | refine nx_drew ?_ | refine nx_trans ?_ (by assumption)))⟩

set_option maxHeartbeats 400000 in
theorem Binary_type_quo_c (op : ByteArray) (na : Int) (ta : ByteArray) (kb nb : Int) (tb : ByteArray) (w : World) (ho : op.size ≤ 65536) (hta : ta.size ≤ maxLen) (htb : tb.size ≤ maxLen) (hva : vokB 1 na ta = true) (hvb : vokB kb nb tb = true) (h : op.toList = [47]) (hk3 : (kb == 1) = false) :
    Calls Tryd.prog 13 #[.string op, .agg #[.int .i64 1, .int .i64 na, .string ta], .agg #[.int .i64 kb, .int .i64 nb, .string tb]] w fun e w' => e = .returned (.tuple #[.agg #[.int .i64 0, .int .i64 0, .string ⟨#[]⟩], .int .i64 8]) ∧ Below w.heap.size w w' := by
  go_enter Tryd.func13, Tryd.ntmps13
  go_wp2_with fail
  refine (ValueOK_any 1 na ta _ hta).mono ?_
  rintro e w1 ⟨rfl, hb1⟩
  obtain ⟨hc1, hf1⟩ := bcell hb1
  have hz1_0 : w.heap.size < w1.heap.size := by have := hb1.size; first | omega | (simp at this; omega)
  have hz1_1 : w.heap.size + 1 < w1.heap.size := by have := hb1.size; first | omega | (simp at this; omega)
  have hz1_2 : w.heap.size + 2 < w1.heap.size := by have := hb1.size; first | omega | (simp at this; omega)
  go_wp2_with fail
  refine (ValueOK_any kb nb tb _ htb).mono ?_
  rintro e w2 ⟨rfl, hb2⟩
  obtain ⟨hc2, hf2⟩ := bcell hb2
  have hz2_0 : w.heap.size < w2.heap.size := by have := hb2.size; first | omega | (simp at this; omega)
  have hz2_1 : w.heap.size + 1 < w2.heap.size := by have := hb2.size; first | omega | (simp at this; omega)
  have hz2_2 : w.heap.size + 2 < w2.heap.size := by have := hb2.size; first | omega | (simp at this; omega)
  go_wp2
  exact bodyPost_ret (v := (.tuple #[.agg #[.int .i64 0, .int .i64 0, .string ⟨#[]⟩], .int .i64 8])) (by simp [results, Tryd.results13, go_sem, *]) rfl ⟨rfl, (by repeat (first | exact Below.refl _ _ | refine nx_al ?_ | refine nx_set ?_ (by first | omega | (simp <;> omega)) | refine nx_drew ?_ | refine nx_trans ?_ (by assumption)))⟩

set_option maxHeartbeats 400000 in
theorem Binary_type_rem_a (op : ByteArray) (ka na : Int) (ta : ByteArray) (kb nb : Int) (tb : ByteArray) (w : World) (ho : op.size ≤ 65536) (hta : ta.size ≤ maxLen) (htb : tb.size ≤ maxLen) (hva : vokB ka na ta = true) (hvb : vokB kb nb tb = true) (h : op.toList = [37]) (hk : (ka == 1) = false) :
    Calls Tryd.prog 13 #[.string op, .agg #[.int .i64 ka, .int .i64 na, .string ta], .agg #[.int .i64 kb, .int .i64 nb, .string tb]] w fun e w' => e = .returned (.tuple #[.agg #[.int .i64 0, .int .i64 0, .string ⟨#[]⟩], .int .i64 8]) ∧ Below w.heap.size w w' := by
  go_enter Tryd.func13, Tryd.ntmps13
  go_wp2_with fail
  refine (ValueOK_any ka na ta _ hta).mono ?_
  rintro e w1 ⟨rfl, hb1⟩
  obtain ⟨hc1, hf1⟩ := bcell hb1
  have hz1_0 : w.heap.size < w1.heap.size := by have := hb1.size; first | omega | (simp at this; omega)
  have hz1_1 : w.heap.size + 1 < w1.heap.size := by have := hb1.size; first | omega | (simp at this; omega)
  have hz1_2 : w.heap.size + 2 < w1.heap.size := by have := hb1.size; first | omega | (simp at this; omega)
  go_wp2_with fail
  refine (ValueOK_any kb nb tb _ htb).mono ?_
  rintro e w2 ⟨rfl, hb2⟩
  obtain ⟨hc2, hf2⟩ := bcell hb2
  have hz2_0 : w.heap.size < w2.heap.size := by have := hb2.size; first | omega | (simp at this; omega)
  have hz2_1 : w.heap.size + 1 < w2.heap.size := by have := hb2.size; first | omega | (simp at this; omega)
  have hz2_2 : w.heap.size + 2 < w2.heap.size := by have := hb2.size; first | omega | (simp at this; omega)
  go_wp2
  exact bodyPost_ret (v := (.tuple #[.agg #[.int .i64 0, .int .i64 0, .string ⟨#[]⟩], .int .i64 8])) (by simp [results, Tryd.results13, go_sem, *]) rfl ⟨rfl, (by repeat (first | exact Below.refl _ _ | refine nx_al ?_ | refine nx_set ?_ (by first | omega | (simp <;> omega)) | refine nx_drew ?_ | refine nx_trans ?_ (by assumption)))⟩

set_option maxHeartbeats 400000 in
theorem Binary_type_rem_c (op : ByteArray) (na : Int) (ta : ByteArray) (kb nb : Int) (tb : ByteArray) (w : World) (ho : op.size ≤ 65536) (hta : ta.size ≤ maxLen) (htb : tb.size ≤ maxLen) (hva : vokB 1 na ta = true) (hvb : vokB kb nb tb = true) (h : op.toList = [37]) (hk3 : (kb == 1) = false) :
    Calls Tryd.prog 13 #[.string op, .agg #[.int .i64 1, .int .i64 na, .string ta], .agg #[.int .i64 kb, .int .i64 nb, .string tb]] w fun e w' => e = .returned (.tuple #[.agg #[.int .i64 0, .int .i64 0, .string ⟨#[]⟩], .int .i64 8]) ∧ Below w.heap.size w w' := by
  go_enter Tryd.func13, Tryd.ntmps13
  go_wp2_with fail
  refine (ValueOK_any 1 na ta _ hta).mono ?_
  rintro e w1 ⟨rfl, hb1⟩
  obtain ⟨hc1, hf1⟩ := bcell hb1
  have hz1_0 : w.heap.size < w1.heap.size := by have := hb1.size; first | omega | (simp at this; omega)
  have hz1_1 : w.heap.size + 1 < w1.heap.size := by have := hb1.size; first | omega | (simp at this; omega)
  have hz1_2 : w.heap.size + 2 < w1.heap.size := by have := hb1.size; first | omega | (simp at this; omega)
  go_wp2_with fail
  refine (ValueOK_any kb nb tb _ htb).mono ?_
  rintro e w2 ⟨rfl, hb2⟩
  obtain ⟨hc2, hf2⟩ := bcell hb2
  have hz2_0 : w.heap.size < w2.heap.size := by have := hb2.size; first | omega | (simp at this; omega)
  have hz2_1 : w.heap.size + 1 < w2.heap.size := by have := hb2.size; first | omega | (simp at this; omega)
  have hz2_2 : w.heap.size + 2 < w2.heap.size := by have := hb2.size; first | omega | (simp at this; omega)
  go_wp2
  exact bodyPost_ret (v := (.tuple #[.agg #[.int .i64 0, .int .i64 0, .string ⟨#[]⟩], .int .i64 8])) (by simp [results, Tryd.results13, go_sem, *]) rfl ⟨rfl, (by repeat (first | exact Below.refl _ _ | refine nx_al ?_ | refine nx_set ?_ (by first | omega | (simp <;> omega)) | refine nx_drew ?_ | refine nx_trans ?_ (by assumption)))⟩

set_option maxHeartbeats 400000 in
theorem Binary_int_lt (op : ByteArray) (na : Int) (ta : ByteArray) (nb : Int) (tb : ByteArray) (w : World) (ho : op.size ≤ 65536) (hta : ta.size ≤ maxLen) (htb : tb.size ≤ maxLen) (hva : vokB 1 na ta = true) (hvb : vokB 1 nb tb = true) (hop : Hid (isOp op.toList)) (ha1 : -2147483648 ≤ na) (ha2 : na ≤ 2147483647) (hb1' : -2147483648 ≤ nb) (hb2' : nb ≤ 2147483647) (h : op.toList = [60])  :
    Calls Tryd.prog 13 #[.string op, .agg #[.int .i64 1, .int .i64 na, .string ta], .agg #[.int .i64 1, .int .i64 nb, .string tb]] w fun e w' => e = .returned (.tuple #[.agg #[.int .i64 (intsR op.toList na nb).k, .int .i64 (intsR op.toList na nb).n, .string (intsR op.toList na nb).t], .int .i64 (intsR op.toList na nb).c]) ∧ Below w.heap.size w w' := by
  go_enter Tryd.func13, Tryd.ntmps13
  go_wp2_with fail
  refine (ValueOK_any 1 na ta _ hta).mono ?_
  rintro e w1 ⟨rfl, hb1⟩
  obtain ⟨hc1, hf1⟩ := bcell hb1
  have hz1_0 : w.heap.size < w1.heap.size := by have := hb1.size; first | omega | (simp at this; omega)
  have hz1_1 : w.heap.size + 1 < w1.heap.size := by have := hb1.size; first | omega | (simp at this; omega)
  have hz1_2 : w.heap.size + 2 < w1.heap.size := by have := hb1.size; first | omega | (simp at this; omega)
  go_wp2_with fail
  refine (ValueOK_any 1 nb tb _ htb).mono ?_
  rintro e w2 ⟨rfl, hb2⟩
  obtain ⟨hc2, hf2⟩ := bcell hb2
  have hz2_0 : w.heap.size < w2.heap.size := by have := hb2.size; first | omega | (simp at this; omega)
  have hz2_1 : w.heap.size + 1 < w2.heap.size := by have := hb2.size; first | omega | (simp at this; omega)
  have hz2_2 : w.heap.size + 2 < w2.heap.size := by have := hb2.size; first | omega | (simp at this; omega)
  go_wp2_with fail
  refine (binaryInts_any op na nb _ (unhide hop) ha1 ha2 hb1' hb2').mono ?_
  rintro e w3 ⟨rfl, hb3⟩
  obtain ⟨hc3, hf3⟩ := bcell hb3
  have hz3_0 : w.heap.size < w3.heap.size := by have := hb3.size; first | omega | (simp at this; omega)
  have hz3_1 : w.heap.size + 1 < w3.heap.size := by have := hb3.size; first | omega | (simp at this; omega)
  have hz3_2 : w.heap.size + 2 < w3.heap.size := by have := hb3.size; first | omega | (simp at this; omega)
  go_wp2
  exact bodyPost_ret (v := (.tuple #[.agg #[.int .i64 (intsR op.toList na nb).k, .int .i64 (intsR op.toList na nb).n, .string (intsR op.toList na nb).t], .int .i64 (intsR op.toList na nb).c])) (by simp [results, Tryd.results13, go_sem, *]) rfl ⟨rfl, (by repeat (first | exact Below.refl _ _ | refine nx_al ?_ | refine nx_set ?_ (by first | omega | (simp <;> omega)) | refine nx_drew ?_ | refine nx_trans ?_ (by assumption)))⟩

set_option maxHeartbeats 400000 in
theorem Binary_int_add (op : ByteArray) (na : Int) (ta : ByteArray) (nb : Int) (tb : ByteArray) (w : World) (ho : op.size ≤ 65536) (hta : ta.size ≤ maxLen) (htb : tb.size ≤ maxLen) (hva : vokB 1 na ta = true) (hvb : vokB 1 nb tb = true) (hop : Hid (isOp op.toList)) (ha1 : -2147483648 ≤ na) (ha2 : na ≤ 2147483647) (hb1' : -2147483648 ≤ nb) (hb2' : nb ≤ 2147483647) (h : op.toList = [43])  :
    Calls Tryd.prog 13 #[.string op, .agg #[.int .i64 1, .int .i64 na, .string ta], .agg #[.int .i64 1, .int .i64 nb, .string tb]] w fun e w' => e = .returned (.tuple #[.agg #[.int .i64 (intsR op.toList na nb).k, .int .i64 (intsR op.toList na nb).n, .string (intsR op.toList na nb).t], .int .i64 (intsR op.toList na nb).c]) ∧ Below w.heap.size w w' := by
  go_enter Tryd.func13, Tryd.ntmps13
  go_wp2_with fail
  refine (ValueOK_any 1 na ta _ hta).mono ?_
  rintro e w1 ⟨rfl, hb1⟩
  obtain ⟨hc1, hf1⟩ := bcell hb1
  have hz1_0 : w.heap.size < w1.heap.size := by have := hb1.size; first | omega | (simp at this; omega)
  have hz1_1 : w.heap.size + 1 < w1.heap.size := by have := hb1.size; first | omega | (simp at this; omega)
  have hz1_2 : w.heap.size + 2 < w1.heap.size := by have := hb1.size; first | omega | (simp at this; omega)
  go_wp2_with fail
  refine (ValueOK_any 1 nb tb _ htb).mono ?_
  rintro e w2 ⟨rfl, hb2⟩
  obtain ⟨hc2, hf2⟩ := bcell hb2
  have hz2_0 : w.heap.size < w2.heap.size := by have := hb2.size; first | omega | (simp at this; omega)
  have hz2_1 : w.heap.size + 1 < w2.heap.size := by have := hb2.size; first | omega | (simp at this; omega)
  have hz2_2 : w.heap.size + 2 < w2.heap.size := by have := hb2.size; first | omega | (simp at this; omega)
  go_wp2_with fail
  refine (binaryInts_any op na nb _ (unhide hop) ha1 ha2 hb1' hb2').mono ?_
  rintro e w3 ⟨rfl, hb3⟩
  obtain ⟨hc3, hf3⟩ := bcell hb3
  have hz3_0 : w.heap.size < w3.heap.size := by have := hb3.size; first | omega | (simp at this; omega)
  have hz3_1 : w.heap.size + 1 < w3.heap.size := by have := hb3.size; first | omega | (simp at this; omega)
  have hz3_2 : w.heap.size + 2 < w3.heap.size := by have := hb3.size; first | omega | (simp at this; omega)
  go_wp2
  exact bodyPost_ret (v := (.tuple #[.agg #[.int .i64 (intsR op.toList na nb).k, .int .i64 (intsR op.toList na nb).n, .string (intsR op.toList na nb).t], .int .i64 (intsR op.toList na nb).c])) (by simp [results, Tryd.results13, go_sem, *]) rfl ⟨rfl, (by repeat (first | exact Below.refl _ _ | refine nx_al ?_ | refine nx_set ?_ (by first | omega | (simp <;> omega)) | refine nx_drew ?_ | refine nx_trans ?_ (by assumption)))⟩

set_option maxHeartbeats 400000 in
theorem Binary_int_sub (op : ByteArray) (na : Int) (ta : ByteArray) (nb : Int) (tb : ByteArray) (w : World) (ho : op.size ≤ 65536) (hta : ta.size ≤ maxLen) (htb : tb.size ≤ maxLen) (hva : vokB 1 na ta = true) (hvb : vokB 1 nb tb = true) (hop : Hid (isOp op.toList)) (ha1 : -2147483648 ≤ na) (ha2 : na ≤ 2147483647) (hb1' : -2147483648 ≤ nb) (hb2' : nb ≤ 2147483647) (h : op.toList = [45])  :
    Calls Tryd.prog 13 #[.string op, .agg #[.int .i64 1, .int .i64 na, .string ta], .agg #[.int .i64 1, .int .i64 nb, .string tb]] w fun e w' => e = .returned (.tuple #[.agg #[.int .i64 (intsR op.toList na nb).k, .int .i64 (intsR op.toList na nb).n, .string (intsR op.toList na nb).t], .int .i64 (intsR op.toList na nb).c]) ∧ Below w.heap.size w w' := by
  go_enter Tryd.func13, Tryd.ntmps13
  go_wp2_with fail
  refine (ValueOK_any 1 na ta _ hta).mono ?_
  rintro e w1 ⟨rfl, hb1⟩
  obtain ⟨hc1, hf1⟩ := bcell hb1
  have hz1_0 : w.heap.size < w1.heap.size := by have := hb1.size; first | omega | (simp at this; omega)
  have hz1_1 : w.heap.size + 1 < w1.heap.size := by have := hb1.size; first | omega | (simp at this; omega)
  have hz1_2 : w.heap.size + 2 < w1.heap.size := by have := hb1.size; first | omega | (simp at this; omega)
  go_wp2_with fail
  refine (ValueOK_any 1 nb tb _ htb).mono ?_
  rintro e w2 ⟨rfl, hb2⟩
  obtain ⟨hc2, hf2⟩ := bcell hb2
  have hz2_0 : w.heap.size < w2.heap.size := by have := hb2.size; first | omega | (simp at this; omega)
  have hz2_1 : w.heap.size + 1 < w2.heap.size := by have := hb2.size; first | omega | (simp at this; omega)
  have hz2_2 : w.heap.size + 2 < w2.heap.size := by have := hb2.size; first | omega | (simp at this; omega)
  go_wp2_with fail
  refine (binaryInts_any op na nb _ (unhide hop) ha1 ha2 hb1' hb2').mono ?_
  rintro e w3 ⟨rfl, hb3⟩
  obtain ⟨hc3, hf3⟩ := bcell hb3
  have hz3_0 : w.heap.size < w3.heap.size := by have := hb3.size; first | omega | (simp at this; omega)
  have hz3_1 : w.heap.size + 1 < w3.heap.size := by have := hb3.size; first | omega | (simp at this; omega)
  have hz3_2 : w.heap.size + 2 < w3.heap.size := by have := hb3.size; first | omega | (simp at this; omega)
  go_wp2
  exact bodyPost_ret (v := (.tuple #[.agg #[.int .i64 (intsR op.toList na nb).k, .int .i64 (intsR op.toList na nb).n, .string (intsR op.toList na nb).t], .int .i64 (intsR op.toList na nb).c])) (by simp [results, Tryd.results13, go_sem, *]) rfl ⟨rfl, (by repeat (first | exact Below.refl _ _ | refine nx_al ?_ | refine nx_set ?_ (by first | omega | (simp <;> omega)) | refine nx_drew ?_ | refine nx_trans ?_ (by assumption)))⟩

set_option maxHeartbeats 400000 in
theorem Binary_int_mul (op : ByteArray) (na : Int) (ta : ByteArray) (nb : Int) (tb : ByteArray) (w : World) (ho : op.size ≤ 65536) (hta : ta.size ≤ maxLen) (htb : tb.size ≤ maxLen) (hva : vokB 1 na ta = true) (hvb : vokB 1 nb tb = true) (hop : Hid (isOp op.toList)) (ha1 : -2147483648 ≤ na) (ha2 : na ≤ 2147483647) (hb1' : -2147483648 ≤ nb) (hb2' : nb ≤ 2147483647) (h : op.toList = [42])  :
    Calls Tryd.prog 13 #[.string op, .agg #[.int .i64 1, .int .i64 na, .string ta], .agg #[.int .i64 1, .int .i64 nb, .string tb]] w fun e w' => e = .returned (.tuple #[.agg #[.int .i64 (intsR op.toList na nb).k, .int .i64 (intsR op.toList na nb).n, .string (intsR op.toList na nb).t], .int .i64 (intsR op.toList na nb).c]) ∧ Below w.heap.size w w' := by
  go_enter Tryd.func13, Tryd.ntmps13
  go_wp2_with fail
  refine (ValueOK_any 1 na ta _ hta).mono ?_
  rintro e w1 ⟨rfl, hb1⟩
  obtain ⟨hc1, hf1⟩ := bcell hb1
  have hz1_0 : w.heap.size < w1.heap.size := by have := hb1.size; first | omega | (simp at this; omega)
  have hz1_1 : w.heap.size + 1 < w1.heap.size := by have := hb1.size; first | omega | (simp at this; omega)
  have hz1_2 : w.heap.size + 2 < w1.heap.size := by have := hb1.size; first | omega | (simp at this; omega)
  go_wp2_with fail
  refine (ValueOK_any 1 nb tb _ htb).mono ?_
  rintro e w2 ⟨rfl, hb2⟩
  obtain ⟨hc2, hf2⟩ := bcell hb2
  have hz2_0 : w.heap.size < w2.heap.size := by have := hb2.size; first | omega | (simp at this; omega)
  have hz2_1 : w.heap.size + 1 < w2.heap.size := by have := hb2.size; first | omega | (simp at this; omega)
  have hz2_2 : w.heap.size + 2 < w2.heap.size := by have := hb2.size; first | omega | (simp at this; omega)
  go_wp2_with fail
  refine (binaryInts_any op na nb _ (unhide hop) ha1 ha2 hb1' hb2').mono ?_
  rintro e w3 ⟨rfl, hb3⟩
  obtain ⟨hc3, hf3⟩ := bcell hb3
  have hz3_0 : w.heap.size < w3.heap.size := by have := hb3.size; first | omega | (simp at this; omega)
  have hz3_1 : w.heap.size + 1 < w3.heap.size := by have := hb3.size; first | omega | (simp at this; omega)
  have hz3_2 : w.heap.size + 2 < w3.heap.size := by have := hb3.size; first | omega | (simp at this; omega)
  go_wp2
  exact bodyPost_ret (v := (.tuple #[.agg #[.int .i64 (intsR op.toList na nb).k, .int .i64 (intsR op.toList na nb).n, .string (intsR op.toList na nb).t], .int .i64 (intsR op.toList na nb).c])) (by simp [results, Tryd.results13, go_sem, *]) rfl ⟨rfl, (by repeat (first | exact Below.refl _ _ | refine nx_al ?_ | refine nx_set ?_ (by first | omega | (simp <;> omega)) | refine nx_drew ?_ | refine nx_trans ?_ (by assumption)))⟩

set_option maxHeartbeats 400000 in
theorem Binary_int_quo (op : ByteArray) (na : Int) (ta : ByteArray) (nb : Int) (tb : ByteArray) (w : World) (ho : op.size ≤ 65536) (hta : ta.size ≤ maxLen) (htb : tb.size ≤ maxLen) (hva : vokB 1 na ta = true) (hvb : vokB 1 nb tb = true) (hop : Hid (isOp op.toList)) (ha1 : -2147483648 ≤ na) (ha2 : na ≤ 2147483647) (hb1' : -2147483648 ≤ nb) (hb2' : nb ≤ 2147483647) (h : op.toList = [47])  :
    Calls Tryd.prog 13 #[.string op, .agg #[.int .i64 1, .int .i64 na, .string ta], .agg #[.int .i64 1, .int .i64 nb, .string tb]] w fun e w' => e = .returned (.tuple #[.agg #[.int .i64 (intsR op.toList na nb).k, .int .i64 (intsR op.toList na nb).n, .string (intsR op.toList na nb).t], .int .i64 (intsR op.toList na nb).c]) ∧ Below w.heap.size w w' := by
  go_enter Tryd.func13, Tryd.ntmps13
  go_wp2_with fail
  refine (ValueOK_any 1 na ta _ hta).mono ?_
  rintro e w1 ⟨rfl, hb1⟩
  obtain ⟨hc1, hf1⟩ := bcell hb1
  have hz1_0 : w.heap.size < w1.heap.size := by have := hb1.size; first | omega | (simp at this; omega)
  have hz1_1 : w.heap.size + 1 < w1.heap.size := by have := hb1.size; first | omega | (simp at this; omega)
  have hz1_2 : w.heap.size + 2 < w1.heap.size := by have := hb1.size; first | omega | (simp at this; omega)
  go_wp2_with fail
  refine (ValueOK_any 1 nb tb _ htb).mono ?_
  rintro e w2 ⟨rfl, hb2⟩
  obtain ⟨hc2, hf2⟩ := bcell hb2
  have hz2_0 : w.heap.size < w2.heap.size := by have := hb2.size; first | omega | (simp at this; omega)
  have hz2_1 : w.heap.size + 1 < w2.heap.size := by have := hb2.size; first | omega | (simp at this; omega)
  have hz2_2 : w.heap.size + 2 < w2.heap.size := by have := hb2.size; first | omega | (simp at this; omega)
  go_wp2_with fail
  refine (binaryInts_any op na nb _ (unhide hop) ha1 ha2 hb1' hb2').mono ?_
  rintro e w3 ⟨rfl, hb3⟩
  obtain ⟨hc3, hf3⟩ := bcell hb3
  have hz3_0 : w.heap.size < w3.heap.size := by have := hb3.size; first | omega | (simp at this; omega)
  have hz3_1 : w.heap.size + 1 < w3.heap.size := by have := hb3.size; first | omega | (simp at this; omega)
  have hz3_2 : w.heap.size + 2 < w3.heap.size := by have := hb3.size; first | omega | (simp at this; omega)
  go_wp2
  exact bodyPost_ret (v := (.tuple #[.agg #[.int .i64 (intsR op.toList na nb).k, .int .i64 (intsR op.toList na nb).n, .string (intsR op.toList na nb).t], .int .i64 (intsR op.toList na nb).c])) (by simp [results, Tryd.results13, go_sem, *]) rfl ⟨rfl, (by repeat (first | exact Below.refl _ _ | refine nx_al ?_ | refine nx_set ?_ (by first | omega | (simp <;> omega)) | refine nx_drew ?_ | refine nx_trans ?_ (by assumption)))⟩

set_option maxHeartbeats 400000 in
theorem Binary_int_rem (op : ByteArray) (na : Int) (ta : ByteArray) (nb : Int) (tb : ByteArray) (w : World) (ho : op.size ≤ 65536) (hta : ta.size ≤ maxLen) (htb : tb.size ≤ maxLen) (hva : vokB 1 na ta = true) (hvb : vokB 1 nb tb = true) (hop : Hid (isOp op.toList)) (ha1 : -2147483648 ≤ na) (ha2 : na ≤ 2147483647) (hb1' : -2147483648 ≤ nb) (hb2' : nb ≤ 2147483647) (h : op.toList = [37])  :
    Calls Tryd.prog 13 #[.string op, .agg #[.int .i64 1, .int .i64 na, .string ta], .agg #[.int .i64 1, .int .i64 nb, .string tb]] w fun e w' => e = .returned (.tuple #[.agg #[.int .i64 (intsR op.toList na nb).k, .int .i64 (intsR op.toList na nb).n, .string (intsR op.toList na nb).t], .int .i64 (intsR op.toList na nb).c]) ∧ Below w.heap.size w w' := by
  go_enter Tryd.func13, Tryd.ntmps13
  go_wp2_with fail
  refine (ValueOK_any 1 na ta _ hta).mono ?_
  rintro e w1 ⟨rfl, hb1⟩
  obtain ⟨hc1, hf1⟩ := bcell hb1
  have hz1_0 : w.heap.size < w1.heap.size := by have := hb1.size; first | omega | (simp at this; omega)
  have hz1_1 : w.heap.size + 1 < w1.heap.size := by have := hb1.size; first | omega | (simp at this; omega)
  have hz1_2 : w.heap.size + 2 < w1.heap.size := by have := hb1.size; first | omega | (simp at this; omega)
  go_wp2_with fail
  refine (ValueOK_any 1 nb tb _ htb).mono ?_
  rintro e w2 ⟨rfl, hb2⟩
  obtain ⟨hc2, hf2⟩ := bcell hb2
  have hz2_0 : w.heap.size < w2.heap.size := by have := hb2.size; first | omega | (simp at this; omega)
  have hz2_1 : w.heap.size + 1 < w2.heap.size := by have := hb2.size; first | omega | (simp at this; omega)
  have hz2_2 : w.heap.size + 2 < w2.heap.size := by have := hb2.size; first | omega | (simp at this; omega)
  go_wp2_with fail
  refine (binaryInts_any op na nb _ (unhide hop) ha1 ha2 hb1' hb2').mono ?_
  rintro e w3 ⟨rfl, hb3⟩
  obtain ⟨hc3, hf3⟩ := bcell hb3
  have hz3_0 : w.heap.size < w3.heap.size := by have := hb3.size; first | omega | (simp at this; omega)
  have hz3_1 : w.heap.size + 1 < w3.heap.size := by have := hb3.size; first | omega | (simp at this; omega)
  have hz3_2 : w.heap.size + 2 < w3.heap.size := by have := hb3.size; first | omega | (simp at this; omega)
  go_wp2
  exact bodyPost_ret (v := (.tuple #[.agg #[.int .i64 (intsR op.toList na nb).k, .int .i64 (intsR op.toList na nb).n, .string (intsR op.toList na nb).t], .int .i64 (intsR op.toList na nb).c])) (by simp [results, Tryd.results13, go_sem, *]) rfl ⟨rfl, (by repeat (first | exact Below.refl _ _ | refine nx_al ?_ | refine nx_set ?_ (by first | omega | (simp <;> omega)) | refine nx_drew ?_ | refine nx_trans ?_ (by assumption)))⟩

set_option maxHeartbeats 400000 in
theorem Binary_form (op : ByteArray) (ka na : Int) (ta : ByteArray) (kb nb : Int) (tb : ByteArray) (w : World) (ho : op.size ≤ 65536) (hta : ta.size ≤ maxLen) (htb : tb.size ≤ maxLen) (hva : vokB ka na ta = true) (hvb : vokB kb nb tb = true) (h0 : (op.toList == [61, 61]) = false) (h1 : (op.toList == [60]) = false) (h2 : (op.toList == [43]) = false) (h3 : (op.toList == [45]) = false) (h4 : (op.toList == [42]) = false) (h5 : (op.toList == [47]) = false) (h6 : (op.toList == [37]) = false) :
    Calls Tryd.prog 13 #[.string op, .agg #[.int .i64 ka, .int .i64 na, .string ta], .agg #[.int .i64 kb, .int .i64 nb, .string tb]] w fun e w' => e = .returned (.tuple #[.agg #[.int .i64 0, .int .i64 0, .string ⟨#[]⟩], .int .i64 3]) ∧ Below w.heap.size w w' := by
  go_enter Tryd.func13, Tryd.ntmps13
  go_wp2_with fail
  refine (ValueOK_any ka na ta _ hta).mono ?_
  rintro e w1 ⟨rfl, hb1⟩
  obtain ⟨hc1, hf1⟩ := bcell hb1
  have hz1_0 : w.heap.size < w1.heap.size := by have := hb1.size; first | omega | (simp at this; omega)
  have hz1_1 : w.heap.size + 1 < w1.heap.size := by have := hb1.size; first | omega | (simp at this; omega)
  have hz1_2 : w.heap.size + 2 < w1.heap.size := by have := hb1.size; first | omega | (simp at this; omega)
  go_wp2_with fail
  refine (ValueOK_any kb nb tb _ htb).mono ?_
  rintro e w2 ⟨rfl, hb2⟩
  obtain ⟨hc2, hf2⟩ := bcell hb2
  have hz2_0 : w.heap.size < w2.heap.size := by have := hb2.size; first | omega | (simp at this; omega)
  have hz2_1 : w.heap.size + 1 < w2.heap.size := by have := hb2.size; first | omega | (simp at this; omega)
  have hz2_2 : w.heap.size + 2 < w2.heap.size := by have := hb2.size; first | omega | (simp at this; omega)
  go_wp2
  exact bodyPost_ret (v := (.tuple #[.agg #[.int .i64 0, .int .i64 0, .string ⟨#[]⟩], .int .i64 3])) (by simp [results, Tryd.results13, go_sem, *]) rfl ⟨rfl, (by repeat (first | exact Below.refl _ _ | refine nx_al ?_ | refine nx_set ?_ (by first | omega | (simp <;> omega)) | refine nx_drew ?_ | refine nx_trans ?_ (by assumption)))⟩

end Go.Proofs.YtpncohkbdaoceaaDoor
