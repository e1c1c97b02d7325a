/- The operations with one operand: code and specification both answer 'unaryR'. -/
import Derived.Test.YtpncohkbdaoceaaDoorUnaryWalk
namespace Go.Proofs.YtpncohkbdaoceaaDoor
open Go.RowKit

def unaryR (op : List UInt8) (k n : Int) (t : ByteArray) : Res :=
  if 65536 < op.length then zeroR 2
  else if vokB k n t = false then zeroR 1
  else if op = [33] then boolR (!truthB n t)
  else if op = [45] then (if k = 1 then fitR (-n) else zeroR 8)
  else zeroR 3

theorem len_toList (s : ByteArray) : s.toList.length = s.size := by rw [ByteArray.toList_eq]; exact Array.length_toList
theorem vok_int {n : Int} {t : ByteArray} (h : vokB 1 n t = true) : -2147483648 ≤ n ∧ n ≤ 2147483647 := by simp [vokB] at h; omega

theorem l01Bit_any (b : Bool) (w : World) :
    Calls Tryd.prog 61 #[.bool b] w fun e w' => e = .returned (.int .i64 (bitI b)) ∧ w' = w := by
  cases b
  all_goals
    go_enter Tryd.func61, Tryd.ntmps61
    go_wp2
    go_ret
    exact ⟨rfl, rfl⟩

set_option maxHeartbeats 400000 in
theorem l01Bool_any (b : Bool) (w : World) :
    Calls Tryd.prog 46 #[.bool b] w fun e w' => e = .returned (.agg #[.int .i64 2, .int .i64 (bitI b), .string ⟨#[]⟩]) ∧ Below w.heap.size w w' := by
  go_enter Tryd.func46, Tryd.ntmps46
  go_wp2_with fail
  refine (l01Bit_any _ _).mono ?_
  rintro e w' ⟨rfl, rfl⟩
  go_wp2
  exact bodyPost_ret (v := (.agg #[.int .i64 2, .int .i64 (bitI b), .string ⟨#[]⟩])) (by simp [results, Tryd.results46, go_sem]) rfl ⟨rfl, (by repeat (first | exact Below.refl _ _ | refine nx_al ?_ | refine nx_set ?_ (by simp <;> omega) | refine nx_drew ?_ | refine nx_trans ?_ (by assumption)))⟩

set_option maxHeartbeats 400000 in
theorem Unary_long (op : ByteArray) (k n : Int) (t : ByteArray) (w : World) (h : 65536 < op.size) :
    Calls Tryd.prog 14 #[.string op, .agg #[.int .i64 k, .int .i64 n, .string t]] w fun e w' => e = .returned (.tuple #[.agg #[.int .i64 0, .int .i64 0, .string ⟨#[]⟩], .int .i64 2]) ∧ Below w.heap.size w w' := by
  go_enter Tryd.func14, Tryd.ntmps14
  go_wp2
  exact bodyPost_ret (v := (.tuple #[.agg #[.int .i64 0, .int .i64 0, .string ⟨#[]⟩], .int .i64 2])) (by simp [results, Tryd.results14, go_sem]) rfl ⟨rfl, (by repeat (first | exact Below.refl _ _ | refine nx_al ?_ | refine nx_set ?_ (by simp <;> omega) | refine nx_drew ?_ | refine nx_trans ?_ (by assumption)))⟩

set_option maxHeartbeats 400000 in
theorem Unary_bad (op : ByteArray) (k n : Int) (t : ByteArray) (w : World) (ho : op.size ≤ 65536) (ht : t.size ≤ maxLen) (hv : vokB k n t = false) :
    Calls Tryd.prog 14 #[.string op, .agg #[.int .i64 k, .int .i64 n, .string t]] w fun e w' => e = .returned (.tuple #[.agg #[.int .i64 0, .int .i64 0, .string ⟨#[]⟩], .int .i64 1]) ∧ Below w.heap.size w w' := by
  go_enter Tryd.func14, Tryd.ntmps14
  go_wp2_with fail
  refine (ValueOK_any k n t _ ht).mono ?_
  rintro e w1 ⟨rfl, hb1⟩
  obtain ⟨hc1, hf1⟩ := bcell hb1
  have hz1_0 : w.heap.size < w1.heap.size := by have := hb1.size; first | omega | (simp at this; omega)
  have hz1_1 : w.heap.size + 1 < w1.heap.size := by have := hb1.size; first | omega | (simp at this; omega)
  go_wp2
  exact bodyPost_ret (v := (.tuple #[.agg #[.int .i64 0, .int .i64 0, .string ⟨#[]⟩], .int .i64 1])) (by simp [results, Tryd.results14, go_sem, *]) rfl ⟨rfl, (by repeat (first | exact Below.refl _ _ | refine nx_al ?_ | refine nx_set ?_ (by simp <;> omega) | refine nx_drew ?_ | refine nx_trans ?_ (by assumption)))⟩

set_option maxHeartbeats 400000 in
theorem Unary_not (op : ByteArray) (k n : Int) (t : ByteArray) (w : World) (ho : op.size ≤ 65536) (ht : t.size ≤ maxLen) (hv : vokB k n t = true) (hx : op.toList = [33]) :
    Calls Tryd.prog 14 #[.string op, .agg #[.int .i64 k, .int .i64 n, .string t]] w fun e w' => e = .returned (.tuple #[.agg #[.int .i64 2, .int .i64 (bitI (!truthB n t)), .string ⟨#[]⟩], .int .i64 0]) ∧ Below w.heap.size w w' := by
  go_enter Tryd.func14, Tryd.ntmps14
  go_wp2_with fail
  refine (ValueOK_any k n t _ ht).mono ?_
  rintro e w1 ⟨rfl, hb1⟩
  obtain ⟨hc1, hf1⟩ := bcell hb1
  have hz1_0 : w.heap.size < w1.heap.size := by have := hb1.size; first | omega | (simp at this; omega)
  have hz1_1 : w.heap.size + 1 < w1.heap.size := by have := hb1.size; first | omega | (simp at this; omega)
  go_wp2_with fail
  refine (isTrue_any k n t _).mono ?_
  rintro e w2 ⟨rfl, hb2⟩
  obtain ⟨hc2, hf2⟩ := bcell hb2
  have hz2_0 : w.heap.size < w2.heap.size := by have := hb2.size; first | omega | (simp at this; omega)
  have hz2_1 : w.heap.size + 1 < w2.heap.size := by have := hb2.size; first | omega | (simp at this; omega)
  go_wp2_with fail
  refine (boolValue_bit _ _).mono ?_
  rintro e w3 ⟨rfl, hb3⟩
  obtain ⟨hc3, hf3⟩ := bcell hb3
  have hz3_0 : w.heap.size < w3.heap.size := by have := hb3.size; first | omega | (simp at this; omega)
  have hz3_1 : w.heap.size + 1 < w3.heap.size := by have := hb3.size; first | omega | (simp at this; omega)
  go_wp2
  exact bodyPost_ret (v := (.tuple #[.agg #[.int .i64 2, .int .i64 (bitI (!truthB n t)), .string ⟨#[]⟩], .int .i64 0])) (by simp [results, Tryd.results14, go_sem, *]) rfl ⟨rfl, (by repeat (first | exact Below.refl _ _ | refine nx_al ?_ | refine nx_set ?_ (by simp <;> omega) | refine nx_drew ?_ | refine nx_trans ?_ (by assumption)))⟩

set_option maxHeartbeats 400000 in
theorem Unary_type (op : ByteArray) (k n : Int) (t : ByteArray) (w : World) (ho : op.size ≤ 65536) (ht : t.size ≤ maxLen) (hv : vokB k n t = true) (hx : op.toList = [45]) (hk : (k == 1) = false) :
    Calls Tryd.prog 14 #[.string op, .agg #[.int .i64 k, .int .i64 n, .string t]] w fun e w' => e = .returned (.tuple #[.agg #[.int .i64 0, .int .i64 0, .string ⟨#[]⟩], .int .i64 8]) ∧ Below w.heap.size w w' := by
  go_enter Tryd.func14, Tryd.ntmps14
  go_wp2_with fail
  refine (ValueOK_any k n t _ ht).mono ?_
  rintro e w1 ⟨rfl, hb1⟩
  obtain ⟨hc1, hf1⟩ := bcell hb1
  have hz1_0 : w.heap.size < w1.heap.size := by have := hb1.size; first | omega | (simp at this; omega)
  have hz1_1 : w.heap.size + 1 < w1.heap.size := by have := hb1.size; first | omega | (simp at this; omega)
  go_wp2
  exact bodyPost_ret (v := (.tuple #[.agg #[.int .i64 0, .int .i64 0, .string ⟨#[]⟩], .int .i64 8])) (by simp [results, Tryd.results14, go_sem, *]) rfl ⟨rfl, (by repeat (first | exact Below.refl _ _ | refine nx_al ?_ | refine nx_set ?_ (by simp <;> omega) | refine nx_drew ?_ | refine nx_trans ?_ (by assumption)))⟩

set_option maxHeartbeats 400000 in
theorem Unary_neg (op : ByteArray) (n : Int) (t : ByteArray) (w : World) (ho : op.size ≤ 65536) (ht : t.size ≤ maxLen) (hv : vokB 1 n t = true) (hx : op.toList = [45]) (h0 : -2147483648 ≤ n) (h1 : n ≤ 2147483647) :
    Calls Tryd.prog 14 #[.string op, .agg #[.int .i64 1, .int .i64 n, .string t]] w fun e w' => e = .returned (.tuple #[.agg #[.int .i64 (fitR (-n)).k, .int .i64 (fitR (-n)).n, .string (fitR (-n)).t], .int .i64 (fitR (-n)).c]) ∧ Below w.heap.size w w' := by
  go_enter Tryd.func14, Tryd.ntmps14
  go_wp2_with fail
  refine (ValueOK_any 1 n t _ ht).mono ?_
  rintro e w1 ⟨rfl, hb1⟩
  obtain ⟨hc1, hf1⟩ := bcell hb1
  have hz1_0 : w.heap.size < w1.heap.size := by have := hb1.size; first | omega | (simp at this; omega)
  have hz1_1 : w.heap.size + 1 < w1.heap.size := by have := hb1.size; first | omega | (simp at this; omega)
  go_wp2_with fail
  refine (boundedInt_any (-n) _).mono ?_
  rintro e w2 ⟨rfl, hb2⟩
  obtain ⟨hc2, hf2⟩ := bcell hb2
  have hz2_0 : w.heap.size < w2.heap.size := by have := hb2.size; first | omega | (simp at this; omega)
  have hz2_1 : w.heap.size + 1 < w2.heap.size := by have := hb2.size; first | omega | (simp at this; omega)
  go_wp2
  exact bodyPost_ret (v := (.tuple #[.agg #[.int .i64 (fitR (-n)).k, .int .i64 (fitR (-n)).n, .string (fitR (-n)).t], .int .i64 (fitR (-n)).c])) (by simp [results, Tryd.results14, go_sem, *]) rfl ⟨rfl, (by repeat (first | exact Below.refl _ _ | refine nx_al ?_ | refine nx_set ?_ (by simp <;> omega) | refine nx_drew ?_ | refine nx_trans ?_ (by assumption)))⟩

set_option maxHeartbeats 400000 in
theorem Unary_form (op : ByteArray) (k n : Int) (t : ByteArray) (w : World) (ho : op.size ≤ 65536) (ht : t.size ≤ maxLen) (hv : vokB k n t = true) (h1 : (op.toList == [33]) = false) (h2 : (op.toList == [45]) = false) :
    Calls Tryd.prog 14 #[.string op, .agg #[.int .i64 k, .int .i64 n, .string t]] w fun e w' => e = .returned (.tuple #[.agg #[.int .i64 0, .int .i64 0, .string ⟨#[]⟩], .int .i64 3]) ∧ Below w.heap.size w w' := by
  go_enter Tryd.func14, Tryd.ntmps14
  go_wp2_with fail
  refine (ValueOK_any k n t _ ht).mono ?_
  rintro e w1 ⟨rfl, hb1⟩
  obtain ⟨hc1, hf1⟩ := bcell hb1
  have hz1_0 : w.heap.size < w1.heap.size := by have := hb1.size; first | omega | (simp at this; omega)
  have hz1_1 : w.heap.size + 1 < w1.heap.size := by have := hb1.size; first | omega | (simp at this; omega)
  go_wp2
  exact bodyPost_ret (v := (.tuple #[.agg #[.int .i64 0, .int .i64 0, .string ⟨#[]⟩], .int .i64 3])) (by simp [results, Tryd.results14, go_sem, *]) rfl ⟨rfl, (by repeat (first | exact Below.refl _ _ | refine nx_al ?_ | refine nx_set ?_ (by simp <;> omega) | refine nx_drew ?_ | refine nx_trans ?_ (by assumption)))⟩

theorem Unary_any (op : ByteArray) (k n : Int) (t : ByteArray) (w : World) (ht : t.size ≤ maxLen) :
    Calls Tryd.prog 14 #[.string op, .agg #[.int .i64 k, .int .i64 n, .string t]] w fun e w' => e = .returned (.tuple #[.agg #[.int .i64 (unaryR op.toList k n t).k, .int .i64 (unaryR op.toList k n t).n, .string (unaryR op.toList k n t).t], .int .i64 (unaryR op.toList k n t).c]) ∧ Below w.heap.size w w' := by
  unfold unaryR
  rw [len_toList]
  by_cases h : 65536 < op.size
  · rw [if_pos h]
    exact Unary_long op k n t w h
  rw [if_neg h]
  cases hv : vokB k n t
  · rw [if_pos rfl]
    exact Unary_bad op k n t w (by omega) ht hv
  rw [if_neg (by simp)]
  by_cases h1 : op.toList = [33]
  · rw [if_pos h1]
    exact Unary_not op k n t w (by omega) ht hv h1
  rw [if_neg h1]
  by_cases h2 : op.toList = [45]
  · rw [if_pos h2]
    by_cases hk : k = 1
    · subst hk
      rw [if_pos rfl]
      have hb := vok_int hv
      exact Unary_neg op n t w (by omega) ht hv h2 hb.1 hb.2
    · rw [if_neg hk]
      exact Unary_type op k n t w (by omega) ht hv h2 (beq_eq_false_iff_ne.2 hk)
  · rw [if_neg h2]
    exact Unary_form op k n t w (by omega) ht hv (beq_eq_false_iff_ne.2 h1) (beq_eq_false_iff_ne.2 h2)

end Go.Proofs.YtpncohkbdaoceaaDoor
