/- Operations with two operands, their parts: on texts and on numbers. -/
import Derived.Test.YtpncohkbdaoceaaDoorUnary2
namespace Go.Proofs.YtpncohkbdaoceaaDoor
open Go.RowKit
set_option linter.unusedVariables false

def intsR (l : List UInt8) (a b : Int) : Res :=
  if l = [60] then boolR (decide (a < b))
  else if l = [43] then fitR (a + b)
  else if l = [45] then fitR (a - b)
  else if l = [42] then fitR (a * b)
  else if b = 0 then zeroR 4
  else if l = [37] then fitR (a.tmod b)
  else if a.tmod b = 0 then fitR (wrap64 (a.tdiv b))
  else zeroR 4
def textsR (l : List UInt8) (s t : ByteArray) : Res :=
  if l = [60] then boolR (Op.bytesLess s.toList t.toList)
  else if 60 < s.size + t.size then zeroR 10
  else textR (s ++ t)
def eqV (ka na : Int) (ta : ByteArray) (kb nb : Int) (tb : ByteArray) : Bool := (ka == kb) && (na == nb) && (ta.toList == tb.toList)
def isOp (l : List UInt8) : Prop := l = [60] ∨ l = [43] ∨ l = [45] ∨ l = [42] ∨ l = [47] ∨ l = [37]
def binR (l : List UInt8) (ka na : Int) (ta : ByteArray) (kb nb : Int) (tb : ByteArray) : Res :=
  if 65536 < l.length then zeroR 2
  else if vokB ka na ta = false then zeroR 1
  else if vokB kb nb tb = false then zeroR 1
  else if l = [61, 61] then boolR (eqV ka na ta kb nb tb)
  else if (l = [60] ∨ l = [43]) ∧ ka = 3 ∧ kb = 3 then textsR l ta tb
  else if l = [60] ∨ l = [43] ∨ l = [45] ∨ l = [42] ∨ l = [47] ∨ l = [37] then (if ka = 1 ∧ kb = 1 then intsR l na nb else zeroR 8)
  else zeroR 3

theorem mul_lo (a b : Int) (ha1 : -2147483648 ≤ a) (ha2 : a ≤ 2147483647) (hb1 : -2147483648 ≤ b) (hb2 : b ≤ 2147483647) : -4611686018427387904 ≤ a * b ∧ a * b ≤ 4611686018427387904 := by
  have h1 : a.natAbs ≤ 2147483648 := by omega
  have h2 : b.natAbs ≤ 2147483648 := by omega
  have h3 : (a * b).natAbs ≤ 2147483648 * 2147483648 := by rw [Int.natAbs_mul]; exact Nat.mul_le_mul h1 h2
  omega
theorem tmod_bd (a b : Int) (ha1 : -2147483648 ≤ a) (ha2 : a ≤ 2147483647) : -2147483648 ≤ a.tmod b ∧ a.tmod b ≤ 2147483647 := by
  rcases Int.le_total 0 a with h | h
  · have h1 := Int.tmod_nonneg b h
    have h2 : (a.tmod b).natAbs ≤ a.natAbs := by rw [Int.natAbs_tmod]; exact Nat.mod_le _ _
    omega
  · have h2 : (a.tmod b).natAbs ≤ a.natAbs := by rw [Int.natAbs_tmod]; exact Nat.mod_le _ _
    have h3 : a.tmod b ≤ 0 := by
      have := Int.tmod_nonneg b (show 0 ≤ -a by omega)
      rw [Int.neg_tmod] at this
      omega
    omega

theorem l01Text_any (t : ByteArray) (w : World) :
    Calls Tryd.prog 48 #[.string t] w fun e w' => e = .returned (.agg #[.int .i64 3, .int .i64 0, .string t]) ∧ Below w.heap.size w w' := by
  go_enter Tryd.func48, Tryd.ntmps48
  go_wp2
  exact bodyPost_ret (v := .agg #[.int .i64 3, .int .i64 0, .string t]) (by simp [results, Tryd.results48, go_sem]) rfl ⟨rfl, nx_alloc _ _⟩
theorem textValue_agg (t : ByteArray) (w : World) :
    Calls Tryd.prog 52 #[.string t] w fun e w' => e = .returned (.agg #[.int .i64 3, .int .i64 0, .string t]) ∧ Below w.heap.size w w' := textValue_any t w

set_option maxHeartbeats 400000 in
theorem binaryTexts_lt (op a b : ByteArray) (w : World) (h : op.toList = [60]) :
    Calls Tryd.prog 36 #[.string op, .string a, .string b] w fun e w' => e = .returned (.tuple #[.agg #[.int .i64 2, .int .i64 (bitI (Op.bytesLess a.toList b.toList)), .string ⟨#[]⟩], .int .i64 0]) ∧ Below w.heap.size w w' := by
  go_enter Tryd.func36, Tryd.ntmps36
  go_wp2_with fail
  refine (boolValue_bit _ _).mono ?_
  rintro e w1 ⟨rfl, hb1⟩
  obtain ⟨hc1, hf1⟩ := bcell hb1
  have hz1_0 : w.heap.size < w1.heap.size := by have := hb1.size; first | omega | (simp at this; omega)
  go_wp2
  exact bodyPost_ret (v := (.tuple #[.agg #[.int .i64 2, .int .i64 (bitI (Op.bytesLess a.toList b.toList)), .string ⟨#[]⟩], .int .i64 0])) (by simp [results, Tryd.results36, go_sem, *]) rfl ⟨rfl, (by repeat (first | exact Below.refl _ _ | refine nx_al ?_ | refine nx_set ?_ (by first | omega | (simp <;> omega)) | refine nx_drew ?_ | refine nx_trans ?_ (by assumption)))⟩

set_option maxHeartbeats 400000 in
theorem binaryTexts_size (op a b : ByteArray) (w : World) (h : (op.toList == [60]) = false) (ha : a.size ≤ 60) (hb : b.size ≤ 60) (hs : 60 < a.size + b.size) :
    Calls Tryd.prog 36 #[.string op, .string a, .string b] w fun e w' => e = .returned (.tuple #[.agg #[.int .i64 0, .int .i64 0, .string ⟨#[]⟩], .int .i64 10]) ∧ Below w.heap.size w w' := by
  go_enter Tryd.func36, Tryd.ntmps36
  go_wp2
  exact bodyPost_ret (v := (.tuple #[.agg #[.int .i64 0, .int .i64 0, .string ⟨#[]⟩], .int .i64 10])) (by simp [results, Tryd.results36, go_sem]) rfl ⟨rfl, (by repeat (first | exact Below.refl _ _ | refine nx_al ?_ | refine nx_set ?_ (by first | omega | (simp <;> omega)) | refine nx_drew ?_ | refine nx_trans ?_ (by assumption)))⟩

set_option maxHeartbeats 400000 in
theorem binaryTexts_cat (op a b : ByteArray) (w : World) (h : (op.toList == [60]) = false) (hs : a.size + b.size ≤ 60) :
    Calls Tryd.prog 36 #[.string op, .string a, .string b] w fun e w' => e = .returned (.tuple #[.agg #[.int .i64 3, .int .i64 0, .string (a ++ b)], .int .i64 0]) ∧ Below w.heap.size w w' := by
  go_enter Tryd.func36, Tryd.ntmps36
  go_wp2_with fail
  refine (textValue_agg _ _).mono ?_
  rintro e w1 ⟨rfl, hb1⟩
  obtain ⟨hc1, hf1⟩ := bcell hb1
  have hz1_0 : w.heap.size < w1.heap.size := by have := hb1.size; first | omega | (simp at this; omega)
  go_wp2
  exact bodyPost_ret (v := (.tuple #[.agg #[.int .i64 3, .int .i64 0, .string (a ++ b)], .int .i64 0])) (by simp [results, Tryd.results36, go_sem, *]) rfl ⟨rfl, (by repeat (first | exact Below.refl _ _ | refine nx_al ?_ | refine nx_set ?_ (by first | omega | (simp <;> omega)) | refine nx_drew ?_ | refine nx_trans ?_ (by assumption)))⟩

set_option maxHeartbeats 400000 in
theorem binaryInts_lt (op : ByteArray) (a b : Int) (w : World) (h : op.toList = [60]) :
    Calls Tryd.prog 37 #[.string op, .int .i64 a, .int .i64 b] w fun e w' => e = .returned (.tuple #[.agg #[.int .i64 2, .int .i64 (bitI (decide (a < b))), .string ⟨#[]⟩], .int .i64 0]) ∧ Below w.heap.size w w' := by
  go_enter Tryd.func37, Tryd.ntmps37
  go_wp2_with fail
  refine (boolValue_bit _ _).mono ?_
  rintro e w1 ⟨rfl, hb1⟩
  obtain ⟨hc1, hf1⟩ := bcell hb1
  have hz1_0 : w.heap.size < w1.heap.size := by have := hb1.size; first | omega | (simp at this; omega)
  go_wp2
  exact bodyPost_ret (v := (.tuple #[.agg #[.int .i64 2, .int .i64 (bitI (decide (a < b))), .string ⟨#[]⟩], .int .i64 0])) (by simp [results, Tryd.results37, go_sem, *]) rfl ⟨rfl, (by repeat (first | exact Below.refl _ _ | refine nx_al ?_ | refine nx_set ?_ (by first | omega | (simp <;> omega)) | refine nx_drew ?_ | refine nx_trans ?_ (by assumption)))⟩

set_option maxHeartbeats 400000 in
theorem binaryInts_add (op : ByteArray) (a b : Int) (w : World) (h : op.toList = [43]) (ha1 : -2147483648 ≤ a) (ha2 : a ≤ 2147483647) (hb1' : -2147483648 ≤ b) (hb2' : b ≤ 2147483647)  :
    Calls Tryd.prog 37 #[.string op, .int .i64 a, .int .i64 b] w fun e w' => e = .returned (.tuple #[.agg #[.int .i64 (fitR (a + b)).k, .int .i64 (fitR (a + b)).n, .string (fitR (a + b)).t], .int .i64 (fitR (a + b)).c]) ∧ Below w.heap.size w w' := by
  go_enter Tryd.func37, Tryd.ntmps37
  go_wp2_with fail
  refine (boundedInt_any _ _).mono ?_
  rintro e w1 ⟨rfl, hb1⟩
  obtain ⟨hc1, hf1⟩ := bcell hb1
  have hz1_0 : w.heap.size < w1.heap.size := by have := hb1.size; first | omega | (simp at this; omega)
  go_wp2
  exact bodyPost_ret (v := (.tuple #[.agg #[.int .i64 (fitR (a + b)).k, .int .i64 (fitR (a + b)).n, .string (fitR (a + b)).t], .int .i64 (fitR (a + b)).c])) (by simp [results, Tryd.results37, go_sem, *]) rfl ⟨rfl, (by repeat (first | exact Below.refl _ _ | refine nx_al ?_ | refine nx_set ?_ (by first | omega | (simp <;> omega)) | refine nx_drew ?_ | refine nx_trans ?_ (by assumption)))⟩

set_option maxHeartbeats 400000 in
theorem binaryInts_sub (op : ByteArray) (a b : Int) (w : World) (h : op.toList = [45]) (ha1 : -2147483648 ≤ a) (ha2 : a ≤ 2147483647) (hb1' : -2147483648 ≤ b) (hb2' : b ≤ 2147483647)  :
    Calls Tryd.prog 37 #[.string op, .int .i64 a, .int .i64 b] w fun e w' => e = .returned (.tuple #[.agg #[.int .i64 (fitR (a - b)).k, .int .i64 (fitR (a - b)).n, .string (fitR (a - b)).t], .int .i64 (fitR (a - b)).c]) ∧ Below w.heap.size w w' := by
  go_enter Tryd.func37, Tryd.ntmps37
  go_wp2_with fail
  refine (boundedInt_any _ _).mono ?_
  rintro e w1 ⟨rfl, hb1⟩
  obtain ⟨hc1, hf1⟩ := bcell hb1
  have hz1_0 : w.heap.size < w1.heap.size := by have := hb1.size; first | omega | (simp at this; omega)
  go_wp2
  exact bodyPost_ret (v := (.tuple #[.agg #[.int .i64 (fitR (a - b)).k, .int .i64 (fitR (a - b)).n, .string (fitR (a - b)).t], .int .i64 (fitR (a - b)).c])) (by simp [results, Tryd.results37, go_sem, *]) rfl ⟨rfl, (by repeat (first | exact Below.refl _ _ | refine nx_al ?_ | refine nx_set ?_ (by first | omega | (simp <;> omega)) | refine nx_drew ?_ | refine nx_trans ?_ (by assumption)))⟩

set_option maxHeartbeats 400000 in
theorem binaryInts_mul (op : ByteArray) (a b : Int) (w : World) (h : op.toList = [42]) (ha1 : -2147483648 ≤ a) (ha2 : a ≤ 2147483647) (hb1' : -2147483648 ≤ b) (hb2' : b ≤ 2147483647) (hm1 : -4611686018427387904 ≤ a * b) (hm2 : a * b ≤ 4611686018427387904) :
    Calls Tryd.prog 37 #[.string op, .int .i64 a, .int .i64 b] w fun e w' => e = .returned (.tuple #[.agg #[.int .i64 (fitR (a * b)).k, .int .i64 (fitR (a * b)).n, .string (fitR (a * b)).t], .int .i64 (fitR (a * b)).c]) ∧ Below w.heap.size w w' := by
  go_enter Tryd.func37, Tryd.ntmps37
  go_wp2_with fail
  refine (boundedInt_any _ _).mono ?_
  rintro e w1 ⟨rfl, hb1⟩
  obtain ⟨hc1, hf1⟩ := bcell hb1
  have hz1_0 : w.heap.size < w1.heap.size := by have := hb1.size; first | omega | (simp at this; omega)
  go_wp2
  exact bodyPost_ret (v := (.tuple #[.agg #[.int .i64 (fitR (a * b)).k, .int .i64 (fitR (a * b)).n, .string (fitR (a * b)).t], .int .i64 (fitR (a * b)).c])) (by simp [results, Tryd.results37, go_sem, *]) rfl ⟨rfl, (by repeat (first | exact Below.refl _ _ | refine nx_al ?_ | refine nx_set ?_ (by first | omega | (simp <;> omega)) | refine nx_drew ?_ | refine nx_trans ?_ (by assumption)))⟩

set_option maxHeartbeats 400000 in
theorem binaryInts_quo0 (op : ByteArray) (a : Int) (w : World) (h : op.toList = [47]) :
    Calls Tryd.prog 37 #[.string op, .int .i64 a, .int .i64 0] w fun e w' => e = .returned (.tuple #[.agg #[.int .i64 0, .int .i64 0, .string ⟨#[]⟩], .int .i64 4]) ∧ Below w.heap.size w w' := by
  go_enter Tryd.func37, Tryd.ntmps37
  go_wp2
  exact bodyPost_ret (v := (.tuple #[.agg #[.int .i64 0, .int .i64 0, .string ⟨#[]⟩], .int .i64 4])) (by simp [results, Tryd.results37, go_sem]) rfl ⟨rfl, (by repeat (first | exact Below.refl _ _ | refine nx_al ?_ | refine nx_set ?_ (by first | omega | (simp <;> omega)) | refine nx_drew ?_ | refine nx_trans ?_ (by assumption)))⟩

set_option maxHeartbeats 400000 in
theorem binaryInts_rem0 (op : ByteArray) (a : Int) (w : World) (h : op.toList = [37]) :
    Calls Tryd.prog 37 #[.string op, .int .i64 a, .int .i64 0] w fun e w' => e = .returned (.tuple #[.agg #[.int .i64 0, .int .i64 0, .string ⟨#[]⟩], .int .i64 4]) ∧ Below w.heap.size w w' := by
  go_enter Tryd.func37, Tryd.ntmps37
  go_wp2
  exact bodyPost_ret (v := (.tuple #[.agg #[.int .i64 0, .int .i64 0, .string ⟨#[]⟩], .int .i64 4])) (by simp [results, Tryd.results37, go_sem]) rfl ⟨rfl, (by repeat (first | exact Below.refl _ _ | refine nx_al ?_ | refine nx_set ?_ (by first | omega | (simp <;> omega)) | refine nx_drew ?_ | refine nx_trans ?_ (by assumption)))⟩

set_option maxHeartbeats 400000 in
theorem binaryInts_rem (op : ByteArray) (a b : Int) (w : World) (h : op.toList = [37]) (h0 : (b == 0) = false) (h0' : ¬ b = 0) (ha1 : -2147483648 ≤ a) (ha2 : a ≤ 2147483647) (hb1' : -2147483648 ≤ b) (hb2' : b ≤ 2147483647)  :
    Calls Tryd.prog 37 #[.string op, .int .i64 a, .int .i64 b] w fun e w' => e = .returned (.tuple #[.agg #[.int .i64 (fitR (a.tmod b)).k, .int .i64 (fitR (a.tmod b)).n, .string (fitR (a.tmod b)).t], .int .i64 (fitR (a.tmod b)).c]) ∧ Below w.heap.size w w' := by
  go_enter Tryd.func37, Tryd.ntmps37
  go_wp2_with fail
  refine (boundedInt_any _ _).mono ?_
  rintro e w1 ⟨rfl, hb1⟩
  obtain ⟨hc1, hf1⟩ := bcell hb1
  have hz1_0 : w.heap.size < w1.heap.size := by have := hb1.size; first | omega | (simp at this; omega)
  go_wp2
  exact bodyPost_ret (v := (.tuple #[.agg #[.int .i64 (fitR (a.tmod b)).k, .int .i64 (fitR (a.tmod b)).n, .string (fitR (a.tmod b)).t], .int .i64 (fitR (a.tmod b)).c])) (by simp [results, Tryd.results37, go_sem, *]) rfl ⟨rfl, (by repeat (first | exact Below.refl _ _ | refine nx_al ?_ | refine nx_set ?_ (by first | omega | (simp <;> omega)) | refine nx_drew ?_ | refine nx_trans ?_ (by assumption)))⟩

set_option maxHeartbeats 400000 in
theorem binaryInts_part (op : ByteArray) (a b : Int) (w : World) (h : op.toList = [47]) (h0 : (b == 0) = false) (h0' : ¬ b = 0) (hm : (a.tmod b != 0) = true) (ha1 : -2147483648 ≤ a) (ha2 : a ≤ 2147483647) (hb1' : -2147483648 ≤ b) (hb2' : b ≤ 2147483647)  :
    Calls Tryd.prog 37 #[.string op, .int .i64 a, .int .i64 b] w fun e w' => e = .returned (.tuple #[.agg #[.int .i64 0, .int .i64 0, .string ⟨#[]⟩], .int .i64 4]) ∧ Below w.heap.size w w' := by
  go_enter Tryd.func37, Tryd.ntmps37
  go_wp2
  exact bodyPost_ret (v := (.tuple #[.agg #[.int .i64 0, .int .i64 0, .string ⟨#[]⟩], .int .i64 4])) (by simp [results, Tryd.results37, go_sem]) rfl ⟨rfl, (by repeat (first | exact Below.refl _ _ | refine nx_al ?_ | refine nx_set ?_ (by first | omega | (simp <;> omega)) | refine nx_drew ?_ | refine nx_trans ?_ (by assumption)))⟩

set_option maxHeartbeats 400000 in
theorem binaryInts_quo (op : ByteArray) (a b : Int) (w : World) (h : op.toList = [47]) (h0 : (b == 0) = false) (h0' : ¬ b = 0) (hm : (a.tmod b != 0) = false) (ha1 : -2147483648 ≤ a) (ha2 : a ≤ 2147483647) (hb1' : -2147483648 ≤ b) (hb2' : b ≤ 2147483647)  :
    Calls Tryd.prog 37 #[.string op, .int .i64 a, .int .i64 b] w fun e w' => e = .returned (.tuple #[.agg #[.int .i64 (fitR (wrap64 (a.tdiv b))).k, .int .i64 (fitR (wrap64 (a.tdiv b))).n, .string (fitR (wrap64 (a.tdiv b))).t], .int .i64 (fitR (wrap64 (a.tdiv b))).c]) ∧ Below w.heap.size w w' := by
  go_enter Tryd.func37, Tryd.ntmps37
  go_wp2_with fail
  refine (boundedInt_any _ _).mono ?_
  rintro e w1 ⟨rfl, hb1⟩
  obtain ⟨hc1, hf1⟩ := bcell hb1
  have hz1_0 : w.heap.size < w1.heap.size := by have := hb1.size; first | omega | (simp at this; omega)
  go_wp2
  exact bodyPost_ret (v := (.tuple #[.agg #[.int .i64 (fitR (wrap64 (a.tdiv b))).k, .int .i64 (fitR (wrap64 (a.tdiv b))).n, .string (fitR (wrap64 (a.tdiv b))).t], .int .i64 (fitR (wrap64 (a.tdiv b))).c])) (by simp [results, Tryd.results37, go_sem, *]) rfl ⟨rfl, (by repeat (first | exact Below.refl _ _ | refine nx_al ?_ | refine nx_set ?_ (by first | omega | (simp <;> omega)) | refine nx_drew ?_ | refine nx_trans ?_ (by assumption)))⟩

theorem binaryTexts_any (op a b : ByteArray) (w : World) (ha : a.size ≤ 60) (hb : b.size ≤ 60) :
    Calls Tryd.prog 36 #[.string op, .string a, .string b] w fun e w' => e = .returned (.tuple #[.agg #[.int .i64 (textsR op.toList a b).k, .int .i64 (textsR op.toList a b).n, .string (textsR op.toList a b).t], .int .i64 (textsR op.toList a b).c]) ∧ Below w.heap.size w w' := by
  unfold textsR
  by_cases h : op.toList = [60]
  · rw [if_pos h]; exact binaryTexts_lt op a b w h
  rw [if_neg h]
  by_cases h1 : 60 < a.size + b.size
  · rw [if_pos h1]; exact binaryTexts_size op a b w (beq_eq_false_iff_ne.2 h) ha hb h1
  · rw [if_neg h1]; exact binaryTexts_cat op a b w (beq_eq_false_iff_ne.2 h) (by omega)

theorem binaryInts_any (op : ByteArray) (a b : Int) (w : World) (hop : isOp op.toList) (ha1 : -2147483648 ≤ a) (ha2 : a ≤ 2147483647) (hb1 : -2147483648 ≤ b) (hb2 : b ≤ 2147483647) :
    Calls Tryd.prog 37 #[.string op, .int .i64 a, .int .i64 b] w fun e w' => e = .returned (.tuple #[.agg #[.int .i64 (intsR op.toList a b).k, .int .i64 (intsR op.toList a b).n, .string (intsR op.toList a b).t], .int .i64 (intsR op.toList a b).c]) ∧ Below w.heap.size w w' := by
  have hm := mul_lo a b ha1 ha2 hb1 hb2
  unfold intsR
  rcases hop with h | h | h | h | h | h
  · rw [if_pos h]; exact binaryInts_lt op a b w h
  · rw [if_neg (by rw [h]; decide), if_pos h]; exact binaryInts_add op a b w h ha1 ha2 hb1 hb2
  · rw [if_neg (by rw [h]; decide), if_neg (by rw [h]; decide), if_pos h]; exact binaryInts_sub op a b w h ha1 ha2 hb1 hb2
  · rw [if_neg (by rw [h]; decide), if_neg (by rw [h]; decide), if_neg (by rw [h]; decide), if_pos h]; exact binaryInts_mul op a b w h ha1 ha2 hb1 hb2 hm.1 hm.2
  · rw [if_neg (by rw [h]; decide), if_neg (by rw [h]; decide), if_neg (by rw [h]; decide), if_neg (by rw [h]; decide)]
    by_cases h0 : b = 0
    · subst h0; rw [if_pos rfl]; exact binaryInts_quo0 op a w h
    rw [if_neg h0, if_neg (by rw [h]; decide)]
    by_cases hz : a.tmod b = 0
    · rw [if_pos hz]; exact binaryInts_quo op a b w h (beq_eq_false_iff_ne.2 h0) h0 (by rw [hz]; rfl) ha1 ha2 hb1 hb2
    · rw [if_neg hz]; exact binaryInts_part op a b w h (beq_eq_false_iff_ne.2 h0) h0 (by rw [bne_iff_ne]; exact hz) ha1 ha2 hb1 hb2
  · rw [if_neg (by rw [h]; decide), if_neg (by rw [h]; decide), if_neg (by rw [h]; decide), if_neg (by rw [h]; decide)]
    by_cases h0 : b = 0
    · subst h0; rw [if_pos rfl]; exact binaryInts_rem0 op a w h
    rw [if_neg h0, if_pos h]; exact binaryInts_rem op a b w h (beq_eq_false_iff_ne.2 h0) h0 ha1 ha2 hb1 hb2

end Go.Proofs.YtpncohkbdaoceaaDoor
