/- Values out of texts: code and specification both answer 'readR'; the law. -/
import Derived.Test.YtpncohkbdaoceaaNextWalk
namespace Go.Proofs.Ytpncohkbdaoceaa
open Go.RowKit
set_option linter.unusedVariables false

def readR (s : ByteArray) : Res :=
  if 65536 < s.size then zeroR 2
  else if s.toList = [110, 117, 108, 108] then zeroR 0
  else if s.toList = [116, 114, 117, 101] then boolR true
  else if s.toList = [102, 97, 108, 115, 101] then boolR false
  else if (numP s.data.toList).2 = true then fitR (numP s.data.toList).1
  else if (quoteP s.data.toList).2 = true then textR ⟨(quoteP s.data.toList).1.toArray⟩
  else zeroR 3

theorem list_cons (s : ByteArray) (h : 0 < s.size) : s.data.toList = s[0] :: s.data.toList.drop 1 := by
  have := drop_at s 0 h
  simpa using this
theorem quoteP_short (s : ByteArray) (h : s.size < 2) : quoteP s.data.toList = ([], false) := by
  by_cases h0 : s.size = 0
  · have : s.data.toList = [] := List.eq_nil_of_length_eq_zero (by rw [size_list]; exact h0)
    rw [this]; rfl
  · rw [list_cons s (by omega), drop_end s 1 (by omega)]
    exact quoteP_last _ _ (by rintro ⟨l', hl⟩; simp at hl)
theorem quoteP_first (s : ByteArray) (h0 : 0 < s.size) (h : ¬ (s[0].toNat : Int) = 39) : quoteP s.data.toList = ([], false) := by
  rw [list_cons s h0]
  unfold quoteP
  exact if_neg (byte_ne (d := 39) h)
theorem quoteP_lastc (s : ByteArray) (h2 : 2 ≤ s.size) (h : ¬ (s[s.size - 1].toNat : Int) = 39) : quoteP s.data.toList = ([], false) := by
  rw [list_cons s (by omega)]
  refine quoteP_last _ _ ?_
  rintro ⟨l', hl⟩
  apply h
  have e1 : (s.data.toList.drop 1).getLast? = some 39 := by rw [hl]; simp
  have e2 : (s.data.toList.drop 1).getLast? = some s[s.size - 1] := by
    rw [List.getLast?_eq_getElem?, List.length_drop, size_list, List.getElem?_drop, show 1 + (s.size - 1 - 1) = s.size - 1 by omega, List.getElem?_eq_getElem (by rw [size_list]; omega)]
    rfl
  rw [e1] at e2
  injection e2 with e3
  rw [← e3]; rfl
theorem quoteP_mid (s : ByteArray) (h2 : 2 ≤ s.size) (h0 : (s[0].toNat : Int) = 39) (h : (s[s.size - 1].toNat : Int) = 39) : quoteP s.data.toList = innerP (s.extract 1 (s.size - 1)).data.toList := by
  rw [← quoteP_inner]
  congr 1
  rw [list_cons s (by omega), byte_eq (d := 39) h0]
  congr 1
  have hx : (s.extract 1 (s.size - 1)).data.toList = (s.data.toList.drop 1).take (s.size - 1 - 1) := by
    rw [ByteArray.data_extract, Array.toList_extract, List.extract_eq_take_drop]
  rw [hx]
  have hlast : (s.data.toList.drop 1).drop (s.size - 1 - 1) = [39] := by
    rw [List.drop_drop, show 1 + (s.size - 1 - 1) = s.size - 1 by omega, drop_at s (s.size - 1) (by omega), byte_eq (d := 39) h, drop_end s _ (by omega)]
  rw [← hlast, List.take_append_drop]

theorem textValue_agg (t : ByteArray) (w : World) :
    Calls Try.prog 52 #[.string t] w fun e w' => e = .returned (.agg #[.int .i64 3, .int .i64 0, .string t]) ∧ Below w.heap.size w w' := textValue_any t w

theorem l01Text_any (t : ByteArray) (w : World) :
    Calls Try.prog 63 #[.string t] w fun e w' => e = .returned (.agg #[.int .i64 3, .int .i64 0, .string t]) ∧ Below w.heap.size w w' := by
  go_enter Try.func63, Try.ntmps63
  go_wp2
  exact bodyPost_ret (v := .agg #[.int .i64 3, .int .i64 0, .string t]) (by simp [results, Try.results63, go_sem]) rfl ⟨rfl, nx_alloc _ _⟩

theorem readQuoted_any (s : ByteArray) (w : World) (hs : s.size ≤ 9223372036854775807) :
    Calls Try.prog 65 #[.string s] w fun e w' => e = .returned (.tuple #[.string ⟨(quoteP s.data.toList).1.toArray⟩, .bool (quoteP s.data.toList).2]) ∧ Below w.heap.size w w' := by
  by_cases h2 : s.size < 2
  · rw [quoteP_short s h2]
    exact (readQuoted_short s w hs h2).mono fun e w' h => ⟨h.1, h.2 ▸ Below.refl _ _⟩
  by_cases h0 : (s[0].toNat : Int) = 39
  · have e0 : ((s[0].toNat : Int) != 39) = false := by rw [h0]; rfl
    by_cases h1 : (s[s.size - 1].toNat : Int) = 39
    · rw [quoteP_mid s (by omega) h0 h1]
      exact readQuoted_inner s w hs (by omega) e0 (by rw [h1]; rfl)
    · rw [quoteP_lastc s (by omega) h1]
      exact (readQuoted_last s w hs (by omega) e0 (by rw [bne_iff_ne]; exact h1)).mono fun e w' h => ⟨h.1, h.2 ▸ Below.refl _ _⟩
  · rw [quoteP_first s (by omega) h0]
    exact (readQuoted_first s w hs (by omega) (by rw [bne_iff_ne]; exact h0)).mono fun e w' h => ⟨h.1, h.2 ▸ Below.refl _ _⟩

set_option maxHeartbeats 400000 in
theorem ReadValue_long (s : ByteArray) (w : World) (h : 65536 < s.size) :
    Calls Try.prog 34 #[.string s] w fun e w' => e = .returned (.tuple #[.agg #[.int .i64 0, .int .i64 0, .string ⟨#[]⟩], .int .i64 2]) ∧ Below w.heap.size w w' := by
  go_enter Try.func34, Try.ntmps34
  go_wp2
  exact bodyPost_ret (v := (.tuple #[.agg #[.int .i64 0, .int .i64 0, .string ⟨#[]⟩], .int .i64 2])) (by simp [results, Try.results34, go_sem]) rfl ⟨rfl, (by repeat (first | exact Below.refl _ _ | refine nx_al ?_ | refine nx_set ?_ (by first | omega | (simp <;> omega)) | refine nx_drew ?_ | refine nx_trans ?_ (by assumption)))⟩

set_option maxHeartbeats 400000 in
theorem ReadValue_null (s : ByteArray) (w : World) (ho : s.size ≤ 65536) (h : s.toList = [110, 117, 108, 108]) :
    Calls Try.prog 34 #[.string s] w fun e w' => e = .returned (.tuple #[.agg #[.int .i64 0, .int .i64 0, .string ⟨#[]⟩], .int .i64 0]) ∧ Below w.heap.size w w' := by
  go_enter Try.func34, Try.ntmps34
  go_wp2
  exact bodyPost_ret (v := (.tuple #[.agg #[.int .i64 0, .int .i64 0, .string ⟨#[]⟩], .int .i64 0])) (by simp [results, Try.results34, go_sem]) rfl ⟨rfl, (by repeat (first | exact Below.refl _ _ | refine nx_al ?_ | refine nx_set ?_ (by first | omega | (simp <;> omega)) | refine nx_drew ?_ | refine nx_trans ?_ (by assumption)))⟩

set_option maxHeartbeats 400000 in
theorem ReadValue_true (s : ByteArray) (w : World) (ho : s.size ≤ 65536) (h : s.toList = [116, 114, 117, 101]) :
    Calls Try.prog 34 #[.string s] w fun e w' => e = .returned (.tuple #[.agg #[.int .i64 2, .int .i64 (bitI true), .string ⟨#[]⟩], .int .i64 0]) ∧ Below w.heap.size w w' := by
  go_enter Try.func34, Try.ntmps34
  go_wp2_with fail
  refine (boolValue_bit _ _).mono ?_
  rintro e w1 ⟨rfl, hb1⟩
  obtain ⟨hc1, hf1⟩ := bcell hb1
  have hz1_0 : w.heap.size < w1.heap.size := by have := hb1.size; first | omega | (simp at this; omega)
  go_wp2
  exact bodyPost_ret (v := (.tuple #[.agg #[.int .i64 2, .int .i64 (bitI true), .string ⟨#[]⟩], .int .i64 0])) (by simp [results, Try.results34, go_sem, *]) rfl ⟨rfl, (by repeat (first | exact Below.refl _ _ | refine nx_al ?_ | refine nx_set ?_ (by first | omega | (simp <;> omega)) | refine nx_drew ?_ | refine nx_trans ?_ (by assumption)))⟩

set_option maxHeartbeats 400000 in
theorem ReadValue_false (s : ByteArray) (w : World) (ho : s.size ≤ 65536) (h : s.toList = [102, 97, 108, 115, 101]) :
    Calls Try.prog 34 #[.string s] w fun e w' => e = .returned (.tuple #[.agg #[.int .i64 2, .int .i64 (bitI false), .string ⟨#[]⟩], .int .i64 0]) ∧ Below w.heap.size w w' := by
  go_enter Try.func34, Try.ntmps34
  go_wp2_with fail
  refine (boolValue_bit _ _).mono ?_
  rintro e w1 ⟨rfl, hb1⟩
  obtain ⟨hc1, hf1⟩ := bcell hb1
  have hz1_0 : w.heap.size < w1.heap.size := by have := hb1.size; first | omega | (simp at this; omega)
  go_wp2
  exact bodyPost_ret (v := (.tuple #[.agg #[.int .i64 2, .int .i64 (bitI false), .string ⟨#[]⟩], .int .i64 0])) (by simp [results, Try.results34, go_sem, *]) rfl ⟨rfl, (by repeat (first | exact Below.refl _ _ | refine nx_al ?_ | refine nx_set ?_ (by first | omega | (simp <;> omega)) | refine nx_drew ?_ | refine nx_trans ?_ (by assumption)))⟩

set_option maxHeartbeats 400000 in
theorem ReadValue_num (s : ByteArray) (w : World) (ho : s.size ≤ 65536) (hs : s.size ≤ maxLen) (hs' : s.size ≤ 9223372036854775807) (wd0 : (s.toList == [110, 117, 108, 108]) = false) (wd1 : (s.toList == [116, 114, 117, 101]) = false) (wd2 : (s.toList == [102, 97, 108, 115, 101]) = false) (hn : (numP s.data.toList).2 = true) :
    Calls Try.prog 34 #[.string s] w fun e w' => e = .returned (.tuple #[.agg #[.int .i64 (fitR (numP s.data.toList).1).k, .int .i64 (fitR (numP s.data.toList).1).n, .string (fitR (numP s.data.toList).1).t], .int .i64 (fitR (numP s.data.toList).1).c]) ∧ Below w.heap.size w w' := by
  go_enter Try.func34, Try.ntmps34
  go_wp2_with fail
  refine (readNumber_any s _ hs).mono ?_
  rintro e w' ⟨rfl, rfl⟩
  go_wp2_with fail
  refine (boundedInt_any _ _).mono ?_
  rintro e w1 ⟨rfl, hb1⟩
  obtain ⟨hc1, hf1⟩ := bcell hb1
  have hz1_0 : w.heap.size < w1.heap.size := by have := hb1.size; first | omega | (simp at this; omega)
  go_wp2
  exact bodyPost_ret (v := (.tuple #[.agg #[.int .i64 (fitR (numP s.data.toList).1).k, .int .i64 (fitR (numP s.data.toList).1).n, .string (fitR (numP s.data.toList).1).t], .int .i64 (fitR (numP s.data.toList).1).c])) (by simp [results, Try.results34, go_sem, *]) rfl ⟨rfl, (by repeat (first | exact Below.refl _ _ | refine nx_al ?_ | refine nx_set ?_ (by first | omega | (simp <;> omega)) | refine nx_drew ?_ | refine nx_trans ?_ (by assumption)))⟩

set_option maxHeartbeats 400000 in
theorem specReadValue_long (s : ByteArray) (w : World) (h : 65536 < s.size) :
    Calls Try.prog 33 #[.string s] w fun e w' => e = .returned (.tuple #[.agg #[.int .i64 0, .int .i64 0, .string ⟨#[]⟩], .int .i64 2]) ∧ Below w.heap.size w w' := by
  go_enter Try.func33, Try.ntmps33
  go_wp2
  exact bodyPost_ret (v := (.tuple #[.agg #[.int .i64 0, .int .i64 0, .string ⟨#[]⟩], .int .i64 2])) (by simp [results, Try.results33, go_sem]) rfl ⟨rfl, (by repeat (first | exact Below.refl _ _ | refine nx_al ?_ | refine nx_set ?_ (by first | omega | (simp <;> omega)) | refine nx_drew ?_ | refine nx_trans ?_ (by assumption)))⟩

set_option maxHeartbeats 400000 in
theorem specReadValue_null (s : ByteArray) (w : World) (ho : s.size ≤ 65536) (h : s.toList = [110, 117, 108, 108]) :
    Calls Try.prog 33 #[.string s] w fun e w' => e = .returned (.tuple #[.agg #[.int .i64 0, .int .i64 0, .string ⟨#[]⟩], .int .i64 0]) ∧ Below w.heap.size w w' := by
  go_enter Try.func33, Try.ntmps33
  go_wp2
  exact bodyPost_ret (v := (.tuple #[.agg #[.int .i64 0, .int .i64 0, .string ⟨#[]⟩], .int .i64 0])) (by simp [results, Try.results33, go_sem]) rfl ⟨rfl, (by repeat (first | exact Below.refl _ _ | refine nx_al ?_ | refine nx_set ?_ (by first | omega | (simp <;> omega)) | refine nx_drew ?_ | refine nx_trans ?_ (by assumption)))⟩

set_option maxHeartbeats 400000 in
theorem specReadValue_true (s : ByteArray) (w : World) (ho : s.size ≤ 65536) (h : s.toList = [116, 114, 117, 101]) :
    Calls Try.prog 33 #[.string s] w fun e w' => e = .returned (.tuple #[.agg #[.int .i64 2, .int .i64 (bitI true), .string ⟨#[]⟩], .int .i64 0]) ∧ Below w.heap.size w w' := by
  go_enter Try.func33, Try.ntmps33
  go_wp2_with fail
  refine (l01Bool_any _ _).mono ?_
  rintro e w1 ⟨rfl, hb1⟩
  obtain ⟨hc1, hf1⟩ := bcell hb1
  have hz1_0 : w.heap.size < w1.heap.size := by have := hb1.size; first | omega | (simp at this; omega)
  go_wp2
  exact bodyPost_ret (v := (.tuple #[.agg #[.int .i64 2, .int .i64 (bitI true), .string ⟨#[]⟩], .int .i64 0])) (by simp [results, Try.results33, go_sem, *]) rfl ⟨rfl, (by repeat (first | exact Below.refl _ _ | refine nx_al ?_ | refine nx_set ?_ (by first | omega | (simp <;> omega)) | refine nx_drew ?_ | refine nx_trans ?_ (by assumption)))⟩

set_option maxHeartbeats 400000 in
theorem specReadValue_false (s : ByteArray) (w : World) (ho : s.size ≤ 65536) (h : s.toList = [102, 97, 108, 115, 101]) :
    Calls Try.prog 33 #[.string s] w fun e w' => e = .returned (.tuple #[.agg #[.int .i64 2, .int .i64 (bitI false), .string ⟨#[]⟩], .int .i64 0]) ∧ Below w.heap.size w w' := by
  go_enter Try.func33, Try.ntmps33
  go_wp2_with fail
  refine (l01Bool_any _ _).mono ?_
  rintro e w1 ⟨rfl, hb1⟩
  obtain ⟨hc1, hf1⟩ := bcell hb1
  have hz1_0 : w.heap.size < w1.heap.size := by have := hb1.size; first | omega | (simp at this; omega)
  go_wp2
  exact bodyPost_ret (v := (.tuple #[.agg #[.int .i64 2, .int .i64 (bitI false), .string ⟨#[]⟩], .int .i64 0])) (by simp [results, Try.results33, go_sem, *]) rfl ⟨rfl, (by repeat (first | exact Below.refl _ _ | refine nx_al ?_ | refine nx_set ?_ (by first | omega | (simp <;> omega)) | refine nx_drew ?_ | refine nx_trans ?_ (by assumption)))⟩

set_option maxHeartbeats 400000 in
theorem specReadValue_num (s : ByteArray) (w : World) (ho : s.size ≤ 65536) (hs : s.size ≤ maxLen) (hs' : s.size ≤ 9223372036854775807) (wd0 : (s.toList == [110, 117, 108, 108]) = false) (wd1 : (s.toList == [116, 114, 117, 101]) = false) (wd2 : (s.toList == [102, 97, 108, 115, 101]) = false) (hn : (numP s.data.toList).2 = true) :
    Calls Try.prog 33 #[.string s] w fun e w' => e = .returned (.tuple #[.agg #[.int .i64 (fitR (numP s.data.toList).1).k, .int .i64 (fitR (numP s.data.toList).1).n, .string (fitR (numP s.data.toList).1).t], .int .i64 (fitR (numP s.data.toList).1).c]) ∧ Below w.heap.size w w' := by
  go_enter Try.func33, Try.ntmps33
  go_wp2_with fail
  refine (l00Number_any s _ hs).mono ?_
  rintro e w' ⟨rfl, rfl⟩
  go_wp2_with fail
  refine (l01Fit_any _ _).mono ?_
  rintro e w1 ⟨rfl, hb1⟩
  obtain ⟨hc1, hf1⟩ := bcell hb1
  have hz1_0 : w.heap.size < w1.heap.size := by have := hb1.size; first | omega | (simp at this; omega)
  go_wp2
  exact bodyPost_ret (v := (.tuple #[.agg #[.int .i64 (fitR (numP s.data.toList).1).k, .int .i64 (fitR (numP s.data.toList).1).n, .string (fitR (numP s.data.toList).1).t], .int .i64 (fitR (numP s.data.toList).1).c])) (by simp [results, Try.results33, go_sem, *]) rfl ⟨rfl, (by repeat (first | exact Below.refl _ _ | refine nx_al ?_ | refine nx_set ?_ (by first | omega | (simp <;> omega)) | refine nx_drew ?_ | refine nx_trans ?_ (by assumption)))⟩

set_option maxHeartbeats 400000 in
theorem ReadValue_text (s : ByteArray) (w : World) (ho : s.size ≤ 65536) (hs : s.size ≤ maxLen) (hs' : s.size ≤ 9223372036854775807) (wd0 : (s.toList == [110, 117, 108, 108]) = false) (wd1 : (s.toList == [116, 114, 117, 101]) = false) (wd2 : (s.toList == [102, 97, 108, 115, 101]) = false) (hn : (numP s.data.toList).2 = false) (hq : (quoteP s.data.toList).2 = true) :
    Calls Try.prog 34 #[.string s] w fun e w' => e = .returned (.tuple #[.agg #[.int .i64 3, .int .i64 0, .string ⟨(quoteP s.data.toList).1.toArray⟩], .int .i64 0]) ∧ Below w.heap.size w w' := by
  go_enter Try.func34, Try.ntmps34
  go_wp2_with fail
  refine (readNumber_any s _ hs).mono ?_
  rintro e w' ⟨rfl, rfl⟩
  go_wp2_with fail
  refine (readQuoted_any s _ hs').mono ?_
  rintro e w1 ⟨rfl, hb1⟩
  obtain ⟨hc1, hf1⟩ := bcell hb1
  have hz1_0 : w.heap.size < w1.heap.size := by have := hb1.size; first | omega | (simp at this; omega)
  go_wp2_with fail
  refine (textValue_agg _ _).mono ?_
  rintro e w2 ⟨rfl, hb2⟩
  obtain ⟨hc2, hf2⟩ := bcell hb2
  have hz2_0 : w.heap.size < w2.heap.size := by have := hb2.size; first | omega | (simp at this; omega)
  go_wp2
  exact bodyPost_ret (v := (.tuple #[.agg #[.int .i64 3, .int .i64 0, .string ⟨(quoteP s.data.toList).1.toArray⟩], .int .i64 0])) (by simp [results, Try.results34, go_sem, *]) rfl ⟨rfl, (by repeat (first | exact Below.refl _ _ | refine nx_al ?_ | refine nx_set ?_ (by first | omega | (simp <;> omega)) | refine nx_drew ?_ | refine nx_trans ?_ (by assumption)))⟩

set_option maxHeartbeats 400000 in
theorem ReadValue_form (s : ByteArray) (w : World) (ho : s.size ≤ 65536) (hs : s.size ≤ maxLen) (hs' : s.size ≤ 9223372036854775807) (wd0 : (s.toList == [110, 117, 108, 108]) = false) (wd1 : (s.toList == [116, 114, 117, 101]) = false) (wd2 : (s.toList == [102, 97, 108, 115, 101]) = false) (hn : (numP s.data.toList).2 = false) (hq : (quoteP s.data.toList).2 = false) :
    Calls Try.prog 34 #[.string s] w fun e w' => e = .returned (.tuple #[.agg #[.int .i64 0, .int .i64 0, .string ⟨#[]⟩], .int .i64 3]) ∧ Below w.heap.size w w' := by
  go_enter Try.func34, Try.ntmps34
  go_wp2_with fail
  refine (readNumber_any s _ hs).mono ?_
  rintro e w' ⟨rfl, rfl⟩
  go_wp2_with fail
  refine (readQuoted_any s _ hs').mono ?_
  rintro e w1 ⟨rfl, hb1⟩
  obtain ⟨hc1, hf1⟩ := bcell hb1
  have hz1_0 : w.heap.size < w1.heap.size := by have := hb1.size; first | omega | (simp at this; omega)
  go_wp2
  exact bodyPost_ret (v := (.tuple #[.agg #[.int .i64 0, .int .i64 0, .string ⟨#[]⟩], .int .i64 3])) (by simp [results, Try.results34, go_sem, *]) rfl ⟨rfl, (by repeat (first | exact Below.refl _ _ | refine nx_al ?_ | refine nx_set ?_ (by first | omega | (simp <;> omega)) | refine nx_drew ?_ | refine nx_trans ?_ (by assumption)))⟩

theorem l02Next_some (s : ByteArray) (t : List UInt8) (p : Nat) (w : World) (hs : s.size ≤ 65536) (h1 : 1 ≤ s.size) (h0 : ((s[0].toNat : Int) == 39) = true) (hq : qN s.data.toList = some (t, p)) :
    Calls Try.prog 62 #[.string s, .int .i64 0] w fun e w' => e = .returned (.tuple #[.agg #[.int .i64 4, .int .i64 0, .string ⟨t.toArray⟩], .int .i64 (p : Int), .bool true]) ∧ Below w.heap.size w w' := by
  have := l02Next_quote s w hs h1 h0
  rw [hq] at this
  exact this
theorem l02Next_none (s : ByteArray) (w : World) (hs : s.size ≤ 65536) (h1 : 1 ≤ s.size) (h0 : ((s[0].toNat : Int) == 39) = true) (hq : qN s.data.toList = none) :
    Calls Try.prog 62 #[.string s, .int .i64 0] w fun e w' => e = .returned (.tuple #[.agg #[.int .i64 0, .int .i64 0, .string ⟨#[]⟩], .int .i64 0, .bool false]) ∧ Below w.heap.size w w' := by
  have := l02Next_quote s w hs h1 h0
  rw [hq] at this
  exact this

set_option maxHeartbeats 400000 in
theorem specReadValue_empty (s : ByteArray) (w : World) (ho : s.size ≤ 65536) (hs : s.size ≤ maxLen) (hs' : s.size ≤ 9223372036854775807) (wd0 : (s.toList == [110, 117, 108, 108]) = false) (wd1 : (s.toList == [116, 114, 117, 101]) = false) (wd2 : (s.toList == [102, 97, 108, 115, 101]) = false) (hn : (numP s.data.toList).2 = false) (h0 : s.size = 0) :
    Calls Try.prog 33 #[.string s] w fun e w' => e = .returned (.tuple #[.agg #[.int .i64 0, .int .i64 0, .string ⟨#[]⟩], .int .i64 3]) ∧ Below w.heap.size w w' := by
  have e0 : ¬ (0 : Int) < (s.size : Int) := by omega
  clear h0
  go_enter Try.func33, Try.ntmps33
  go_wp2_with fail
  refine (l00Number_any s _ hs).mono ?_
  rintro e w' ⟨rfl, rfl⟩
  go_wp2
  exact bodyPost_ret (v := (.tuple #[.agg #[.int .i64 0, .int .i64 0, .string ⟨#[]⟩], .int .i64 3])) (by simp [results, Try.results33, go_sem]) rfl ⟨rfl, (by repeat (first | exact Below.refl _ _ | refine nx_al ?_ | refine nx_set ?_ (by first | omega | (simp <;> omega)) | refine nx_drew ?_ | refine nx_trans ?_ (by assumption)))⟩

set_option maxHeartbeats 400000 in
theorem specReadValue_other (s : ByteArray) (w : World) (ho : s.size ≤ 65536) (hs : s.size ≤ maxLen) (hs' : s.size ≤ 9223372036854775807) (wd0 : (s.toList == [110, 117, 108, 108]) = false) (wd1 : (s.toList == [116, 114, 117, 101]) = false) (wd2 : (s.toList == [102, 97, 108, 115, 101]) = false) (hn : (numP s.data.toList).2 = false) (h1 : 1 ≤ s.size) (h0 : ((s[0].toNat : Int) == 39) = false) :
    Calls Try.prog 33 #[.string s] w fun e w' => e = .returned (.tuple #[.agg #[.int .i64 0, .int .i64 0, .string ⟨#[]⟩], .int .i64 3]) ∧ Below w.heap.size w w' := by
  go_enter Try.func33, Try.ntmps33
  go_wp2_with fail
  refine (l00Number_any s _ hs).mono ?_
  rintro e w' ⟨rfl, rfl⟩
  go_wp2
  exact bodyPost_ret (v := (.tuple #[.agg #[.int .i64 0, .int .i64 0, .string ⟨#[]⟩], .int .i64 3])) (by simp [results, Try.results33, go_sem]) rfl ⟨rfl, (by repeat (first | exact Below.refl _ _ | refine nx_al ?_ | refine nx_set ?_ (by first | omega | (simp <;> omega)) | refine nx_drew ?_ | refine nx_trans ?_ (by assumption)))⟩

set_option maxHeartbeats 400000 in
theorem specReadValue_none (s : ByteArray) (w : World) (ho : s.size ≤ 65536) (hs : s.size ≤ maxLen) (hs' : s.size ≤ 9223372036854775807) (wd0 : (s.toList == [110, 117, 108, 108]) = false) (wd1 : (s.toList == [116, 114, 117, 101]) = false) (wd2 : (s.toList == [102, 97, 108, 115, 101]) = false) (hn : (numP s.data.toList).2 = false) (h1 : 1 ≤ s.size) (h0 : ((s[0].toNat : Int) == 39) = true) (hq : Hid (qN s.data.toList = none)) :
    Calls Try.prog 33 #[.string s] w fun e w' => e = .returned (.tuple #[.agg #[.int .i64 0, .int .i64 0, .string ⟨#[]⟩], .int .i64 3]) ∧ Below w.heap.size w w' := by
  go_enter Try.func33, Try.ntmps33
  go_wp2_with fail
  refine (l00Number_any s _ hs).mono ?_
  rintro e w' ⟨rfl, rfl⟩
  go_wp2_with fail
  refine (l02Next_none s _ ho h1 h0 (unhide hq)).mono ?_
  rintro e w1 ⟨rfl, hb1⟩
  obtain ⟨hc1, hf1⟩ := bcell hb1
  have hz1_0 : w.heap.size < w1.heap.size := by have := hb1.size; first | omega | (simp at this; omega)
  go_wp2
  exact bodyPost_ret (v := (.tuple #[.agg #[.int .i64 0, .int .i64 0, .string ⟨#[]⟩], .int .i64 3])) (by simp [results, Try.results33, go_sem, *]) rfl ⟨rfl, (by repeat (first | exact Below.refl _ _ | refine nx_al ?_ | refine nx_set ?_ (by first | omega | (simp <;> omega)) | refine nx_drew ?_ | refine nx_trans ?_ (by assumption)))⟩

set_option maxHeartbeats 400000 in
theorem specReadValue_more (s : ByteArray) (w : World) (t : List UInt8) (p : Nat) (ho : s.size ≤ 65536) (hs : s.size ≤ maxLen) (hs' : s.size ≤ 9223372036854775807) (wd0 : (s.toList == [110, 117, 108, 108]) = false) (wd1 : (s.toList == [116, 114, 117, 101]) = false) (wd2 : (s.toList == [102, 97, 108, 115, 101]) = false) (hn : (numP s.data.toList).2 = false) (h1 : 1 ≤ s.size) (h0 : ((s[0].toNat : Int) == 39) = true) (hp : ((p : Int) == (s.size : Int)) = false) (hq : Hid (qN s.data.toList = some (t, p))) :
    Calls Try.prog 33 #[.string s] w fun e w' => e = .returned (.tuple #[.agg #[.int .i64 0, .int .i64 0, .string ⟨#[]⟩], .int .i64 3]) ∧ Below w.heap.size w w' := by
  go_enter Try.func33, Try.ntmps33
  go_wp2_with fail
  refine (l00Number_any s _ hs).mono ?_
  rintro e w' ⟨rfl, rfl⟩
  go_wp2_with fail
  refine (l02Next_some s t p _ ho h1 h0 (unhide hq)).mono ?_
  rintro e w1 ⟨rfl, hb1⟩
  obtain ⟨hc1, hf1⟩ := bcell hb1
  have hz1_0 : w.heap.size < w1.heap.size := by have := hb1.size; first | omega | (simp at this; omega)
  go_wp2
  exact bodyPost_ret (v := (.tuple #[.agg #[.int .i64 0, .int .i64 0, .string ⟨#[]⟩], .int .i64 3])) (by simp [results, Try.results33, go_sem, *]) rfl ⟨rfl, (by repeat (first | exact Below.refl _ _ | refine nx_al ?_ | refine nx_set ?_ (by first | omega | (simp <;> omega)) | refine nx_drew ?_ | refine nx_trans ?_ (by assumption)))⟩

set_option maxHeartbeats 400000 in
theorem specReadValue_text (s : ByteArray) (w : World) (t : List UInt8) (p : Nat) (ho : s.size ≤ 65536) (hs : s.size ≤ maxLen) (hs' : s.size ≤ 9223372036854775807) (wd0 : (s.toList == [110, 117, 108, 108]) = false) (wd1 : (s.toList == [116, 114, 117, 101]) = false) (wd2 : (s.toList == [102, 97, 108, 115, 101]) = false) (hn : (numP s.data.toList).2 = false) (h1 : 1 ≤ s.size) (h0 : ((s[0].toNat : Int) == 39) = true) (hp : ((p : Int) == (s.size : Int)) = true) (hq : Hid (qN s.data.toList = some (t, p))) :
    Calls Try.prog 33 #[.string s] w fun e w' => e = .returned (.tuple #[.agg #[.int .i64 3, .int .i64 0, .string ⟨t.toArray⟩], .int .i64 0]) ∧ Below w.heap.size w w' := by
  go_enter Try.func33, Try.ntmps33
  go_wp2_with fail
  refine (l00Number_any s _ hs).mono ?_
  rintro e w' ⟨rfl, rfl⟩
  go_wp2_with fail
  refine (l02Next_some s t p _ ho h1 h0 (unhide hq)).mono ?_
  rintro e w1 ⟨rfl, hb1⟩
  obtain ⟨hc1, hf1⟩ := bcell hb1
  have hz1_0 : w.heap.size < w1.heap.size := by have := hb1.size; first | omega | (simp at this; omega)
  go_wp2_with fail
  refine (l01Text_any _ _).mono ?_
  rintro e w2 ⟨rfl, hb2⟩
  obtain ⟨hc2, hf2⟩ := bcell hb2
  have hz2_0 : w.heap.size < w2.heap.size := by have := hb2.size; first | omega | (simp at this; omega)
  have hy1 : w.heap.size < w1.heap.size + 1 := by omega
  have hy2 : w1.heap.size < w2.heap.size := by have := hb2.size; first | omega | (simp at this; omega)
  go_wp2
  exact bodyPost_ret (v := (.tuple #[.agg #[.int .i64 3, .int .i64 0, .string ⟨t.toArray⟩], .int .i64 0])) (by simp [results, Try.results33, go_sem, *]) rfl ⟨rfl, (by repeat (first | exact Below.refl _ _ | refine nx_al ?_ | refine nx_set ?_ (by first | omega | (simp <;> omega)) | refine nx_drew ?_ | refine nx_trans ?_ (by assumption)))⟩

theorem ReadValue_any (s : ByteArray) (w : World) (hs : s.size ≤ maxLen) :
    Calls Try.prog 34 #[.string s] w fun e w' => e = .returned (.tuple #[.agg #[.int .i64 (readR s).k, .int .i64 (readR s).n, .string (readR s).t], .int .i64 (readR s).c]) ∧ Below w.heap.size w w' := by
  have hs' : s.size ≤ 9223372036854775807 := by unfold maxLen at hs; exact hs
  unfold readR
  by_cases ho : 65536 < s.size
  · rw [if_pos ho]; exact ReadValue_long s w ho
  rw [if_neg ho]
  by_cases h0 : s.toList = [110, 117, 108, 108]
  · rw [if_pos h0]; exact ReadValue_null s w (by omega) h0
  rw [if_neg h0]
  by_cases h1 : s.toList = [116, 114, 117, 101]
  · rw [if_pos h1]; exact ReadValue_true s w (by omega) h1
  rw [if_neg h1]
  by_cases h2 : s.toList = [102, 97, 108, 115, 101]
  · rw [if_pos h2]; exact ReadValue_false s w (by omega) h2
  rw [if_neg h2]
  have g0 := beq_eq_false_iff_ne.2 h0
  have g1 := beq_eq_false_iff_ne.2 h1
  have g2 := beq_eq_false_iff_ne.2 h2
  cases hn : (numP s.data.toList).2
  · rw [if_neg (by simp)]
    cases hq : (quoteP s.data.toList).2
    · rw [if_neg (by simp)]; exact ReadValue_form s w (by omega) hs hs' g0 g1 g2 hn hq
    · rw [if_pos rfl]; exact ReadValue_text s w (by omega) hs hs' g0 g1 g2 hn hq
  · rw [if_pos rfl]; exact ReadValue_num s w (by omega) hs hs' g0 g1 g2 hn

theorem quoteP_qN (s : ByteArray) (h1 : 1 ≤ s.size) (h0 : (s[0].toNat : Int) = 39) (t : List UInt8) (p : Nat) (hq : qN s.data.toList = some (t, p)) : quoteP s.data.toList = (if p = s.size then (t, true) else ([], false)) := by
  unfold qN at hq
  rw [list_cons s h1, byte_eq (d := 39) h0]
  unfold quoteP
  dsimp only
  rw [if_pos rfl]
  have hlen : (s.data.toList.drop 1).length = s.size - 1 := by rw [List.length_drop, size_list]
  cases hsc : scanQ (s.data.toList.drop 1) with
  | none => rw [hsc] at hq; cases hq
  | some x =>
    obtain ⟨a, r⟩ := x
    rw [hsc] at hq
    dsimp only at hq
    by_cases ha : a.length ≤ 60
    · rw [if_pos ha] at hq
      simp at hq
      obtain ⟨rfl, rfl⟩ := hq
      cases r with
      | nil =>
        simp only [List.length_nil, Nat.sub_zero, if_true]
        rw [if_pos ha]
      | cons c r =>
        dsimp only
        rw [if_neg]
        simp only [List.length_cons]
        omega
    · rw [if_neg ha] at hq; cases hq
theorem quoteP_qN0 (s : ByteArray) (h1 : 1 ≤ s.size) (h0 : (s[0].toNat : Int) = 39) (hq : qN s.data.toList = none) : quoteP s.data.toList = ([], false) := by
  unfold qN at hq
  rw [list_cons s h1, byte_eq (d := 39) h0]
  unfold quoteP
  dsimp only
  rw [if_pos rfl]
  cases hsc : scanQ (s.data.toList.drop 1) with
  | none => rfl
  | some x =>
    obtain ⟨a, r⟩ := x
    rw [hsc] at hq
    dsimp only at hq
    by_cases ha : a.length ≤ 60
    · rw [if_pos ha] at hq; cases hq
    · cases r with
      | nil => dsimp only; rw [if_neg ha]
      | cons c r => rfl

theorem specReadValue_any (s : ByteArray) (w : World) (hs : s.size ≤ maxLen) :
    Calls Try.prog 33 #[.string s] w fun e w' => e = .returned (.tuple #[.agg #[.int .i64 (readR s).k, .int .i64 (readR s).n, .string (readR s).t], .int .i64 (readR s).c]) ∧ Below w.heap.size w w' := by
  have hs' : s.size ≤ 9223372036854775807 := by unfold maxLen at hs; exact hs
  unfold readR
  by_cases ho : 65536 < s.size
  · rw [if_pos ho]; exact specReadValue_long s w ho
  rw [if_neg ho]
  by_cases h0 : s.toList = [110, 117, 108, 108]
  · rw [if_pos h0]; exact specReadValue_null s w (by omega) h0
  rw [if_neg h0]
  by_cases h1 : s.toList = [116, 114, 117, 101]
  · rw [if_pos h1]; exact specReadValue_true s w (by omega) h1
  rw [if_neg h1]
  by_cases h2 : s.toList = [102, 97, 108, 115, 101]
  · rw [if_pos h2]; exact specReadValue_false s w (by omega) h2
  rw [if_neg h2]
  have g0 := beq_eq_false_iff_ne.2 h0
  have g1 := beq_eq_false_iff_ne.2 h1
  have g2 := beq_eq_false_iff_ne.2 h2
  have ho' : s.size ≤ 65536 := by omega
  cases hn : (numP s.data.toList).2
  · rw [if_neg (by simp)]
    by_cases hz : s.size = 0
    · rw [quoteP_short s (by omega), if_neg (by simp)]
      exact specReadValue_empty s w ho' hs hs' g0 g1 g2 hn hz
    have hp : 1 ≤ s.size := by omega
    by_cases hc : (s[0].toNat : Int) = 39
    · have ec : ((s[0].toNat : Int) == 39) = true := by rw [hc]; rfl
      cases hq : qN s.data.toList with
      | none =>
        rw [quoteP_qN0 s hp hc hq, if_neg (by simp)]
        exact specReadValue_none s w ho' hs hs' g0 g1 g2 hn hp ec (hide hq)
      | some x =>
        obtain ⟨t, p⟩ := x
        rw [quoteP_qN s hp hc t p hq]
        by_cases he : p = s.size
        · rw [if_pos he, if_pos rfl]
          exact specReadValue_text s w t p ho' hs hs' g0 g1 g2 hn hp ec (by rw [he]; simp) (hide hq)
        · rw [if_neg he, if_neg (by simp)]
          exact specReadValue_more s w t p ho' hs hs' g0 g1 g2 hn hp ec (beq_eq_false_iff_ne.2 (by omega)) (hide hq)
    · rw [quoteP_first s (by omega) hc, if_neg (by simp)]
      exact specReadValue_other s w ho' hs hs' g0 g1 g2 hn hp (beq_eq_false_iff_ne.2 hc)
  · rw [if_pos rfl]; exact specReadValue_num s w ho' hs hs' g0 g1 g2 hn

set_option maxHeartbeats 1000000 in
theorem lawReadValue_any (s : ByteArray) (w : World) (hs : s.size ≤ maxLen) :
    Calls Try.prog 11 #[.string s] w fun e w' => e = .returned (.bool true) ∧ Below w.heap.size w w' := by
  have hs' := hs
  unfold maxLen at hs'
  by_cases h : (1048576 : Int) < (s.size : Int)
  · go_enter Try.func11, Try.ntmps11
    go_wp2
    go_ret
    exact ⟨rfl, Below.refl _ _⟩
  have hS := fun w => specReadValue_any s w hs
  have hI := fun w => ReadValue_any s w hs
  generalize readR s = r at hS hI
  obtain ⟨rk, rn, rt, rc⟩ := r
  have HS := hide hS
  have HI := hide hI
  clear hS hI
  go_enter Try.func11, Try.ntmps11
  go_wp2_with fail
  refine (unhide HS _).mono ?_
  rintro e w1 ⟨rfl, hb1⟩
  obtain ⟨hc1, hf1⟩ := bcell hb1
  go_wp2_with fail
  refine (unhide HI _).mono ?_
  rintro e w2 ⟨rfl, hb2⟩
  obtain ⟨hc2, hf2⟩ := bcell hb2
  have hy2 : w1.heap.size < w2.heap.size := by have := hb2.size; first | omega | (simp at this; omega)
  go_wp2_with fail
  refine (eqValue_same rk rn rt _).mono ?_
  rintro e w3 ⟨rfl, hb3⟩
  obtain ⟨hc3, hf3⟩ := bcell hb3
  go_wp2
  go_ret
  exact ⟨rfl, (by repeat (first | exact Below.refl _ _ | refine nx_al ?_ | refine nx_set ?_ (by first | omega | (simp <;> omega)) | refine nx_drew ?_ | refine nx_trans ?_ (by assumption)))⟩

end Go.Proofs.Ytpncohkbdaoceaa
