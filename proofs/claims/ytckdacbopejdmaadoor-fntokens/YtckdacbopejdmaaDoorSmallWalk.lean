/- The words of kinds and the counts of builtins: code and specification answer alike. -/
import Derived.Test.YtckdacbopejdmaaDoorUnaryWalk
namespace Go.Proofs.YtckdacbopejdmaaDoor
open Go.RowKit

def kindW (k : Int) : ByteArray := if k = 0 then ⟨#[110, 117, 108, 108]⟩ else if k = 1 then ⟨#[105, 110, 116]⟩ else if k = 2 then ⟨#[98, 111, 111, 108]⟩ else ⟨#[116, 101, 120, 116]⟩
theorem vok_kind {k n : Int} {t : ByteArray} (h : vokB k n t = true) : k = 0 ∨ k = 1 ∨ k = 2 ∨ k = 3 := by
  unfold vokB at h
  split at h
  · omega
  split at h
  · omega
  split at h
  · omega
  split at h
  · omega
  cases h

set_option maxHeartbeats 400000 in
theorem KindWord_bad (k n : Int) (t : ByteArray) (w : World) (ht : t.size ≤ maxLen) (hv : vokB k n t = false) :
    Calls Tryd.prog 12 #[.agg #[.int .i64 k, .int .i64 n, .string t]] w fun e w' => e = .returned (.tuple #[.string ⟨#[]⟩, .int .i64 1]) ∧ Below w.heap.size w w' := by
  go_enter Tryd.func12, Tryd.ntmps12
  go_wp2_with fail
  refine (ValueOK_any k n t _ ht).mono ?_
  rintro e w1 ⟨rfl, hb1⟩
  obtain ⟨hc1, hf1⟩ := bcell hb1
  have hz1_0 : w.heap.size < w1.heap.size := by have := hb1.size; first | omega | (simp at this; omega)
  go_wp2
  go_ret2
  exact ⟨rfl, (by repeat (first | exact Below.refl _ _ | refine nx_al ?_ | refine nx_set ?_ (by simp <;> omega) | refine nx_drew ?_ | refine nx_trans ?_ (by assumption)))⟩

set_option maxHeartbeats 400000 in
theorem KindWord_0 (n : Int) (t : ByteArray) (w : World) (ht : t.size ≤ maxLen) (hv : vokB 0 n t = true) :
    Calls Tryd.prog 12 #[.agg #[.int .i64 0, .int .i64 n, .string t]] w fun e w' => e = .returned (.tuple #[.string ⟨#[110, 117, 108, 108]⟩, .int .i64 0]) ∧ Below w.heap.size w w' := by
  go_enter Tryd.func12, Tryd.ntmps12
  go_wp2_with fail
  refine (ValueOK_any 0 n t _ ht).mono ?_
  rintro e w1 ⟨rfl, hb1⟩
  obtain ⟨hc1, hf1⟩ := bcell hb1
  have hz1_0 : w.heap.size < w1.heap.size := by have := hb1.size; first | omega | (simp at this; omega)
  go_wp2
  go_ret2
  exact ⟨rfl, (by repeat (first | exact Below.refl _ _ | refine nx_al ?_ | refine nx_set ?_ (by simp <;> omega) | refine nx_drew ?_ | refine nx_trans ?_ (by assumption)))⟩

set_option maxHeartbeats 400000 in
theorem KindWord_1 (n : Int) (t : ByteArray) (w : World) (ht : t.size ≤ maxLen) (hv : vokB 1 n t = true) :
    Calls Tryd.prog 12 #[.agg #[.int .i64 1, .int .i64 n, .string t]] w fun e w' => e = .returned (.tuple #[.string ⟨#[105, 110, 116]⟩, .int .i64 0]) ∧ Below w.heap.size w w' := by
  go_enter Tryd.func12, Tryd.ntmps12
  go_wp2_with fail
  refine (ValueOK_any 1 n t _ ht).mono ?_
  rintro e w1 ⟨rfl, hb1⟩
  obtain ⟨hc1, hf1⟩ := bcell hb1
  have hz1_0 : w.heap.size < w1.heap.size := by have := hb1.size; first | omega | (simp at this; omega)
  go_wp2
  go_ret2
  exact ⟨rfl, (by repeat (first | exact Below.refl _ _ | refine nx_al ?_ | refine nx_set ?_ (by simp <;> omega) | refine nx_drew ?_ | refine nx_trans ?_ (by assumption)))⟩

set_option maxHeartbeats 400000 in
theorem KindWord_2 (n : Int) (t : ByteArray) (w : World) (ht : t.size ≤ maxLen) (hv : vokB 2 n t = true) :
    Calls Tryd.prog 12 #[.agg #[.int .i64 2, .int .i64 n, .string t]] w fun e w' => e = .returned (.tuple #[.string ⟨#[98, 111, 111, 108]⟩, .int .i64 0]) ∧ Below w.heap.size w w' := by
  go_enter Tryd.func12, Tryd.ntmps12
  go_wp2_with fail
  refine (ValueOK_any 2 n t _ ht).mono ?_
  rintro e w1 ⟨rfl, hb1⟩
  obtain ⟨hc1, hf1⟩ := bcell hb1
  have hz1_0 : w.heap.size < w1.heap.size := by have := hb1.size; first | omega | (simp at this; omega)
  go_wp2
  go_ret2
  exact ⟨rfl, (by repeat (first | exact Below.refl _ _ | refine nx_al ?_ | refine nx_set ?_ (by simp <;> omega) | refine nx_drew ?_ | refine nx_trans ?_ (by assumption)))⟩

set_option maxHeartbeats 400000 in
theorem KindWord_3 (n : Int) (t : ByteArray) (w : World) (ht : t.size ≤ maxLen) (hv : vokB 3 n t = true) :
    Calls Tryd.prog 12 #[.agg #[.int .i64 3, .int .i64 n, .string t]] w fun e w' => e = .returned (.tuple #[.string ⟨#[116, 101, 120, 116]⟩, .int .i64 0]) ∧ Below w.heap.size w w' := by
  go_enter Tryd.func12, Tryd.ntmps12
  go_wp2_with fail
  refine (ValueOK_any 3 n t _ ht).mono ?_
  rintro e w1 ⟨rfl, hb1⟩
  obtain ⟨hc1, hf1⟩ := bcell hb1
  have hz1_0 : w.heap.size < w1.heap.size := by have := hb1.size; first | omega | (simp at this; omega)
  go_wp2
  go_ret2
  exact ⟨rfl, (by repeat (first | exact Below.refl _ _ | refine nx_al ?_ | refine nx_set ?_ (by simp <;> omega) | refine nx_drew ?_ | refine nx_trans ?_ (by assumption)))⟩

theorem KindWord_any (k n : Int) (t : ByteArray) (w : World) (ht : t.size ≤ maxLen) :
    Calls Tryd.prog 12 #[.agg #[.int .i64 k, .int .i64 n, .string t]] w fun e w' => e = .returned (.tuple #[.string (if vokB k n t = true then kindW k else ⟨#[]⟩), .int .i64 (bitI (!vokB k n t))]) ∧ Below w.heap.size w w' := by
  cases hv : vokB k n t
  · exact KindWord_bad k n t w ht hv
  · rcases vok_kind hv with rfl | rfl | rfl | rfl
    · exact KindWord_0 n t w ht hv
    · exact KindWord_1 n t w ht hv
    · exact KindWord_2 n t w ht hv
    · exact KindWord_3 n t w ht hv

set_option maxHeartbeats 400000 in
theorem specKindWord_bad (k n : Int) (t : ByteArray) (w : World) (ht : t.size ≤ maxLen) (hv : vokB k n t = false) :
    Calls Tryd.prog 13 #[.agg #[.int .i64 k, .int .i64 n, .string t]] w fun e w' => e = .returned (.tuple #[.string ⟨#[]⟩, .int .i64 1]) ∧ Below w.heap.size w w' := by
  go_enter Tryd.func13, Tryd.ntmps13
  go_wp2_with fail
  refine (specValueOK_any k n t _ ht).mono ?_
  rintro e w1 ⟨rfl, hb1⟩
  obtain ⟨hc1, hf1⟩ := bcell hb1
  have hz1_0 : w.heap.size < w1.heap.size := by have := hb1.size; first | omega | (simp at this; omega)
  go_wp2
  go_ret2
  exact ⟨rfl, (by repeat (first | exact Below.refl _ _ | refine nx_al ?_ | refine nx_set ?_ (by simp <;> omega) | refine nx_drew ?_ | refine nx_trans ?_ (by assumption)))⟩

set_option maxHeartbeats 400000 in
theorem specKindWord_0 (n : Int) (t : ByteArray) (w : World) (ht : t.size ≤ maxLen) (hv : vokB 0 n t = true) :
    Calls Tryd.prog 13 #[.agg #[.int .i64 0, .int .i64 n, .string t]] w fun e w' => e = .returned (.tuple #[.string ⟨#[110, 117, 108, 108]⟩, .int .i64 0]) ∧ Below w.heap.size w w' := by
  go_enter Tryd.func13, Tryd.ntmps13
  go_wp2_with fail
  refine (specValueOK_any 0 n t _ ht).mono ?_
  rintro e w1 ⟨rfl, hb1⟩
  obtain ⟨hc1, hf1⟩ := bcell hb1
  have hz1_0 : w.heap.size < w1.heap.size := by have := hb1.size; first | omega | (simp at this; omega)
  go_wp2
  go_ret2
  exact ⟨rfl, (by repeat (first | exact Below.refl _ _ | refine nx_al ?_ | refine nx_set ?_ (by simp <;> omega) | refine nx_drew ?_ | refine nx_trans ?_ (by assumption)))⟩

set_option maxHeartbeats 400000 in
theorem specKindWord_1 (n : Int) (t : ByteArray) (w : World) (ht : t.size ≤ maxLen) (hv : vokB 1 n t = true) :
    Calls Tryd.prog 13 #[.agg #[.int .i64 1, .int .i64 n, .string t]] w fun e w' => e = .returned (.tuple #[.string ⟨#[105, 110, 116]⟩, .int .i64 0]) ∧ Below w.heap.size w w' := by
  go_enter Tryd.func13, Tryd.ntmps13
  go_wp2_with fail
  refine (specValueOK_any 1 n t _ ht).mono ?_
  rintro e w1 ⟨rfl, hb1⟩
  obtain ⟨hc1, hf1⟩ := bcell hb1
  have hz1_0 : w.heap.size < w1.heap.size := by have := hb1.size; first | omega | (simp at this; omega)
  go_wp2
  go_ret2
  exact ⟨rfl, (by repeat (first | exact Below.refl _ _ | refine nx_al ?_ | refine nx_set ?_ (by simp <;> omega) | refine nx_drew ?_ | refine nx_trans ?_ (by assumption)))⟩

set_option maxHeartbeats 400000 in
theorem specKindWord_2 (n : Int) (t : ByteArray) (w : World) (ht : t.size ≤ maxLen) (hv : vokB 2 n t = true) :
    Calls Tryd.prog 13 #[.agg #[.int .i64 2, .int .i64 n, .string t]] w fun e w' => e = .returned (.tuple #[.string ⟨#[98, 111, 111, 108]⟩, .int .i64 0]) ∧ Below w.heap.size w w' := by
  go_enter Tryd.func13, Tryd.ntmps13
  go_wp2_with fail
  refine (specValueOK_any 2 n t _ ht).mono ?_
  rintro e w1 ⟨rfl, hb1⟩
  obtain ⟨hc1, hf1⟩ := bcell hb1
  have hz1_0 : w.heap.size < w1.heap.size := by have := hb1.size; first | omega | (simp at this; omega)
  go_wp2
  go_ret2
  exact ⟨rfl, (by repeat (first | exact Below.refl _ _ | refine nx_al ?_ | refine nx_set ?_ (by simp <;> omega) | refine nx_drew ?_ | refine nx_trans ?_ (by assumption)))⟩

set_option maxHeartbeats 400000 in
theorem specKindWord_3 (n : Int) (t : ByteArray) (w : World) (ht : t.size ≤ maxLen) (hv : vokB 3 n t = true) :
    Calls Tryd.prog 13 #[.agg #[.int .i64 3, .int .i64 n, .string t]] w fun e w' => e = .returned (.tuple #[.string ⟨#[116, 101, 120, 116]⟩, .int .i64 0]) ∧ Below w.heap.size w w' := by
  go_enter Tryd.func13, Tryd.ntmps13
  go_wp2_with fail
  refine (specValueOK_any 3 n t _ ht).mono ?_
  rintro e w1 ⟨rfl, hb1⟩
  obtain ⟨hc1, hf1⟩ := bcell hb1
  have hz1_0 : w.heap.size < w1.heap.size := by have := hb1.size; first | omega | (simp at this; omega)
  go_wp2
  go_ret2
  exact ⟨rfl, (by repeat (first | exact Below.refl _ _ | refine nx_al ?_ | refine nx_set ?_ (by simp <;> omega) | refine nx_drew ?_ | refine nx_trans ?_ (by assumption)))⟩

theorem specKindWord_any (k n : Int) (t : ByteArray) (w : World) (ht : t.size ≤ maxLen) :
    Calls Tryd.prog 13 #[.agg #[.int .i64 k, .int .i64 n, .string t]] w fun e w' => e = .returned (.tuple #[.string (if vokB k n t = true then kindW k else ⟨#[]⟩), .int .i64 (bitI (!vokB k n t))]) ∧ Below w.heap.size w w' := by
  cases hv : vokB k n t
  · exact specKindWord_bad k n t w ht hv
  · rcases vok_kind hv with rfl | rfl | rfl | rfl
    · exact specKindWord_0 n t w ht hv
    · exact specKindWord_1 n t w ht hv
    · exact specKindWord_2 n t w ht hv
    · exact specKindWord_3 n t w ht hv

def cntP (l : List UInt8) : Int × Int :=
  if 65536 < l.length then (0, 2)
  else if l = [108, 101, 110] then (1, 0)
  else if l = [115, 116, 114] then (1, 0)
  else if l = [97, 98, 115] then (1, 0)
  else if l = [97, 116] then (2, 0)
  else if l = [109, 97, 120] then (2, 0)
  else if l = [109, 105, 110] then (2, 0)
  else if l = [99, 117, 116] then (3, 0)
  else (0, 5)

theorem len_toList' (s : ByteArray) : s.toList.length = s.size := by rw [ByteArray.toList_eq]; exact Array.length_toList

set_option maxHeartbeats 400000 in
theorem BuiltinCount_long (s : ByteArray) (w : World) (h : 65536 < s.size) :
    Calls Tryd.prog 17 #[.string s] w fun e w' => e = .returned (.tuple #[.int .i64 0, .int .i64 2]) ∧ w' = w := by
  go_enter Tryd.func17, Tryd.ntmps17
  go_wp2
  go_ret2
  exact ⟨rfl, rfl⟩

set_option maxHeartbeats 400000 in
theorem BuiltinCount_len (s : ByteArray) (w : World) (hl : s.size ≤ 65536) (h : s.toList = [108, 101, 110]) :
    Calls Tryd.prog 17 #[.string s] w fun e w' => e = .returned (.tuple #[.int .i64 1, .int .i64 0]) ∧ w' = w := by
  go_enter Tryd.func17, Tryd.ntmps17
  go_wp2
  go_ret2
  exact ⟨rfl, rfl⟩

set_option maxHeartbeats 400000 in
theorem BuiltinCount_str (s : ByteArray) (w : World) (hl : s.size ≤ 65536) (h : s.toList = [115, 116, 114]) :
    Calls Tryd.prog 17 #[.string s] w fun e w' => e = .returned (.tuple #[.int .i64 1, .int .i64 0]) ∧ w' = w := by
  go_enter Tryd.func17, Tryd.ntmps17
  go_wp2
  go_ret2
  exact ⟨rfl, rfl⟩

set_option maxHeartbeats 400000 in
theorem BuiltinCount_abs (s : ByteArray) (w : World) (hl : s.size ≤ 65536) (h : s.toList = [97, 98, 115]) :
    Calls Tryd.prog 17 #[.string s] w fun e w' => e = .returned (.tuple #[.int .i64 1, .int .i64 0]) ∧ w' = w := by
  go_enter Tryd.func17, Tryd.ntmps17
  go_wp2
  go_ret2
  exact ⟨rfl, rfl⟩

set_option maxHeartbeats 400000 in
theorem BuiltinCount_at (s : ByteArray) (w : World) (hl : s.size ≤ 65536) (h : s.toList = [97, 116]) :
    Calls Tryd.prog 17 #[.string s] w fun e w' => e = .returned (.tuple #[.int .i64 2, .int .i64 0]) ∧ w' = w := by
  go_enter Tryd.func17, Tryd.ntmps17
  go_wp2
  go_ret2
  exact ⟨rfl, rfl⟩

set_option maxHeartbeats 400000 in
theorem BuiltinCount_max (s : ByteArray) (w : World) (hl : s.size ≤ 65536) (h : s.toList = [109, 97, 120]) :
    Calls Tryd.prog 17 #[.string s] w fun e w' => e = .returned (.tuple #[.int .i64 2, .int .i64 0]) ∧ w' = w := by
  go_enter Tryd.func17, Tryd.ntmps17
  go_wp2
  go_ret2
  exact ⟨rfl, rfl⟩

set_option maxHeartbeats 400000 in
theorem BuiltinCount_min (s : ByteArray) (w : World) (hl : s.size ≤ 65536) (h : s.toList = [109, 105, 110]) :
    Calls Tryd.prog 17 #[.string s] w fun e w' => e = .returned (.tuple #[.int .i64 2, .int .i64 0]) ∧ w' = w := by
  go_enter Tryd.func17, Tryd.ntmps17
  go_wp2
  go_ret2
  exact ⟨rfl, rfl⟩

set_option maxHeartbeats 400000 in
theorem BuiltinCount_cut (s : ByteArray) (w : World) (hl : s.size ≤ 65536) (h : s.toList = [99, 117, 116]) :
    Calls Tryd.prog 17 #[.string s] w fun e w' => e = .returned (.tuple #[.int .i64 3, .int .i64 0]) ∧ w' = w := by
  go_enter Tryd.func17, Tryd.ntmps17
  go_wp2
  go_ret2
  exact ⟨rfl, rfl⟩

set_option maxHeartbeats 400000 in
theorem BuiltinCount_none (s : ByteArray) (w : World) (hl : s.size ≤ 65536) (h0 : (s.toList == [108, 101, 110]) = false) (h1 : (s.toList == [115, 116, 114]) = false) (h2 : (s.toList == [97, 98, 115]) = false) (h3 : (s.toList == [97, 116]) = false) (h4 : (s.toList == [109, 97, 120]) = false) (h5 : (s.toList == [109, 105, 110]) = false) (h6 : (s.toList == [99, 117, 116]) = false) :
    Calls Tryd.prog 17 #[.string s] w fun e w' => e = .returned (.tuple #[.int .i64 0, .int .i64 5]) ∧ w' = w := by
  go_enter Tryd.func17, Tryd.ntmps17
  go_wp2
  go_ret2
  exact ⟨rfl, rfl⟩

theorem BuiltinCount_any (s : ByteArray) (w : World) :
    Calls Tryd.prog 17 #[.string s] w fun e w' => e = .returned (.tuple #[.int .i64 (cntP s.toList).1, .int .i64 (cntP s.toList).2]) ∧ w' = w := by
  unfold cntP
  rw [len_toList']
  by_cases h : 65536 < s.size
  · rw [if_pos h]; exact BuiltinCount_long s w h
  rw [if_neg h]
  by_cases h0 : s.toList = [108, 101, 110]
  · rw [if_pos h0]; exact BuiltinCount_len s w (by omega) h0
  rw [if_neg h0]
  by_cases h1 : s.toList = [115, 116, 114]
  · rw [if_pos h1]; exact BuiltinCount_str s w (by omega) h1
  rw [if_neg h1]
  by_cases h2 : s.toList = [97, 98, 115]
  · rw [if_pos h2]; exact BuiltinCount_abs s w (by omega) h2
  rw [if_neg h2]
  by_cases h3 : s.toList = [97, 116]
  · rw [if_pos h3]; exact BuiltinCount_at s w (by omega) h3
  rw [if_neg h3]
  by_cases h4 : s.toList = [109, 97, 120]
  · rw [if_pos h4]; exact BuiltinCount_max s w (by omega) h4
  rw [if_neg h4]
  by_cases h5 : s.toList = [109, 105, 110]
  · rw [if_pos h5]; exact BuiltinCount_min s w (by omega) h5
  rw [if_neg h5]
  by_cases h6 : s.toList = [99, 117, 116]
  · rw [if_pos h6]; exact BuiltinCount_cut s w (by omega) h6
  rw [if_neg h6]
  exact BuiltinCount_none s w (by omega) (beq_eq_false_iff_ne.2 h0) (beq_eq_false_iff_ne.2 h1) (beq_eq_false_iff_ne.2 h2) (beq_eq_false_iff_ne.2 h3) (beq_eq_false_iff_ne.2 h4) (beq_eq_false_iff_ne.2 h5) (beq_eq_false_iff_ne.2 h6)

end Go.Proofs.YtckdacbopejdmaaDoor
