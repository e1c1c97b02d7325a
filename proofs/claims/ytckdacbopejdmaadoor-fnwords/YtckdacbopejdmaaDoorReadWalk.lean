/- Values out of texts: code and specification both answer 'readR'; the law. -/
import Derived.Test.YtckdacbopejdmaaDoorNextWalk2
import Derived.Test.YtckdacbopejdmaaDoorBinary1
import Derived.Test.YtckdacbopejdmaaDoorLexN
namespace Go.Proofs.YtckdacbopejdmaaDoor
open Go.RowKit
set_option linter.unusedVariables false

def readR (s : ByteArray) : Res :=
  if 65536 < s.size then zeroR 2
  else if s.toList = [110, 117, 108, 108] then zeroR 0
  else if s.toList = [116, 114, 117, 101] then boolR true
  else if s.toList = [102, 97, 108, 115, 101] then boolR false
  else if (numP s.data.toList).2 = true then fitR (numP s.data.toList).1
  else if (quoteP s.data.toList).2 = true then textR ⟨(quoteP s.data.toList).1.toArray⟩
  else zeroR 3

theorem quoteP_short (s : ByteArray) (h : s.size < 2) : quoteP s.data.toList = ([], false) := by
  by_cases h0 : s.size = 0
  · have : s.data.toList = [] := List.eq_nil_of_length_eq_zero (by rw [size_list]; exact h0)
    rw [this]; rfl
  · rw [list_cons s (by omega), drop_end s 1 (by omega)]
    exact quoteP_last _ _ (by rintro ⟨l', hl⟩; simp at hl)
theorem quoteP_first (s : ByteArray) (h0 : 0 < s.size) (h : ¬ (s[0].toNat : Int) = 39) : quoteP s.data.toList = ([], false) := by
  rw [list_cons s h0]
  unfold quoteP
  exact if_neg (byte_ne (d := 39) h)
theorem readQuoted_is (s : ByteArray) (t : List UInt8) (n : Nat) (w : World) (hs : s.size ≤ 65536) (h : rqP s.data.toList = (t, n)) :
    Calls Tryd.prog 46 #[.string s] w fun e w' => e = .returned (.tuple #[.string ⟨t.toArray⟩, .int .i64 (n : Int)]) ∧ Below w.heap.size w w' := by
  have := readQuoted_any s w hs
  rw [h] at this
  exact this
theorem quotable_is (t : List UInt8) (b : Bool) (w : World) (hs : t.length ≤ 65536) (h : plainB t = b) :
    Calls Tryd.prog 41 #[.string ⟨t.toArray⟩] w fun e w' => e = .returned (.bool b) ∧ w' = w := by
  have := quotable_any ⟨t.toArray⟩ w (by show t.toArray.size ≤ maxLen; unfold maxLen; simp; omega)
  rw [show (⟨t.toArray⟩ : ByteArray).data.toList = t by simp, h] at this
  exact this

set_option maxHeartbeats 400000 in
theorem ReadValue_long (s : ByteArray) (w : World) (h : 65536 < s.size) :
    Calls Tryd.prog 15 #[.string s] w fun e w' => e = .returned (.tuple #[.agg #[.int .i64 0, .int .i64 0, .string ⟨#[]⟩], .int .i64 2]) ∧ Below w.heap.size w w' := by
  go_enter Tryd.func15, Tryd.ntmps15
  go_wp2
  exact bodyPost_ret (v := (.tuple #[.agg #[.int .i64 0, .int .i64 0, .string ⟨#[]⟩], .int .i64 2])) (by simp [results, Tryd.results15, go_sem]) rfl ⟨rfl, (by repeat (first | exact Below.refl _ _ | refine nx_al ?_ | refine nx_set ?_ (by first | omega | (simp <;> omega)) | refine nx_drew ?_ | refine nx_trans ?_ (by assumption)))⟩

set_option maxHeartbeats 400000 in
theorem ReadValue_null (s : ByteArray) (w : World) (ho : s.size ≤ 65536) (h : s.toList = [110, 117, 108, 108]) :
    Calls Tryd.prog 15 #[.string s] w fun e w' => e = .returned (.tuple #[.agg #[.int .i64 0, .int .i64 0, .string ⟨#[]⟩], .int .i64 0]) ∧ Below w.heap.size w w' := by
  go_enter Tryd.func15, Tryd.ntmps15
  go_wp2
  exact bodyPost_ret (v := (.tuple #[.agg #[.int .i64 0, .int .i64 0, .string ⟨#[]⟩], .int .i64 0])) (by simp [results, Tryd.results15, go_sem]) rfl ⟨rfl, (by repeat (first | exact Below.refl _ _ | refine nx_al ?_ | refine nx_set ?_ (by first | omega | (simp <;> omega)) | refine nx_drew ?_ | refine nx_trans ?_ (by assumption)))⟩

set_option maxHeartbeats 400000 in
theorem ReadValue_true (s : ByteArray) (w : World) (ho : s.size ≤ 65536) (h : s.toList = [116, 114, 117, 101]) :
    Calls Tryd.prog 15 #[.string s] w fun e w' => e = .returned (.tuple #[.agg #[.int .i64 2, .int .i64 (bitI true), .string ⟨#[]⟩], .int .i64 0]) ∧ Below w.heap.size w w' := by
  go_enter Tryd.func15, Tryd.ntmps15
  go_wp2_with fail
  refine (boolValue_bit _ _).mono ?_
  rintro e w1 ⟨rfl, hb1⟩
  obtain ⟨hc1, hf1⟩ := bcell hb1
  have hz1_0 : w.heap.size < w1.heap.size := by have := hb1.size; first | omega | (simp at this; omega)
  go_wp2
  exact bodyPost_ret (v := (.tuple #[.agg #[.int .i64 2, .int .i64 (bitI true), .string ⟨#[]⟩], .int .i64 0])) (by simp [results, Tryd.results15, go_sem, *]) rfl ⟨rfl, (by repeat (first | exact Below.refl _ _ | refine nx_al ?_ | refine nx_set ?_ (by first | omega | (simp <;> omega)) | refine nx_drew ?_ | refine nx_trans ?_ (by assumption)))⟩

set_option maxHeartbeats 400000 in
theorem ReadValue_false (s : ByteArray) (w : World) (ho : s.size ≤ 65536) (h : s.toList = [102, 97, 108, 115, 101]) :
    Calls Tryd.prog 15 #[.string s] w fun e w' => e = .returned (.tuple #[.agg #[.int .i64 2, .int .i64 (bitI false), .string ⟨#[]⟩], .int .i64 0]) ∧ Below w.heap.size w w' := by
  go_enter Tryd.func15, Tryd.ntmps15
  go_wp2_with fail
  refine (boolValue_bit _ _).mono ?_
  rintro e w1 ⟨rfl, hb1⟩
  obtain ⟨hc1, hf1⟩ := bcell hb1
  have hz1_0 : w.heap.size < w1.heap.size := by have := hb1.size; first | omega | (simp at this; omega)
  go_wp2
  exact bodyPost_ret (v := (.tuple #[.agg #[.int .i64 2, .int .i64 (bitI false), .string ⟨#[]⟩], .int .i64 0])) (by simp [results, Tryd.results15, go_sem, *]) rfl ⟨rfl, (by repeat (first | exact Below.refl _ _ | refine nx_al ?_ | refine nx_set ?_ (by first | omega | (simp <;> omega)) | refine nx_drew ?_ | refine nx_trans ?_ (by assumption)))⟩

set_option maxHeartbeats 400000 in
theorem ReadValue_num (s : ByteArray) (w : World) (ho : s.size ≤ 65536) (hs : s.size ≤ maxLen) (hs' : s.size ≤ 9223372036854775807) (wd0 : (s.toList == [110, 117, 108, 108]) = false) (wd1 : (s.toList == [116, 114, 117, 101]) = false) (wd2 : (s.toList == [102, 97, 108, 115, 101]) = false) (hn : (numP s.data.toList).2 = true) :
    Calls Tryd.prog 15 #[.string s] w fun e w' => e = .returned (.tuple #[.agg #[.int .i64 (fitR (numP s.data.toList).1).k, .int .i64 (fitR (numP s.data.toList).1).n, .string (fitR (numP s.data.toList).1).t], .int .i64 (fitR (numP s.data.toList).1).c]) ∧ Below w.heap.size w w' := by
  go_enter Tryd.func15, Tryd.ntmps15
  go_wp2_with fail
  refine (readNumber_any s _ hs).mono ?_
  rintro e w' ⟨rfl, rfl⟩
  go_wp2_with fail
  refine (boundedInt_any _ _).mono ?_
  rintro e w1 ⟨rfl, hb1⟩
  obtain ⟨hc1, hf1⟩ := bcell hb1
  have hz1_0 : w.heap.size < w1.heap.size := by have := hb1.size; first | omega | (simp at this; omega)
  go_wp2
  exact bodyPost_ret (v := (.tuple #[.agg #[.int .i64 (fitR (numP s.data.toList).1).k, .int .i64 (fitR (numP s.data.toList).1).n, .string (fitR (numP s.data.toList).1).t], .int .i64 (fitR (numP s.data.toList).1).c])) (by simp [results, Tryd.results15, go_sem, *]) rfl ⟨rfl, (by repeat (first | exact Below.refl _ _ | refine nx_al ?_ | refine nx_set ?_ (by first | omega | (simp <;> omega)) | refine nx_drew ?_ | refine nx_trans ?_ (by assumption)))⟩

set_option maxHeartbeats 400000 in
theorem ReadValue_none (s : ByteArray) (w : World) (t : List UInt8) (n : Nat) (ho : s.size ≤ 65536) (hs : s.size ≤ maxLen) (wd0 : (s.toList == [110, 117, 108, 108]) = false) (wd1 : (s.toList == [116, 114, 117, 101]) = false) (wd2 : (s.toList == [102, 97, 108, 115, 101]) = false) (hn : (numP s.data.toList).2 = false) (hr : Hid (rqP s.data.toList = (t, n))) (hz : n = 0) :
    Calls Tryd.prog 15 #[.string s] w fun e w' => e = .returned (.tuple #[.agg #[.int .i64 0, .int .i64 0, .string ⟨#[]⟩], .int .i64 3]) ∧ Below w.heap.size w w' := by
  have e1 : ¬ (0 : Int) < (n : Int) := by omega
  clear hz
  go_enter Tryd.func15, Tryd.ntmps15
  go_wp2_with fail
  refine (readNumber_any s _ hs).mono ?_
  rintro e w' ⟨rfl, rfl⟩
  go_wp2_with fail
  refine (readQuoted_is s t n _ ho (unhide hr)).mono ?_
  rintro e w1 ⟨rfl, hb1⟩
  obtain ⟨hc1, hf1⟩ := bcell hb1
  have hz1_0 : w.heap.size < w1.heap.size := by have := hb1.size; first | omega | (simp at this; omega)
  go_wp2
  exact bodyPost_ret (v := (.tuple #[.agg #[.int .i64 0, .int .i64 0, .string ⟨#[]⟩], .int .i64 3])) (by simp [results, Tryd.results15, go_sem, *]) rfl ⟨rfl, (by repeat (first | exact Below.refl _ _ | refine nx_al ?_ | refine nx_set ?_ (by first | omega | (simp <;> omega)) | refine nx_drew ?_ | refine nx_trans ?_ (by assumption)))⟩

set_option maxHeartbeats 400000 in
theorem ReadValue_more (s : ByteArray) (w : World) (t : List UInt8) (n : Nat) (ho : s.size ≤ 65536) (hs : s.size ≤ maxLen) (wd0 : (s.toList == [110, 117, 108, 108]) = false) (wd1 : (s.toList == [116, 114, 117, 101]) = false) (wd2 : (s.toList == [102, 97, 108, 115, 101]) = false) (hn : (numP s.data.toList).2 = false) (hr : Hid (rqP s.data.toList = (t, n))) (hz : 0 < n) (hm : n ≠ s.size) :
    Calls Tryd.prog 15 #[.string s] w fun e w' => e = .returned (.tuple #[.agg #[.int .i64 0, .int .i64 0, .string ⟨#[]⟩], .int .i64 3]) ∧ Below w.heap.size w w' := by
  have e1 : (0 : Int) < (n : Int) := by omega
  have e2 : ((n : Int) == (s.size : Int)) = false := beq_eq_false_iff_ne.2 (by omega)
  clear hz hm
  go_enter Tryd.func15, Tryd.ntmps15
  go_wp2_with fail
  refine (readNumber_any s _ hs).mono ?_
  rintro e w' ⟨rfl, rfl⟩
  go_wp2_with fail
  refine (readQuoted_is s t n _ ho (unhide hr)).mono ?_
  rintro e w1 ⟨rfl, hb1⟩
  obtain ⟨hc1, hf1⟩ := bcell hb1
  have hz1_0 : w.heap.size < w1.heap.size := by have := hb1.size; first | omega | (simp at this; omega)
  go_wp2
  exact bodyPost_ret (v := (.tuple #[.agg #[.int .i64 0, .int .i64 0, .string ⟨#[]⟩], .int .i64 3])) (by simp [results, Tryd.results15, go_sem, *]) rfl ⟨rfl, (by repeat (first | exact Below.refl _ _ | refine nx_al ?_ | refine nx_set ?_ (by first | omega | (simp <;> omega)) | refine nx_drew ?_ | refine nx_trans ?_ (by assumption)))⟩

set_option maxHeartbeats 400000 in
theorem ReadValue_bad (s : ByteArray) (w : World) (t : List UInt8) (n : Nat) (ho : s.size ≤ 65536) (hs : s.size ≤ maxLen) (wd0 : (s.toList == [110, 117, 108, 108]) = false) (wd1 : (s.toList == [116, 114, 117, 101]) = false) (wd2 : (s.toList == [102, 97, 108, 115, 101]) = false) (hn : (numP s.data.toList).2 = false) (hr : Hid (rqP s.data.toList = (t, n))) (hl : t.length ≤ 65536) (hz : 0 < n) (hm : n = s.size) (hp : Hid (plainB t = false)) :
    Calls Tryd.prog 15 #[.string s] w fun e w' => e = .returned (.tuple #[.agg #[.int .i64 0, .int .i64 0, .string ⟨#[]⟩], .int .i64 3]) ∧ Below w.heap.size w w' := by
  have e1 : (0 : Int) < (n : Int) := by omega
  have e2 : ((n : Int) == (s.size : Int)) = true := by rw [hm]; simp
  clear hz hm
  go_enter Tryd.func15, Tryd.ntmps15
  go_wp2_with fail
  refine (readNumber_any s _ hs).mono ?_
  rintro e w' ⟨rfl, rfl⟩
  go_wp2_with fail
  refine (readQuoted_is s t n _ ho (unhide hr)).mono ?_
  rintro e w1 ⟨rfl, hb1⟩
  obtain ⟨hc1, hf1⟩ := bcell hb1
  have hz1_0 : w.heap.size < w1.heap.size := by have := hb1.size; first | omega | (simp at this; omega)
  go_wp2_with fail
  refine (quotable_is t false _ hl (unhide hp)).mono ?_
  rintro e w1 ⟨rfl, rfl⟩
  go_wp2
  exact bodyPost_ret (v := (.tuple #[.agg #[.int .i64 0, .int .i64 0, .string ⟨#[]⟩], .int .i64 3])) (by simp [results, Tryd.results15, go_sem, *]) rfl ⟨rfl, (by repeat (first | exact Below.refl _ _ | refine nx_al ?_ | refine nx_set ?_ (by first | omega | (simp <;> omega)) | refine nx_drew ?_ | refine nx_trans ?_ (by assumption)))⟩

set_option maxHeartbeats 400000 in
theorem ReadValue_text (s : ByteArray) (w : World) (t : List UInt8) (n : Nat) (ho : s.size ≤ 65536) (hs : s.size ≤ maxLen) (wd0 : (s.toList == [110, 117, 108, 108]) = false) (wd1 : (s.toList == [116, 114, 117, 101]) = false) (wd2 : (s.toList == [102, 97, 108, 115, 101]) = false) (hn : (numP s.data.toList).2 = false) (hr : Hid (rqP s.data.toList = (t, n))) (hl : t.length ≤ 65536) (hz : 0 < n) (hm : n = s.size) (hp : Hid (plainB t = true)) :
    Calls Tryd.prog 15 #[.string s] w fun e w' => e = .returned (.tuple #[.agg #[.int .i64 3, .int .i64 0, .string ⟨t.toArray⟩], .int .i64 0]) ∧ Below w.heap.size w w' := by
  have e1 : (0 : Int) < (n : Int) := by omega
  have e2 : ((n : Int) == (s.size : Int)) = true := by rw [hm]; simp
  clear hz hm
  go_enter Tryd.func15, Tryd.ntmps15
  go_wp2_with fail
  refine (readNumber_any s _ hs).mono ?_
  rintro e w' ⟨rfl, rfl⟩
  go_wp2_with fail
  refine (readQuoted_is s t n _ ho (unhide hr)).mono ?_
  rintro e w1 ⟨rfl, hb1⟩
  obtain ⟨hc1, hf1⟩ := bcell hb1
  have hz1_0 : w.heap.size < w1.heap.size := by have := hb1.size; first | omega | (simp at this; omega)
  go_wp2_with fail
  refine (quotable_is t true _ hl (unhide hp)).mono ?_
  rintro e w1 ⟨rfl, rfl⟩
  go_wp2_with fail
  refine (textValue_agg _ _).mono ?_
  rintro e w2 ⟨rfl, hb2⟩
  obtain ⟨hc2, hf2⟩ := bcell hb2
  have hz2_0 : w.heap.size < w2.heap.size := by have := hb2.size; first | omega | (simp at this; omega)
  go_wp2
  exact bodyPost_ret (v := (.tuple #[.agg #[.int .i64 3, .int .i64 0, .string ⟨t.toArray⟩], .int .i64 0])) (by simp [results, Tryd.results15, go_sem, *]) rfl ⟨rfl, (by repeat (first | exact Below.refl _ _ | refine nx_al ?_ | refine nx_set ?_ (by first | omega | (simp <;> omega)) | refine nx_drew ?_ | refine nx_trans ?_ (by assumption)))⟩

/-- the text meant and the place behind the closing quote -/
def qN (l : List UInt8) : Option (List UInt8 × Nat) :=
  match scanQ (l.drop 1) with
  | some (t, r) => if t.length ≤ 60 then some (t, l.length - r.length) else none
  | none => none
theorem nextT_qN (s : ByteArray) (h1 : 0 < s.size) (h0 : s[0] = 39) : nextT s.data.toList = (qN s.data.toList).map (fun x => (4, x.1, x.2)) := by
  unfold qN
  rw [list_cons s h1, h0, nextT_quote, show (39 :: s.data.toList.drop 1).drop 1 = s.data.toList.drop 1 from rfl]
  cases scanQ (s.data.toList.drop 1) with
  | none => rfl
  | some x =>
    obtain ⟨t, r⟩ := x
    dsimp only
    split <;> rfl
theorem l02Next_some (s : ByteArray) (t : List UInt8) (p : Nat) (w : World) (hs : s.size ≤ 65536) (h1 : 1 ≤ s.size) (h0 : ((s[0].toNat : Int) == 39) = true) (hq : qN s.data.toList = some (t, p)) :
    Calls Tryd.prog 87 #[.string s, .int .i64 0] w fun e w' => e = .returned (.tuple #[.agg #[.int .i64 4, .int .i64 0, .string ⟨t.toArray⟩], .int .i64 (p : Int), .bool true]) ∧ Below w.heap.size w w' := by
  have := l02Next_any s 0 w hs h1
  rw [List.drop_zero, nextT_qN s h1 (byte_eq (d := 39) (by simpa using h0)), hq] at this
  simpa [nextV] using this
theorem l02Next_none (s : ByteArray) (w : World) (hs : s.size ≤ 65536) (h1 : 1 ≤ s.size) (h0 : ((s[0].toNat : Int) == 39) = true) (hq : qN s.data.toList = none) :
    Calls Tryd.prog 87 #[.string s, .int .i64 0] w fun e w' => e = .returned (.tuple #[.agg #[.int .i64 0, .int .i64 0, .string ⟨#[]⟩], .int .i64 0, .bool false]) ∧ Below w.heap.size w w' := by
  have := l02Next_any s 0 w hs h1
  rw [List.drop_zero, nextT_qN s h1 (byte_eq (d := 39) (by simpa using h0)), hq] at this
  simpa [nextV] using this

theorem ReadValue_any (s : ByteArray) (w : World) (hs : s.size ≤ maxLen) :
    Calls Tryd.prog 15 #[.string s] w fun e w' => e = .returned (.tuple #[.agg #[.int .i64 (readR s).k, .int .i64 (readR s).n, .string (readR s).t], .int .i64 (readR s).c]) ∧ Below w.heap.size w w' := by
  have hs' : s.size ≤ 9223372036854775807 := by unfold maxLen at hs; exact hs
  unfold readR
  by_cases ho : 65536 < s.size
  · rw [if_pos ho]; exact ReadValue_long s w ho
  rw [if_neg ho]
  by_cases h0 : s.toList = [110, 117, 108, 108]
  · rw [if_pos h0]; exact ReadValue_null s w (by omega) h0
  rw [if_neg h0]
  by_cases h1 : s.toList = [116, 114, 117, 101]
  · rw [if_pos h1]; exact ReadValue_true s w (by omega) h1
  rw [if_neg h1]
  by_cases h2 : s.toList = [102, 97, 108, 115, 101]
  · rw [if_pos h2]; exact ReadValue_false s w (by omega) h2
  rw [if_neg h2]
  have g0 := beq_eq_false_iff_ne.2 h0
  have g1 := beq_eq_false_iff_ne.2 h1
  have g2 := beq_eq_false_iff_ne.2 h2
  cases hn : (numP s.data.toList).2
  · rw [if_neg (by simp)]
    obtain ⟨t, n, hr⟩ : ∃ t n, rqP s.data.toList = (t, n) := ⟨_, _, rfl⟩
    have hlen := rqP_len s.data.toList
    rw [rqP_quote s.data.toList, hr, size_list]
    rw [hr, size_list] at hlen
    dsimp only at hlen ⊢
    by_cases hz : 0 < n
    · by_cases hm : n = s.size
      · cases hp : plainB t
        · rw [if_neg (show ¬ (0 < n ∧ n = s.size ∧ false = true) from fun h => by cases h.2.2), if_neg (by simp)]
          exact ReadValue_bad s w t n (by omega) hs g0 g1 g2 hn hr (by omega) hz hm hp
        · rw [if_pos (show 0 < n ∧ n = s.size ∧ true = true from ⟨hz, hm, rfl⟩), if_pos rfl]
          exact ReadValue_text s w t n (by omega) hs g0 g1 g2 hn hr (by omega) hz hm hp
      · rw [if_neg (show ¬ (0 < n ∧ n = s.size ∧ plainB t = true) from fun h => hm h.2.1), if_neg (by simp)]
        exact ReadValue_more s w t n (by omega) hs g0 g1 g2 hn hr hz hm
    · rw [if_neg (show ¬ (0 < n ∧ n = s.size ∧ plainB t = true) from fun h => hz h.1), if_neg (by simp)]
      exact ReadValue_none s w t n (by omega) hs g0 g1 g2 hn hr (by omega)
  · rw [if_pos rfl]; exact ReadValue_num s w (by omega) hs hs' g0 g1 g2 hn

theorem quoteP_qN (s : ByteArray) (h1 : 1 ≤ s.size) (h0 : (s[0].toNat : Int) = 39) (t : List UInt8) (p : Nat) (hq : qN s.data.toList = some (t, p)) : quoteP s.data.toList = (if p = s.size then (t, true) else ([], false)) := by
  unfold qN at hq
  rw [list_cons s h1, byte_eq (d := 39) h0]
  unfold quoteP
  dsimp only
  rw [if_pos rfl]
  have hlen : (s.data.toList.drop 1).length = s.size - 1 := by rw [List.length_drop, size_list]
  cases hsc : scanQ (s.data.toList.drop 1) with
  | none => rw [hsc] at hq; cases hq
  | some x =>
    obtain ⟨a, r⟩ := x
    rw [hsc] at hq
    dsimp only at hq
    by_cases ha : a.length ≤ 60
    · rw [if_pos ha] at hq
      simp at hq
      obtain ⟨rfl, rfl⟩ := hq
      cases r with
      | nil =>
        simp only [List.length_nil, Nat.sub_zero, if_true]
        rw [if_pos ha]
      | cons c r =>
        dsimp only
        rw [if_neg]
        simp only [List.length_cons]
        omega
    · rw [if_neg ha] at hq; cases hq
theorem quoteP_qN0 (s : ByteArray) (h1 : 1 ≤ s.size) (h0 : (s[0].toNat : Int) = 39) (hq : qN s.data.toList = none) : quoteP s.data.toList = ([], false) := by
  unfold qN at hq
  rw [list_cons s h1, byte_eq (d := 39) h0]
  unfold quoteP
  dsimp only
  rw [if_pos rfl]
  cases hsc : scanQ (s.data.toList.drop 1) with
  | none => rfl
  | some x =>
    obtain ⟨a, r⟩ := x
    rw [hsc] at hq
    dsimp only at hq
    by_cases ha : a.length ≤ 60
    · rw [if_pos ha] at hq; cases hq
    · cases r with
      | nil => dsimp only; rw [if_neg ha]
      | cons c r => rfl

end Go.Proofs.YtckdacbopejdmaaDoor
