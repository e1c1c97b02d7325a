/- Sources read, the code's side: the raw token, and all tokens. -/
import Derived.Test.YtckdacbopejdmaaDoorLexWalk
namespace Go.Proofs.YtckdacbopejdmaaDoor
open Go.RowKit
set_option linter.unusedVariables false

def rawV (x : Int × List UInt8 × Nat) : Value := .tuple #[.agg #[.int .i64 x.1, .int .i64 0, .string ⟨x.2.1.toArray⟩], .int .i64 (x.2.2 : Int)]
theorem rawV_eq {x y : Int × List UInt8 × Nat} (h : x = y) : Ending.returned (rawV y) = .returned (rawV x) := by rw [h]
theorem rawV_mk (k : Int) (t : List UInt8) (n : Nat) : rawV (k, t, n) = .tuple #[.agg #[.int .i64 k, .int .i64 0, .string ⟨t.toArray⟩], .int .i64 (n : Int)] := rfl
theorem run_head {q : UInt8 → Bool} {s : ByteArray} (h : 0 < s.size) (hq : q s[0] = true) : s.data.toList.takeWhile q = s[0] :: (s.data.toList.drop 1).takeWhile q := by
  conv => lhs; rw [list_cons s h]
  rw [List.takeWhile_cons, if_pos hq]

theorem run_len (q : UInt8 → Bool) (s : ByteArray) : (s.data.toList.takeWhile q).length ≤ s.size := by
  have := (List.takeWhile_sublist q (l := s.data.toList)).length_le
  rw [size_list] at this
  exact this

theorem raw_is {s : ByteArray} {k : Int} {t : List UInt8} {n : Nat} (h : rawT s.data.toList = (k, t, n)) (m : Nat) (hm : m = n) :
    Value.tuple #[.agg #[.int .i64 k, .int .i64 0, .string ⟨t.toArray⟩], .int .i64 (m : Int)] = rawV (rawT s.data.toList) := by rw [h, hm]; rfl
theorem size_mk' (l : List UInt8) : (⟨l.toArray⟩ : ByteArray).size = l.length := by simp [ByteArray.size]

set_option maxHeartbeats 1000000 in
theorem readToken_name (s : ByteArray) (t : ByteArray) (kb : Bool) (w : World) (hs : s.size ≤ 65536) (hp : 0 < s.size) (h0 : letB (s[0].toNat : Int) = true) (ht : Hid (Tabs w)) (hz : t.size ≤ 65536) (hr : Hid ((⟨(s.data.toList.takeWhile nmb).toArray⟩ : ByteArray) = t)) (hk : Hid (wordB t.data.toList = kb)) :
    Calls Tryd.prog 53 #[.string s] w fun e w' => e = .returned (.tuple #[.agg #[.int .i64 (if kb = true then 2 else 1), .int .i64 0, .string t], .int .i64 (t.size : Int)]) ∧ Below w.heap.size w w' := by
  go_enter Tryd.func53, Tryd.ntmps53
  go_wp2_with (go_at_call 80; refine (isLetter_any _ _).mono ?_; rintro e wr ⟨rfl, rfl⟩)
  refine (readRun_name s _ hs).mono ?_
  rintro e w1 ⟨rfl, hb1⟩
  rw [unhide hr]
  have hT1 := hide ((unhide ht).later (nx_trans (nx_alloc _ _) hb1)).1
  obtain ⟨hc, hf⟩ := z70_cells (w := w) (wx := w1) (by simpa using hb1)
  have hz1 : w.heap.size < w1.heap.size := by have := hb1.size; simp at this; omega
  have hb1' := hide hb1
  clear hb1
  go_wp2_with fail
  refine (WordOK_any t _ hT1).mono ?_
  rintro e w1 ⟨rfl, rfl⟩
  rw [unhide hk]
  cases kb
  · go_wp2
    exact bodyPost_ret (v := Value.tuple #[.agg #[.int .i64 1, .int .i64 0, .string t], .int .i64 (t.size : Int)]) (by simp [results, Tryd.results53, go_sem, hc]) rfl ⟨rfl, (by repeat (first | exact Below.refl _ _ | refine nx_al ?_ | refine nx_set ?_ (by first | omega | (simp <;> omega)) | refine nx_drew ?_ | refine nx_trans ?_ (unhide (by assumption))))⟩
  · go_wp2
    exact bodyPost_ret (v := Value.tuple #[.agg #[.int .i64 2, .int .i64 0, .string t], .int .i64 (t.size : Int)]) (by simp [results, Tryd.results53, go_sem, hc]) rfl ⟨rfl, (by repeat (first | exact Below.refl _ _ | refine nx_al ?_ | refine nx_set ?_ (by first | omega | (simp <;> omega)) | refine nx_drew ?_ | refine nx_trans ?_ (unhide (by assumption))))⟩

set_option maxHeartbeats 1000000 in
theorem readToken_digit (s : ByteArray) (t : ByteArray) (w : World) (hs : s.size ≤ 65536) (hp : 0 < s.size) (hl0 : letB (s[0].toNat : Int) = false) (h0 : digB (s[0].toNat : Int) = true) (hz : t.size ≤ 65536) (hr : Hid ((⟨(s.data.toList.takeWhile dgt).toArray⟩ : ByteArray) = t)) :
    Calls Tryd.prog 53 #[.string s] w fun e w' => e = .returned (.tuple #[.agg #[.int .i64 3, .int .i64 0, .string t], .int .i64 (t.size : Int)]) ∧ Below w.heap.size w w' := by
  go_enter Tryd.func53, Tryd.ntmps53
  go_wp2_with (first | (go_at_call 80; refine (isLetter_any _ _).mono ?_; rintro e wr ⟨rfl, rfl⟩) | (go_at_call 83; refine (isDigit_any _ _).mono ?_; rintro e wr ⟨rfl, rfl⟩))
  refine (readRun_digit s _ hs).mono ?_
  rintro e w1 ⟨rfl, hb1⟩
  rw [unhide hr]
  obtain ⟨hc, hf⟩ := z70_cells (w := w) (wx := w1) (by simpa using hb1)
  have hz1 : w.heap.size < w1.heap.size := by have := hb1.size; simp at this; omega
  have hb1' := hide hb1
  clear hb1
  go_wp2
  exact bodyPost_ret (v := Value.tuple #[.agg #[.int .i64 3, .int .i64 0, .string t], .int .i64 (t.size : Int)]) (by simp [results, Tryd.results53, go_sem, hc]) rfl ⟨rfl, (by repeat (first | exact Below.refl _ _ | refine nx_al ?_ | refine nx_set ?_ (by first | omega | (simp <;> omega)) | refine nx_drew ?_ | refine nx_trans ?_ (unhide (by assumption))))⟩

set_option maxHeartbeats 1000000 in
theorem readToken_quote (s : ByteArray) (t : List UInt8) (n : Nat) (w : World) (hs : s.size ≤ 65536) (hp : 0 < s.size) (hl0 : letB (s[0].toNat : Int) = false) (hd0 : digB (s[0].toNat : Int) = false) (h0 : ((s[0].toNat : Int) == 39) = true) (hr : Hid (rqP s.data.toList = (t, n))) :
    Calls Tryd.prog 53 #[.string s] w fun e w' => e = .returned (rawV (if n = 0 then (0, [], 0) else (4, t, n))) ∧ Below w.heap.size w w' := by
  have hq := fun w => readQuoted_any s w hs
  rw [unhide hr] at hq
  have HQ := hide hq
  clear hq
  by_cases hn : n = 0
  · rw [if_pos hn, rawV_mk]
    have e0 : ((n : Int) == 0) = true := by rw [hn]; rfl
    clear hn
    go_enter Tryd.func53, Tryd.ntmps53
    go_wp2_with (first | (go_at_call 80; refine (isLetter_any _ _).mono ?_; rintro e wr ⟨rfl, rfl⟩) | (go_at_call 83; refine (isDigit_any _ _).mono ?_; rintro e wr ⟨rfl, rfl⟩))
    refine (unhide HQ _).mono ?_
    rintro e w1 ⟨rfl, hb1⟩
    obtain ⟨hc, hf⟩ := z70_cells (w := w) (wx := w1) (by simpa using hb1)
    have hz1 : w.heap.size < w1.heap.size := by have := hb1.size; simp at this; omega
    have hb1' := hide hb1
    clear hb1
    go_wp2
    exact bodyPost_ret (v := Value.tuple #[.agg #[.int .i64 0, .int .i64 0, .string ⟨#[]⟩], .int .i64 0]) (by simp [results, Tryd.results53, go_sem, hc]) rfl ⟨rfl, (by repeat (first | exact Below.refl _ _ | refine nx_al ?_ | refine nx_set ?_ (by first | omega | (simp <;> omega)) | refine nx_drew ?_ | refine nx_trans ?_ (unhide (by assumption))))⟩
  · rw [if_neg hn, rawV_mk]
    have e0 : ((n : Int) == 0) = false := beq_eq_false_iff_ne.2 (by omega)
    clear hn
    go_enter Tryd.func53, Tryd.ntmps53
    go_wp2_with (first | (go_at_call 80; refine (isLetter_any _ _).mono ?_; rintro e wr ⟨rfl, rfl⟩) | (go_at_call 83; refine (isDigit_any _ _).mono ?_; rintro e wr ⟨rfl, rfl⟩))
    refine (unhide HQ _).mono ?_
    rintro e w1 ⟨rfl, hb1⟩
    obtain ⟨hc, hf⟩ := z70_cells (w := w) (wx := w1) (by simpa using hb1)
    have hz1 : w.heap.size < w1.heap.size := by have := hb1.size; simp at this; omega
    have hb1' := hide hb1
    clear hb1
    go_wp2
    exact bodyPost_ret (v := Value.tuple #[.agg #[.int .i64 4, .int .i64 0, .string ⟨t.toArray⟩], .int .i64 (n : Int)]) (by simp [results, Tryd.results53, go_sem, hc]) rfl ⟨rfl, (by repeat (first | exact Below.refl _ _ | refine nx_al ?_ | refine nx_set ?_ (by first | omega | (simp <;> omega)) | refine nx_drew ?_ | refine nx_trans ?_ (unhide (by assumption))))⟩

set_option maxHeartbeats 1000000 in
theorem readToken_sign (s : ByteArray) (t : ByteArray) (w : World) (hs : s.size ≤ 65536) (hp : 0 < s.size) (hl0 : letB (s[0].toNat : Int) = false) (hd0 : digB (s[0].toNat : Int) = false) (h0 : ((s[0].toNat : Int) == 39) = false) (ht : Hid (Tabs w)) (hz : t.size ≤ 65536) (hr : Hid ((⟨(s.data.toList.take ((signT s.data.toList).getD 0)).toArray⟩ : ByteArray) = t)) :
    Calls Tryd.prog 53 #[.string s] w fun e w' => e = .returned (.tuple #[.agg #[.int .i64 5, .int .i64 0, .string t], .int .i64 (t.size : Int)]) ∧ Below w.heap.size w w' := by
  have hT1 : ∀ o, Hid (TabAt (w.alloc o) 1 srcSigns) := fun o => hide ((unhide ht).later (nx_alloc w o)).2
  have hq := fun o => readSign_any s (w.alloc o) hs (hT1 o)
  rw [unhide hr] at hq
  have HQ := hide hq
  clear hq hT1
  go_enter Tryd.func53, Tryd.ntmps53
  go_wp2_with (first | (go_at_call 80; refine (isLetter_any _ _).mono ?_; rintro e wr ⟨rfl, rfl⟩) | (go_at_call 83; refine (isDigit_any _ _).mono ?_; rintro e wr ⟨rfl, rfl⟩))
  refine (unhide HQ _).mono ?_
  rintro e w1 ⟨rfl, rfl⟩
  go_wp2
  exact bodyPost_ret (v := Value.tuple #[.agg #[.int .i64 5, .int .i64 0, .string t], .int .i64 (t.size : Int)]) (by simp [results, Tryd.results53, go_sem]) rfl ⟨rfl, (by repeat (first | exact Below.refl _ _ | refine nx_al ?_ | refine nx_set ?_ (by first | omega | (simp <;> omega)) | refine nx_drew ?_ | refine nx_trans ?_ (unhide (by assumption))))⟩

theorem readToken_any (s : ByteArray) (w : World) (hs : s.size ≤ 65536) (hp : 0 < s.size) (ht : Hid (Tabs w)) :
    Calls Tryd.prog 53 #[.string s] w fun e w' => e = .returned (rawV (rawT s.data.toList)) ∧ Below w.heap.size w w' := by
  have hl := list_cons s hp
  cases h1 : letB (s[0].toNat : Int)
  · cases h2 : digB (s[0].toNat : Int)
    · by_cases h3 : (s[0].toNat : Int) = 39
      · have hc := byte_eq (d := 39) h3
        obtain ⟨t, n, hr⟩ : ∃ t n, rqP s.data.toList = (t, n) := ⟨_, _, rfl⟩
        have e : rawT s.data.toList = (if n = 0 then (0, [], 0) else (4, t, n)) := by
          rw [hl, hc] at hr ⊢
          rw [rawT_quote, hr]
        rw [e]
        exact readToken_quote s t n w hs hp h1 h2 (by rw [h3]; rfl) hr
      · have e : rawT s.data.toList = (5, s.data.toList.take ((signT s.data.toList).getD 0), (signT s.data.toList).getD 0) := by
          conv => lhs; rw [hl]
          rw [rawT_sign _ _ h1 h2 (byte_ne (d := 39) h3), ← hl]
        have hlen : (s.data.toList.take ((signT s.data.toList).getD 0)).length = (signT s.data.toList).getD 0 := by
          cases hsg : signT s.data.toList with
          | none => simp
          | some n => rw [hl] at hsg ⊢; exact (signT_ok _ _ n hsg).2.1
        refine (readToken_sign s _ w hs hp h1 h2 (beq_eq_false_iff_ne.2 h3) ht ?_ (hide rfl)).mono fun e' w' h => ⟨h.1.trans (congrArg Ending.returned (raw_is e _ ?_)), h.2⟩
        · rw [size_mk', List.length_take, size_list]; omega
        · rw [size_mk', hlen]
    · have e : rawT s.data.toList = (3, s.data.toList.takeWhile dgt, (s.data.toList.takeWhile dgt).length) := by
        conv => lhs; rw [hl]
        rw [rawT_dig _ _ h1 h2, ← run_head (q := dgt) hp h2]
      refine (readToken_digit s _ w hs hp h1 h2 ?_ (hide rfl)).mono fun e' w' h => ⟨h.1.trans (congrArg Ending.returned (raw_is e _ ?_)), h.2⟩
      · rw [size_mk']; have := run_len dgt s; omega
      · rw [size_mk']
  · have hq : nmb s[0] = true := by simp [nmb, h1]
    have e : rawT s.data.toList = (if wordB (s.data.toList.takeWhile nmb) = true then 2 else 1, s.data.toList.takeWhile nmb, (s.data.toList.takeWhile nmb).length) := by
      conv => lhs; rw [hl]
      rw [rawT_let _ _ h1, ← run_head (q := nmb) hp hq]
    refine (readToken_name s _ (wordB (s.data.toList.takeWhile nmb)) w hs hp h1 ht ?_ (hide rfl) (hide ?_)).mono fun e' w' h => ⟨h.1.trans (congrArg Ending.returned (raw_is e _ ?_)), h.2⟩
    · rw [size_mk']; have := run_len nmb s; omega
    · simp
    · rw [size_mk']

end Go.Proofs.YtckdacbopejdmaaDoor
