/- What is a token, the specification's side; the law on how tokens are written. -/
import Derived.Test.YtckdacbopejdmaaDoorTokWalk
import Derived.Test.YtckdacbopejdmaaDoorNextWalk2
namespace Go.Proofs.YtckdacbopejdmaaDoor
open Go.RowKit
set_option linter.unusedVariables false

theorem num_tok {l : List UInt8} {n : Int} {b : Bool} (h : numP l = (n, b)) : (b = true ∧ 0 ≤ n ∧ n ≤ 2147483647 → tokB 3 l = true ∧ Lib.itoa n = l) ∧ (¬ (b = true ∧ 0 ≤ n ∧ n ≤ 2147483647) → tokB 3 l = false) := by
  rw [tokB_3]
  unfold numP at h
  by_cases hh : l.head? = some 45
  · rw [if_pos hh] at h
    have hd : (digP l).2 = false := by
      cases hd : (digP l).2
      · rfl
      · have := digP_parts hd
        cases l with
        | nil => cases hh
        | cons c r =>
          simp at hh
          have := this.2.2.1 c (by simp)
          rw [hh] at this
          exact absurd this (by decide)
    rw [hd]
    refine ⟨fun ⟨hb, h0, h1⟩ => ?_, fun _ => rfl⟩
    exfalso
    have e1 : -(digP l.tail).1 = n := congrArg Prod.fst h
    have e2 : ((digP l.tail).2 && (digP l.tail).1 != 0) = b := congrArg Prod.snd h
    rw [hb] at e2
    simp at e2
    have := (dec_digP e2.1).2
    omega
  · rw [if_neg hh] at h
    rw [h]
    refine ⟨fun ⟨hb, h0, h1⟩ => ?_, fun hn => ?_⟩
    · subst hb
      have hd := dec_digP (l := l) (by rw [h])
      rw [h] at hd
      refine ⟨by simp; omega, ?_⟩
      unfold Lib.itoa
      rw [if_neg (by omega)]
      exact hd.1
    · cases b
      · rfl
      · have hd := dec_digP (l := l) (by rw [h])
        rw [h] at hd
        have : 0 ≤ n := hd.2
        simp
        have : ¬ (0 ≤ n ∧ n ≤ 2147483647) := fun hx => hn ⟨rfl, hx⟩
        omega

set_option maxHeartbeats 1000000 in
theorem l02Token_1 (a : Int) (s : ByteArray) (w : World) (hs : s.size ≤ maxLen) :
    Calls Tryd.prog 57 #[.agg #[.int .i64 1, .int .i64 a, .string s]] w fun e w' => e = .returned (.bool (tokB 1 s.data.toList)) ∧ Below w.heap.size w w' := by
  rw [tokB_1, nameL_eta, size_list]
  cases hn : nameB s
  · go_enter Tryd.func57, Tryd.ntmps57
    go_wp2_with fail
    refine (specNameOK_any _ _ hs).mono ?_
    rintro e w1 ⟨rfl, rfl⟩
    rw [hn]
    go_wp2
    go_ret
    exact ⟨ret_bool (by simp), nx_alloc _ _⟩
  · by_cases h20 : s.size ≤ 20
    · cases hw : wordB s.data.toList
      all_goals
        go_enter Tryd.func57, Tryd.ntmps57
        go_wp2_with fail
        refine (specNameOK_any _ _ hs).mono ?_
        rintro e w1 ⟨rfl, rfl⟩
        rw [hn]
        go_wp2_with fail
        refine (specWordOK_any _ _ hs).mono ?_
        rintro e w2 ⟨rfl, hb2⟩
        rw [hw]
        go_wp2
        go_ret
        exact ⟨ret_bool (by simp [h20]), nx_trans (nx_alloc _ _) hb2⟩
    · have hb : decide (s.size ≤ 20) = false := by simp; omega
      rw [hb]
      go_enter Tryd.func57, Tryd.ntmps57
      go_wp2_with fail
      refine (specNameOK_any _ _ hs).mono ?_
      rintro e w1 ⟨rfl, rfl⟩
      rw [hn]
      go_wp2
      go_ret
      exact ⟨ret_bool (by simp), nx_alloc _ _⟩

set_option maxHeartbeats 1000000 in
theorem l02Token_2 (a : Int) (s : ByteArray) (w : World) (hs : s.size ≤ maxLen) :
    Calls Tryd.prog 57 #[.agg #[.int .i64 2, .int .i64 a, .string s]] w fun e w' => e = .returned (.bool (tokB 2 s.data.toList)) ∧ Below w.heap.size w w' := by
  rw [tokB_2]
  go_enter Tryd.func57, Tryd.ntmps57
  go_wp2_with fail
  refine (specWordOK_any _ _ hs).mono ?_
  rintro e w2 ⟨rfl, hb2⟩
  go_wp2
  go_ret
  exact ⟨rfl, nx_trans (nx_alloc _ _) hb2⟩

set_option maxHeartbeats 1000000 in
theorem l02Token_4 (a : Int) (s : ByteArray) (w : World) (hs : s.size ≤ maxLen) :
    Calls Tryd.prog 57 #[.agg #[.int .i64 4, .int .i64 a, .string s]] w fun e w' => e = .returned (.bool (tokB 4 s.data.toList)) ∧ Below w.heap.size w w' := by
  rw [tokB_4]
  go_enter Tryd.func57, Tryd.ntmps57
  go_wp2_with fail
  refine (l02Plain_any _ _ hs).mono ?_
  rintro e w2 ⟨rfl, rfl⟩
  go_wp2
  go_ret
  exact ⟨rfl, nx_alloc _ _⟩

set_option maxHeartbeats 1000000 in
theorem l02Token_other (k a : Int) (s : ByteArray) (w : World) (hk : ¬ (1 ≤ k ∧ k ≤ 5)) :
    Calls Tryd.prog 57 #[.agg #[.int .i64 k, .int .i64 a, .string s]] w fun e w' => e = .returned (.bool (tokB k s.data.toList)) ∧ Below w.heap.size w w' := by
  rw [tokB_other k _ hk]
  have e1 : (k == 1) = false := beq_eq_false_iff_ne.2 (by omega)
  have e2 : (k == 2) = false := beq_eq_false_iff_ne.2 (by omega)
  have e3 : (k == 3) = false := beq_eq_false_iff_ne.2 (by omega)
  have e4 : (k == 4) = false := beq_eq_false_iff_ne.2 (by omega)
  have e5 : (k == 5) = false := beq_eq_false_iff_ne.2 (by omega)
  clear hk
  go_enter Tryd.func57, Tryd.ntmps57
  go_wp2
  go_ret
  exact ⟨rfl, nx_alloc _ _⟩

set_option maxHeartbeats 1000000 in
theorem l02Token_3no (a : Int) (s : ByteArray) (n : Int) (w : World) (hs : s.size ≤ maxLen) (hn : Hid (numP s.data.toList = (n, false))) :
    Calls Tryd.prog 57 #[.agg #[.int .i64 3, .int .i64 a, .string s]] w fun e w' => e = .returned (.bool false) ∧ Below w.heap.size w w' := by
  go_enter Tryd.func57, Tryd.ntmps57
  go_wp2_with fail
  refine (l00Number_is s _ n false hs (unhide hn)).mono ?_
  rintro e w1 ⟨rfl, rfl⟩
  go_wp2
  first | go_region_with fail | fail
  all_goals go_wp2
  all_goals go_ret
  all_goals exact ⟨rfl, (by repeat (first | exact Below.refl _ _ | refine nx_al ?_ | refine nx_drew ?_ | refine nx_trans ?_ (by assumption)))⟩

set_option maxHeartbeats 1000000 in
theorem l02Token_3out (a : Int) (s : ByteArray) (n : Int) (w : World) (hs : s.size ≤ maxLen) (hn : Hid (numP s.data.toList = (n, true))) (hr : (decide (0 ≤ n) && decide (n ≤ 2147483647)) = false) :
    Calls Tryd.prog 57 #[.agg #[.int .i64 3, .int .i64 a, .string s]] w fun e w' => e = .returned (.bool false) ∧ Below w.heap.size w w' := by
  go_enter Tryd.func57, Tryd.ntmps57
  go_wp2_with fail
  refine (l00Number_is s _ n true hs (unhide hn)).mono ?_
  rintro e w1 ⟨rfl, rfl⟩
  go_wp2
  first | go_region_with (go_at_call 72; refine (l01In_is _ _ _ false _ hr).mono ?_; rintro e y ⟨rfl, rfl⟩) | fail
  all_goals go_wp2
  all_goals go_ret
  all_goals exact ⟨rfl, (by repeat (first | exact Below.refl _ _ | refine nx_al ?_ | refine nx_drew ?_ | refine nx_trans ?_ (by assumption)))⟩

theorem l00Digits_is (n : Int) (s : ByteArray) (w : World) (h0 : 0 ≤ n) (h1 : n ≤ 2147483647) (h : Hid (Lib.itoa n = s.data.toList)) :
    Calls Tryd.prog 73 #[.int .i64 n] w fun e w' => e = .returned (.string s) ∧ Below w.heap.size w w' := by
  have := l00Digits_any n w (by omega) h1
  rw [unhide h] at this
  exact this

set_option maxHeartbeats 2000000 in
set_option maxRecDepth 100000 in
theorem l02Token_3yes (a : Int) (s : ByteArray) (n : Int) (w : World) (hs : s.size ≤ maxLen) (hn : Hid (numP s.data.toList = (n, true))) (h0 : 0 ≤ n) (h1 : n ≤ 2147483647) (hi : Hid (Lib.itoa n = s.data.toList)) :
    Calls Tryd.prog 57 #[.agg #[.int .i64 3, .int .i64 a, .string s]] w fun e w' => e = .returned (.bool true) ∧ Below w.heap.size w w' := by
  have hr : (decide (0 ≤ n) && decide (n ≤ 2147483647)) = true := by simp; omega
  go_enter Tryd.func57, Tryd.ntmps57
  go_wp2_with fail
  refine (l00Number_is s _ n true hs (unhide hn)).mono ?_
  rintro e w1 ⟨rfl, rfl⟩
  go_wp2
  go_region_held3 (fun y => y.cell? ⟨w.heap.size, 2, none⟩ = some (.string s)) (go_keep) (first | (go_at_call 72; refine (l01In_is _ _ _ true _ hr).mono ?_; rintro e y ⟨rfl, rfl⟩) | (go_at_call 73; refine (l00Digits_is n s _ h0 h1 hi).mono ?_; rintro e y ⟨rfl, hbx⟩; obtain ⟨hc, hf⟩ := bcell hbx))
  all_goals go_wp2
  all_goals go_ret
  all_goals exact ⟨rfl, (by repeat (first | exact Below.refl _ _ | refine nx_al ?_ | refine nx_drew ?_ | refine nx_trans ?_ (by assumption)))⟩

theorem list_one (s : ByteArray) (h : s.size = 1) : s.toList = [s[0]] := by
  rw [ByteArray.toList_eq, list_cons s (by omega), drop_end s 1 (by omega)]
theorem sign_one (c : UInt8) : signB [c] = (sgnB (c.toNat : Int) && ([c] != [38]) && ([c] != [124])) := by
  cases hg : sgnB (c.toNat : Int)
  · have h := not_one (sgn_not hg)
    simp only [Bool.false_and]
    cases hs : signB [c]
    · rfl
    · exfalso
      simp only [signB, srcSigns, List.any_cons, List.any_nil, Bool.or_false, Bool.or_eq_true, beq_iff_eq] at hs
      have hm := h.1
      simp only [oneSigns, List.mem_cons, List.not_mem_nil, or_false, not_or] at hm
      simp only [List.cons.injEq, and_true, reduceCtorEq, and_false, false_or] at hs
      obtain ⟨g1, g2, g3, g4, g5, g6, g7, g8, g9, g10, g11, g12, g13, g14⟩ := hm
      rcases hs with hs | hs | hs | hs | hs | hs | hs | hs | hs | hs | hs | hs | hs | hs
      · exact g1 hs.symm
      · exact g2 hs.symm
      · exact g3 hs.symm
      · exact g4 hs.symm
      · exact g5 hs.symm
      · exact g6 hs.symm
      · exact g7 hs.symm
      · exact g8 hs.symm
      · exact g9 hs.symm
      · exact g10 hs.symm
      · exact g11 hs.symm
      · exact g12 hs.symm
      · exact g13 hs.symm
      · exact g14 hs.symm
  · have hm := sgn_fact hg
    simp only [sgnL, List.mem_cons, List.not_mem_nil, or_false] at hm
    rcases hm with h | h | h | h | h | h | h | h | h | h | h | h | h | h | h | h <;> subst h <;> decide
theorem sign_not_one (l : List UInt8) (h : l.length ≠ 1) : signB l = (l == [61, 61] || l == [38, 38] || l == [124, 124]) := by
  rw [Bool.eq_iff_iff]
  simp only [signB, srcSigns, List.any_cons, List.any_nil, Bool.or_false, Bool.or_eq_true, beq_iff_eq]
  constructor
  · rintro (h | h | h | h | h | h | h | h | h | h | h | h | h | h | h | h | h)
    · exact .inl (.inl h.symm)
    · exact .inl (.inr h.symm)
    · exact .inr h.symm
    all_goals (subst h; simp at *)
  · rintro ((h | h) | h)
    · exact .inl h.symm
    · exact .inr (.inl h.symm)
    · exact .inr (.inr (.inl h.symm))

set_option maxHeartbeats 2000000 in
theorem l02Token_5 (a : Int) (s : ByteArray) (w : World) (hs : s.size ≤ maxLen) :
    Calls Tryd.prog 57 #[.agg #[.int .i64 5, .int .i64 a, .string s]] w fun e w' => e = .returned (.bool (tokB 5 s.data.toList)) ∧ Below w.heap.size w w' := by
  unfold maxLen at hs
  rw [tokB_5]
  by_cases h1 : s.size = 1
  · have h0 : 0 < s.size := by omega
    have e1 : ((s.size : Int) == 1) = true := by rw [h1]; rfl
    have hl2 : Hid (s.toList = [s[0]'h0]) := hide (list_one s h1)
    have hl : s.data.toList = [s[0]'h0] := by rw [← ByteArray.toList_eq]; exact unhide hl2
    rw [hl, sign_one]
    clear hl h1
    cases hg : sgnB (s[0].toNat : Int)
    · go_enter Tryd.func57, Tryd.ntmps57
      go_wp2_with (go_at_call 91; refine (l02Sign_any _ _).mono ?_; rintro e wr ⟨rfl, rfl⟩)
      go_ret
      exact ⟨ret_bool (by simp), nx_alloc _ _⟩
    · rw [← unhide hl2]
      by_cases q1 : s.toList = [38]
      · go_enter Tryd.func57, Tryd.ntmps57
        go_wp2_with (go_at_call 91; refine (l02Sign_any _ _).mono ?_; rintro e wr ⟨rfl, rfl⟩)
        go_ret
        exact ⟨ret_bool (by simp [q1]), nx_alloc _ _⟩
      · by_cases q2 : s.toList = [124]
        · go_enter Tryd.func57, Tryd.ntmps57
          go_wp2_with (go_at_call 91; refine (l02Sign_any _ _).mono ?_; rintro e wr ⟨rfl, rfl⟩)
          go_ret
          exact ⟨ret_bool (by simp [q2]), nx_alloc _ _⟩
        · go_enter Tryd.func57, Tryd.ntmps57
          go_wp2_with (go_at_call 91; refine (l02Sign_any _ _).mono ?_; rintro e wr ⟨rfl, rfl⟩)
          go_ret
          exact ⟨ret_bool (by simp [bne]), nx_alloc _ _⟩
  · have e1 : ((s.size : Int) == 1) = false := beq_eq_false_iff_ne.2 (by omega)
    rw [sign_not_one _ (by rw [size_list]; exact h1), ← ByteArray.toList_eq]
    clear h1
    cases q1 : (s.toList == [61, 61])
    · cases q2 : (s.toList == [38, 38])
      · go_enter Tryd.func57, Tryd.ntmps57
        go_wp2
        go_ret
        exact ⟨ret_bool (by simp), nx_alloc _ _⟩
      · go_enter Tryd.func57, Tryd.ntmps57
        go_wp2
        go_ret
        exact ⟨ret_bool (by simp), nx_alloc _ _⟩
    · go_enter Tryd.func57, Tryd.ntmps57
      go_wp2
      go_ret
      exact ⟨ret_bool (by simp), nx_alloc _ _⟩

theorem l02Token_any (k a : Int) (s : ByteArray) (w : World) (hs : s.size ≤ maxLen) :
    Calls Tryd.prog 57 #[.agg #[.int .i64 k, .int .i64 a, .string s]] w fun e w' => e = .returned (.bool (tokB k s.data.toList)) ∧ Below w.heap.size w w' := by
  by_cases hk : 1 ≤ k ∧ k ≤ 5
  · obtain rfl | rfl | rfl | rfl | rfl : k = 1 ∨ k = 2 ∨ k = 3 ∨ k = 4 ∨ k = 5 := by omega
    · exact l02Token_1 a s w hs
    · exact l02Token_2 a s w hs
    · obtain ⟨n, b, hnb⟩ : ∃ n b, numP s.data.toList = (n, b) := ⟨_, _, rfl⟩
      have ht := num_tok hnb
      by_cases hx : b = true ∧ 0 ≤ n ∧ n ≤ 2147483647
      · obtain ⟨rfl, h0, h1⟩ := hx
        have := ht.1 ⟨rfl, h0, h1⟩
        rw [this.1]
        exact l02Token_3yes a s n w hs hnb h0 h1 this.2
      · rw [ht.2 hx]
        cases b
        · exact l02Token_3no a s n w hs hnb
        · exact l02Token_3out a s n w hs hnb (by simp at hx ⊢; omega)
    · exact l02Token_4 a s w hs
    · exact l02Token_5 a s w hs
  · exact l02Token_other k a s w hk

theorem l02Token_is (k a : Int) (s : ByteArray) (b : Bool) (w : World) (hs : s.size ≤ maxLen) (hb : Hid (tokB k s.data.toList = b)) :
    Calls Tryd.prog 57 #[.agg #[.int .i64 k, .int .i64 a, .string s]] w fun e w' => e = .returned (.bool b) ∧ Below w.heap.size w w' := by
  have := l02Token_any k a s w hs
  rw [unhide hb] at this
  exact this

set_option maxHeartbeats 1000000 in
theorem l02TokenText_any (k a : Int) (s : ByteArray) (w : World) (hs : s.size ≤ 65536) :
    Calls Tryd.prog 58 #[.agg #[.int .i64 k, .int .i64 a, .string s]] w fun e w' => e = .returned (.string ⟨(tokT k s.data.toList).toArray⟩) ∧ Below w.heap.size w w' := by
  by_cases hk : k = 4
  · subst hk
    rw [show tokT 4 s.data.toList = quoteL s.data.toList from rfl]
    go_enter Tryd.func58, Tryd.ntmps58
    go_wp2_with fail
    refine (l02Quote_any s _ hs).mono ?_
    rintro e w1 ⟨rfl, hb1⟩
    go_wp2
    go_ret
    exact ⟨rfl, nx_trans (nx_alloc _ _) hb1⟩
  · have e4 : (k == 4) = false := beq_eq_false_iff_ne.2 hk
    rw [show tokT k s.data.toList = s.data.toList from if_neg hk]
    clear hk
    go_enter Tryd.func58, Tryd.ntmps58
    go_wp2
    go_ret
    exact ⟨rfl, nx_alloc _ _⟩

set_option maxHeartbeats 1000000 in
theorem specTokenText_any (k a : Int) (s : ByteArray) (w : World) (hs : s.size ≤ maxLen) :
    Calls Tryd.prog 24 #[.agg #[.int .i64 k, .int .i64 a, .string s]] w fun e w' => e = .returned (.tuple #[.string ⟨(tokR k s.data.toList).1.toArray⟩, .int .i64 (tokR k s.data.toList).2]) ∧ Below w.heap.size w w' := by
  unfold tokR
  cases hb : tokB k s.data.toList
  · rw [if_neg (by simp)]
    have HB := hide hb
    clear hb
    go_enter Tryd.func24, Tryd.ntmps24
    go_wp2_with fail
    refine (l02Token_is k a s false _ hs HB).mono ?_
    rintro e w1 ⟨rfl, hb1⟩
    go_wp2
    go_ret2
    exact ⟨rfl, nx_trans (nx_alloc _ _) hb1⟩
  · rw [if_pos rfl]
    have hl : s.size ≤ 60 := by have := tokB_len hb; rw [size_list] at this; exact this
    have HB := hide hb
    clear hb
    go_enter Tryd.func24, Tryd.ntmps24
    go_wp2_with fail
    refine (l02Token_is k a s true _ hs HB).mono ?_
    rintro e w1 ⟨rfl, hb1⟩
    obtain ⟨hc1, hf1⟩ := bcell hb1
    have hz1_0 : w.heap.size < w1.heap.size := by have := hb1.size; first | omega | (simp at this; omega)
    go_wp2_with fail
    refine (l02TokenText_any k a s w1 (by omega)).mono ?_
    rintro e w2 ⟨rfl, hb2⟩
    clear hc1 hf1
    go_wp2
    go_ret2
    exact ⟨rfl, nx_trans (nx_trans (nx_alloc _ _) hb1) hb2⟩

set_option maxHeartbeats 400000 in
theorem szToken_yes (k n : Int) (t : ByteArray) (left : Int) (w : World) (h0 : left ≤ 1048576) (h : (t.size : Int) ≤ left) :
    Calls Tryd.prog 30 #[.agg #[.int .i64 k, .int .i64 n, .string t], .int .i64 left] w fun e w' => e = .returned (.int .i64 (left - t.size)) ∧ Below w.heap.size w w' := by
  go_enter Tryd.func30, Tryd.ntmps30
  go_wp2
  go_ret
  exact ⟨rfl, nx_alloc _ _⟩

set_option maxHeartbeats 400000 in
theorem szToken_no (k n : Int) (t : ByteArray) (left : Int) (w : World) (ht : t.size ≤ maxLen) (h0 : 0 ≤ left) (h1 : left ≤ 1048576) (h : left < (t.size : Int)) :
    Calls Tryd.prog 30 #[.agg #[.int .i64 k, .int .i64 n, .string t], .int .i64 left] w fun e w' => e = .returned (.int .i64 (-1)) ∧ Below w.heap.size w w' := by
  unfold maxLen at ht
  go_enter Tryd.func30, Tryd.ntmps30
  go_wp2
  go_ret
  exact ⟨rfl, nx_alloc _ _⟩

set_option maxHeartbeats 400000 in
theorem toToken_any (k n : Int) (t : ByteArray) (w : World) :
    Calls Tryd.prog 31 #[.agg #[.int .i64 k, .int .i64 n, .string t]] w fun e w' => e = .returned (.agg #[.int .i64 k, .int .i64 n, .string t]) ∧ Below w.heap.size w w' := by
  go_enter Tryd.func31, Tryd.ntmps31
  go_wp2
  exact bodyPost_ret (v := .agg #[.int .i64 k, .int .i64 n, .string t]) (by simp [results, Tryd.results31, go_sem]) rfl ⟨rfl, nx_trans (nx_trans (nx_alloc _ _) (nx_alloc _ _)) (nx_alloc _ _)⟩

set_option maxHeartbeats 1000000 in
theorem lawTokenText_any (k n : Int) (t : ByteArray) (w : World) (_hk : (Lit.int .i64 k).wf = true) (_hn : (Lit.int .i64 n).wf = true) (ht : t.size ≤ maxLen) (hT : Tabs w) :
    Calls Tryd.prog 7 #[.agg #[.int .i64 k, .int .i64 n, .string t]] w fun e w' => e = .returned (.bool true) ∧ Below w.heap.size w w' := by
  have HT := hide hT
  clear hT
  by_cases h : (1048576 : Int) < (t.size : Int)
  · go_enter Tryd.func7, Tryd.ntmps7
    go_wp2_with fail
    refine (szToken_no k n t _ _ ht (by omega) (by omega) h).mono ?_
    rintro e w1 ⟨rfl, hb1⟩
    go_wp2
    go_ret
    exact ⟨rfl, nx_trans (nx_alloc _ _) hb1⟩
  · have hlt : (t.size : Int) ≤ 1048576 := by omega
    go_enter Tryd.func7, Tryd.ntmps7
    go_wp2_with fail
    refine (szToken_yes k n t _ _ (by omega) hlt).mono ?_
    rintro e w1 ⟨rfl, hb1⟩
    obtain ⟨hc1, hf1⟩ := bcell hb1
    have hz1 : w.heap.size < w1.heap.size := by have := hb1.size; first | omega | (simp at this; omega)
    go_wp2_with fail
    refine (toToken_any k n t _).mono ?_
    rintro e w2 ⟨rfl, hb2⟩
    obtain ⟨hc2, hf2⟩ := bcell hb2
    have hz2 : w.heap.size < w2.heap.size := by have := hb2.size; first | omega | (simp at this; omega)
    go_wp2_with fail
    refine (specTokenText_any k n t _ ht).mono ?_
    rintro e w3 ⟨rfl, hb3⟩
    obtain ⟨hc3, hf3⟩ := bcell hb3
    have hz3 : w.heap.size < w3.heap.size := by have := hb3.size; first | omega | (simp at this; omega)
    go_wp2_with fail
    refine (toToken_any k n t _).mono ?_
    rintro e w4 ⟨rfl, hb4⟩
    have hall : Below w.heap.size w w4 := nx_trans (nx_trans (nx_trans (nx_trans (nx_alloc _ _) hb1) hb2) hb3) hb4
    have HT4 := hide ((unhide HT).later hall)
    have HA := hide hall
    clear hc1 hf1 hc2 hf2 hc3 hf3 hall
    go_wp2_with fail
    refine (TokenText_any k n t _ ht HT4).mono ?_
    rintro e w5 ⟨rfl, hb5⟩
    go_wp2
    go_ret
    exact ⟨rfl, nx_trans (unhide HA) hb5⟩

end Go.Proofs.YtckdacbopejdmaaDoor
