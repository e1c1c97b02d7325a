/- Sources read, the code's parts: blanks, runs, signs, the raw token. -/
import Derived.Test.YtckdacbopejdmaaDoorTokWalk2
import Derived.Test.YtckdacbopejdmaaDoorLexM
namespace Go.Proofs.YtckdacbopejdmaaDoor
open Go.RowKit
set_option linter.unusedVariables false

theorem blankC_eq (c : UInt8) : blankC c = (((c.toNat : Int) == 32) || ((c.toNat : Int) == 9) || ((c.toNat : Int) == 10)) := by
  have h : ∀ d : UInt8, (c == d) = ((c.toNat : Int) == (d.toNat : Int)) := fun d => by
    rw [Bool.eq_iff_iff]
    simp only [beq_iff_eq]
    exact ⟨fun h => by rw [h], fun h => byte_eq h⟩
  unfold blankC
  rw [h 32, h 9, h 10]
  rfl
/-- what is read from q on is read from p on -/
def Leads (l : List UInt8) (q p : Nat) : Prop := ∀ acc x, LexTo l q acc x → LexTo l p acc x
theorem ret_txt {a b : List UInt8} (h : a = b) : Ending.returned (.string ⟨a.toArray⟩) = .returned (.string ⟨b.toArray⟩) := by rw [h]
theorem lex_skip {l : List UInt8} {p : Nat} (h : p < l.length) (hb : blankC l[p] = true) (acc : List V3) (x : List V3 × Nat × Int) (hx : LexTo l (p + 1) acc x) : LexTo l p acc x :=
  .blank p acc l[p] (l.drop (p + 1)) x (List.drop_eq_getElem_cons h) hb hx

set_option maxHeartbeats 2000000 in
theorem skipBlanks_any (s : ByteArray) (p : Nat) (w : World) (hs : s.size ≤ 65536) (hp : p ≤ s.size) :
    Calls Tryd.prog 52 #[.string s, .int .i64 (p : Int)] w fun e w' => ∃ q : Nat, e = .returned (.int .i64 (q : Int)) ∧ p ≤ q ∧ q ≤ s.size ∧ Hid (Leads s.data.toList q p) ∧ Hid (∀ h : q < s.size, blankC s[q] = false) ∧ w' = w := by
  go_enter Tryd.func52, Tryd.ntmps52
  go_wp2
  go_loop [1] (fun i => ∃ q : Nat, p ≤ q ∧ q ≤ s.size ∧ i = .int .i64 q ∧ Hid (Leads s.data.toList q p)) (fun i => s.size - (intOf i).toNat)
  case atStart => exact ⟨p, by omega, by omega, rfl, hide (fun _ _ h => h)⟩
  case round =>
    obtain ⟨q, hpq, hq, rfl, hin⟩ := hrel
    by_cases hlt : q < s.size
    · have hlt' : (q : Int) < (s.size : Int) := by omega
      have hstep := hide (fun (hb : blankC s[q] = true) (acc : List V3) (x : List V3 × Nat × Int) (hx : LexTo s.data.toList (q + 1) acc x) => unhide hin acc x (lex_skip (l := s.data.toList) (by rw [size_list]; exact hlt) hb acc x hx))
      have hbe := hide (blankC_eq s[q])
      have hfin := hide (fun (hb : blankC s[q] = false) (_ : q < s.size) => hb)
      cases b1 : ((s[q].toNat : Int) == 32)
      · cases b2 : ((s[q].toNat : Int) == 9)
        · cases b3 : ((s[q].toNat : Int) == 10)
          · have hb : Hid (blankC s[q] = false) := by have := unhide hbe; rw [b1, b2, b3] at this; exact this
            go_wp2
            go_ret
            exact ⟨q, rfl, hpq, hq, hin, hide (fun _ => unhide hb), rfl⟩
          · have hb : Hid (blankC s[q] = true) := by have := unhide hbe; rw [b1, b2, b3] at this; exact this
            go_wp2
            go_round
            case rel => exact ⟨q + 1, by omega, by omega, by go_num, hide (unhide hstep (unhide hb))⟩
            case measure => simp [intOf]; omega
        · have hb : Hid (blankC s[q] = true) := by have := unhide hbe; rw [b1, b2] at this; exact this
          go_wp2
          go_round
          case rel => exact ⟨q + 1, by omega, by omega, by go_num, hide (unhide hstep (unhide hb))⟩
          case measure => simp [intOf]; omega
      · have hb : Hid (blankC s[q] = true) := by have := unhide hbe; rw [b1] at this; exact this
        go_wp2
        go_round
        case rel => exact ⟨q + 1, by omega, by omega, by go_num, hide (unhide hstep (unhide hb))⟩
        case measure => simp [intOf]; omega
    · have hlt' : ¬ (q : Int) < (s.size : Int) := by omega
      go_wp2
      go_ret
      exact ⟨q, rfl, hpq, hq, hin, hide (fun h => absurd h hlt), rfl⟩

set_option maxHeartbeats 400000 in
theorem isNameByte_any (c : Int) (w : World) :
    Calls Tryd.prog 82 #[.int .u8 c] w fun e w' => e = .returned (.bool (letB c || digB c)) ∧ w' = w := by
  cases hL : letB c
  · go_enter Tryd.func82, Tryd.ntmps82
    go_wp2_with (first | (go_at_call 80; refine (isLetter_any _ _).mono ?_; rintro e wr ⟨rfl, rfl⟩) | (go_at_call 83; refine (isDigit_any _ _).mono ?_; rintro e wr ⟨rfl, rfl⟩))
    go_ret
    exact ⟨ret_bool (by simp), rfl⟩
  · go_enter Tryd.func82, Tryd.ntmps82
    go_wp2_with (first | (go_at_call 80; refine (isLetter_any _ _).mono ?_; rintro e wr ⟨rfl, rfl⟩) | (go_at_call 83; refine (isDigit_any _ _).mono ?_; rintro e wr ⟨rfl, rfl⟩))
    go_ret
    exact ⟨ret_bool (by simp), rfl⟩

/-- so far: the first k bytes are such -/
def RunAt (q : UInt8 → Bool) (s : ByteArray) (k : Nat) : Prop := ∀ j (h : j < s.size), j < k → q s[j] = true
theorem RunAt.succ {q : UInt8 → Bool} {s : ByteArray} {k : Nat} (h : RunAt q s k) (hk : k < s.size) (hq : q s[k] = true) : RunAt q s (k + 1) := by
  intro j hj h2
  by_cases e : j = k
  · subst e; exact hq
  · exact h j hj (by omega)
theorem RunAt.stop {q : UInt8 → Bool} {s : ByteArray} {k : Nat} (hk : k ≤ s.size) (h : RunAt q s k) (hs : ∀ hlt : k < s.size, q s[k] = false) : s.data.toList.take k = s.data.toList.takeWhile q := by
  rw [takeW_stop q _ k]
  · intro x hx
    obtain ⟨j, hj, rfl⟩ := List.mem_iff_getElem.1 hx
    simp only [List.length_take, size_list] at hj
    simp only [List.getElem_take]
    exact h j (by omega) (by omega)
  · intro c hc
    rw [get_list] at hc
    split at hc
    · rename_i hlt
      have e := Option.some.inj hc
      rw [← e]; exact hs hlt
    · cases hc
theorem take_len (s : ByteArray) (k : Nat) (h : k ≤ s.size) : (s.data.toList.take k).length = k := by rw [List.length_take, size_list]; omega

set_option maxHeartbeats 2000000 in
set_option maxRecDepth 100000 in
theorem readRun_name (s : ByteArray) (w : World) (hs : s.size ≤ 65536) :
    Calls Tryd.prog 81 #[.string s, .func (.func 82) #[] #[]] w fun e w' => e = .returned (.string ⟨(s.data.toList.takeWhile nmb).toArray⟩) ∧ Below w.heap.size w w' := by
  go_enter Tryd.func81, Tryd.ntmps81
  go_wp2
  go_loopw [5, 6] (fun m i wx => ∃ (k : Nat) (acc : List UInt8), k ≤ s.size ∧ i = .int .i64 k ∧ Hid (acc = s.data.toList.take k) ∧ acc.length = k ∧ Hid (RunAt nmb s k) ∧ Buf wx w.heap.size m acc ∧ Below w.heap.size w wx) (fun _ i _ => s.size - (intOf i).toNat)
  case atStart => exact ⟨0, [], by omega, rfl, hide (by simp), rfl, hide (fun j _ h => by omega), Buf.nil _ _, Below.refl _ _⟩
  case round =>
    obtain ⟨k, acc, hk, rfl, hin, hal, hto, hown, hnx⟩ := hrel
    have hwr : w.heap.size ≤ wr.heap.size := hnx.size
    by_cases hlt : k < s.size
    · have hlt' : (k : Int) < (s.size : Int) := by omega
      have hsn := hide (take_snoc s k hlt)
      cases hN : (letB (s[k].toNat : Int) || digB (s[k].toNat : Int))
      · have hd := hide (RunAt.stop hk (unhide hto) (fun _ => hN))
        have hcv := hown.conv
        go_wp2_with (go_at_call 82; refine (isNameByte_any _ _).mono ?_; rintro e wr ⟨rfl, rfl⟩)
        go_ret
        exact ⟨ret_txt ((unhide hin).trans (unhide hd)), hnx⟩
      · have hsuc := hide ((unhide hto).succ hlt hN)
        go_wp2_with (first | (go_at_call 82; refine (isNameByte_any _ _).mono ?_; rintro e wr ⟨rfl, rfl⟩) | (at_builtin; refine wp_app1 _ rfl _ _ rfl w.heap.size wr.heap.size _ acc s[k] rfl (hown.alloc _) rfl (by simp) ?c5 ?c3 ?c6))
        case c5 => first | omega | (simp; omega)
        case c3 => omega
        case c6 =>
          intro v1 w1 hown1 hb1
          have hnx1 : Below w.heap.size w w1 := (hnx.alloc hwr _).trans hb1
          have HO1 := hide hown1
          clear hown1 hb1 hown
          go_wp2
          go_roundw
          case rel => exact ⟨k + 1, acc ++ [s[k]], by omega, by go_num, hide (by rw [unhide hsn, unhide hin]), by simp; omega, hide (unhide hsuc), unhide HO1, hnx1⟩
          case measure => simp [intOf]; omega
    · have hlt' : ¬ (k : Int) < (s.size : Int) := by omega
      have hd := hide (RunAt.stop hk (unhide hto) (fun h => absurd h hlt))
      have hcv := hown.conv
      go_wp2
      go_ret
      exact ⟨ret_txt ((unhide hin).trans (unhide hd)), hnx⟩

set_option maxHeartbeats 2000000 in
set_option maxRecDepth 100000 in
theorem readRun_digit (s : ByteArray) (w : World) (hs : s.size ≤ 65536) :
    Calls Tryd.prog 81 #[.string s, .func (.func 83) #[] #[]] w fun e w' => e = .returned (.string ⟨(s.data.toList.takeWhile dgt).toArray⟩) ∧ Below w.heap.size w w' := by
  go_enter Tryd.func81, Tryd.ntmps81
  go_wp2
  go_loopw [5, 6] (fun m i wx => ∃ (k : Nat) (acc : List UInt8), k ≤ s.size ∧ i = .int .i64 k ∧ Hid (acc = s.data.toList.take k) ∧ acc.length = k ∧ Hid (RunAt dgt s k) ∧ Buf wx w.heap.size m acc ∧ Below w.heap.size w wx) (fun _ i _ => s.size - (intOf i).toNat)
  case atStart => exact ⟨0, [], by omega, rfl, hide (by simp), rfl, hide (fun j _ h => by omega), Buf.nil _ _, Below.refl _ _⟩
  case round =>
    obtain ⟨k, acc, hk, rfl, hin, hal, hto, hown, hnx⟩ := hrel
    have hwr : w.heap.size ≤ wr.heap.size := hnx.size
    by_cases hlt : k < s.size
    · have hlt' : (k : Int) < (s.size : Int) := by omega
      have hsn := hide (take_snoc s k hlt)
      cases hN : digB (s[k].toNat : Int)
      · have hd := hide (RunAt.stop hk (unhide hto) (fun _ => hN))
        have hcv := hown.conv
        go_wp2_with (go_at_call 83; refine (isDigit_any _ _).mono ?_; rintro e wr ⟨rfl, rfl⟩)
        go_ret
        exact ⟨ret_txt ((unhide hin).trans (unhide hd)), hnx⟩
      · have hsuc := hide ((unhide hto).succ hlt hN)
        go_wp2_with (first | (go_at_call 83; refine (isDigit_any _ _).mono ?_; rintro e wr ⟨rfl, rfl⟩) | (at_builtin; refine wp_app1 _ rfl _ _ rfl w.heap.size wr.heap.size _ acc s[k] rfl (hown.alloc _) rfl (by simp) ?c5 ?c3 ?c6))
        case c5 => first | omega | (simp; omega)
        case c3 => omega
        case c6 =>
          intro v1 w1 hown1 hb1
          have hnx1 : Below w.heap.size w w1 := (hnx.alloc hwr _).trans hb1
          have HO1 := hide hown1
          clear hown1 hb1 hown
          go_wp2
          go_roundw
          case rel => exact ⟨k + 1, acc ++ [s[k]], by omega, by go_num, hide (by rw [unhide hsn, unhide hin]), by simp; omega, hide (unhide hsuc), unhide HO1, hnx1⟩
          case measure => simp [intOf]; omega
    · have hlt' : ¬ (k : Int) < (s.size : Int) := by omega
      have hd := hide (RunAt.stop hk (unhide hto) (fun h => absurd h hlt))
      have hcv := hown.conv
      go_wp2
      go_ret
      exact ⟨ret_txt ((unhide hin).trans (unhide hd)), hnx⟩

/-- p stands at the beginning of s -/
def hpB (s p : ByteArray) : Bool := p.data.toList.isPrefixOf s.data.toList
theorem prefix_take (s p : ByteArray) (h : p.size ≤ s.size) : ((s.extract 0 p.size).toList == p.toList) = hpB s p := by
  unfold hpB
  rw [ByteArray.toList_eq, ByteArray.toList_eq, extract_list, List.drop_zero, Nat.sub_zero, Bool.eq_iff_iff]
  rw [beq_iff_eq, List.isPrefixOf_iff_prefix, List.prefix_iff_eq_take, size_list]
  exact ⟨fun h => h.symm, fun h => h.symm⟩
theorem prefix_long (s p : ByteArray) (h : s.size < p.size) : hpB s p = false := by
  cases hb : hpB s p
  · rfl
  · have := (List.isPrefixOf_iff_prefix.1 hb).length_le
    rw [size_list, size_list] at this
    omega

set_option maxHeartbeats 400000 in
theorem stringsliteHasPrefix_any (s p : ByteArray) (w : World) (hs : s.size ≤ 65536) (hp : p.size ≤ 65536) :
    Calls Tryd.prog 107 #[.string s, .string p] w fun e w' => e = .returned (.bool (hpB s p)) ∧ w' = w := by
  by_cases h : p.size ≤ s.size
  · have hx := hide (prefix_take s p h)
    have h' : (p.size : Int) ≤ (s.size : Int) := by omega
    go_enter Tryd.func107, Tryd.ntmps107
    go_wp2
    go_ret
    exact ⟨ret_bool (unhide hx), rfl⟩
  · have hx := hide (prefix_long s p (by omega))
    have h' : ¬ (p.size : Int) ≤ (s.size : Int) := by omega
    go_enter Tryd.func107, Tryd.ntmps107
    go_wp2
    go_ret
    exact ⟨ret_bool (unhide hx).symm, rfl⟩

theorem HasPrefix_any (s p : ByteArray) (w : World) (hs : s.size ≤ 65536) (hp : p.size ≤ 65536) :
    Calls Tryd.prog 99 #[.string s, .string p] w fun e w' => e = .returned (.bool (hpB s p)) ∧ w' = w := by
  go_enter Tryd.func99, Tryd.ntmps99
  go_wp2_with (go_at_call 107; refine (stringsliteHasPrefix_any _ _ _ hs hp).mono ?_; rintro e wr ⟨rfl, rfl⟩)
  go_ret
  exact ⟨rfl, rfl⟩

/-- sign k stands at the beginning -/
def preB (l : List UInt8) (k : Nat) : Bool := (srcSigns.getD k []).isPrefixOf l
theorem preB_tab (l : List UInt8) : (∀ k, k < 17 → preB l k = false) → signT l = none := by
  intro h
  match l with
  | [] => rfl
  | c :: r =>
    refine signT_none ?_ ?_
    · intro hm
      simp only [oneSigns, List.mem_cons, List.not_mem_nil, or_false] at hm
      have hh : ∀ k, k < 17 → preB (c :: r) k = true → False := fun k hk hp => by rw [h k hk] at hp; cases hp
      rcases hm with e | e | e | e | e | e | e | e | e | e | e | e | e | e
      · exact hh 3 (by omega) (by subst e; rfl)
      · exact hh 4 (by omega) (by subst e; rfl)
      · exact hh 5 (by omega) (by subst e; rfl)
      · exact hh 6 (by omega) (by subst e; rfl)
      · exact hh 7 (by omega) (by subst e; rfl)
      · exact hh 8 (by omega) (by subst e; rfl)
      · exact hh 9 (by omega) (by subst e; rfl)
      · exact hh 10 (by omega) (by subst e; rfl)
      · exact hh 11 (by omega) (by subst e; rfl)
      · exact hh 12 (by omega) (by subst e; rfl)
      · exact hh 13 (by omega) (by subst e; rfl)
      · exact hh 14 (by omega) (by subst e; rfl)
      · exact hh 15 (by omega) (by subst e; rfl)
      · exact hh 16 (by omega) (by subst e; rfl)
    · intro d r' e hp
      subst e
      have hh : ∀ k, k < 17 → preB (c :: d :: r') k = true → False := fun k hk hp => by rw [h k hk] at hp; cases hp
      rcases hp with ⟨rfl, rfl⟩ | ⟨rfl, rfl⟩ | ⟨rfl, rfl⟩
      · exact hh 0 (by omega) rfl
      · exact hh 1 (by omega) rfl
      · exact hh 2 (by omega) rfl
theorem preB_first (l : List UInt8) (k : Nat) (hk : k < 17) (hp : preB l k = true) (hno : ∀ j, j < k → preB l j = false) : srcSigns.getD k [] = l.take ((signT l).getD 0) := by
  have hx := List.isPrefixOf_iff_prefix.1 hp
  obtain ⟨r, hr⟩ := hx
  have two : ∀ c : UInt8, (c = 61 ∨ c = 38 ∨ c = 124) → signT (c :: c :: r) = some 2 := fun c hc => by
    simp only [signT]
    refine if_pos ?_
    rcases hc with rfl | rfl | rfl <;> simp
  have one : ∀ c : UInt8, c ∈ oneSigns → l = c :: r → 3 ≤ k → signT (c :: r) = some 1 := fun c hc hl h3 => by
    refine signT_one hc (fun d r' e hpair => ?_)
    subst e
    rw [hl] at hno
    rcases hpair with ⟨rfl, rfl⟩ | ⟨rfl, rfl⟩ | ⟨rfl, rfl⟩
    · have := hno 0 (by omega); cases this
    · have := hno 1 (by omega); cases this
    · have := hno 2 (by omega); cases this
  obtain rfl | rfl | rfl | h3 : k = 0 ∨ k = 1 ∨ k = 2 ∨ 3 ≤ k := by omega
  · rw [← hr]; show [61, 61] = List.take ((signT (61 :: 61 :: r)).getD 0) (61 :: 61 :: r); rw [two 61 (by simp)]; rfl
  · rw [← hr]; show [38, 38] = List.take ((signT (38 :: 38 :: r)).getD 0) (38 :: 38 :: r); rw [two 38 (by simp)]; rfl
  · rw [← hr]; show [124, 124] = List.take ((signT (124 :: 124 :: r)).getD 0) (124 :: 124 :: r); rw [two 124 (by simp)]; rfl
  · have hs : ∀ j, j < 17 → 3 ≤ j → ∃ c, c ∈ oneSigns ∧ srcSigns.getD j [] = [c] := by
      intro j hj h3
      obtain rfl | rfl | rfl | rfl | rfl | rfl | rfl | rfl | rfl | rfl | rfl | rfl | rfl | rfl : j = 3 ∨ j = 4 ∨ j = 5 ∨ j = 6 ∨ j = 7 ∨ j = 8 ∨ j = 9 ∨ j = 10 ∨ j = 11 ∨ j = 12 ∨ j = 13 ∨ j = 14 ∨ j = 15 ∨ j = 16 := by omega
      all_goals exact ⟨_, by decide, rfl⟩
    obtain ⟨c, hc, he⟩ := hs k hk h3
    rw [he] at hr ⊢
    have hl : l = c :: r := hr.symm
    rw [hl, one c hc hl h3]
    rfl
theorem txt_size (k : Nat) (hk : k < 17) : (txtS srcSigns k).size ≤ 2 := by
  obtain rfl | rfl | rfl | rfl | rfl | rfl | rfl | rfl | rfl | rfl | rfl | rfl | rfl | rfl | rfl | rfl | rfl : k = 0 ∨ k = 1 ∨ k = 2 ∨ k = 3 ∨ k = 4 ∨ k = 5 ∨ k = 6 ∨ k = 7 ∨ k = 8 ∨ k = 9 ∨ k = 10 ∨ k = 11 ∨ k = 12 ∨ k = 13 ∨ k = 14 ∨ k = 15 ∨ k = 16 := by omega
  all_goals decide
theorem HasPrefix_tab (s : ByteArray) (k : Nat) (b : Bool) (w : World) (hs : s.size ≤ 65536) (hk : k < 17) (hb : preB s.data.toList k = b) :
    Calls Tryd.prog 99 #[.string s, .string (txtS srcSigns k)] w fun e w' => e = .returned (.bool b) ∧ w' = w := by
  have := HasPrefix_any s (txtS srcSigns k) w hs (by have := txt_size k hk; omega)
  have e : hpB s (txtS srcSigns k) = b := by
    unfold hpB
    rw [show (txtS srcSigns k).data.toList = srcSigns.getD k [] by simp [txtS]]
    exact hb
  rw [e] at this
  exact this

set_option maxHeartbeats 1000000 in
theorem readSign_any (s : ByteArray) (w : World) (hs : s.size ≤ 65536) (ht : Hid (TabAt w 1 srcSigns)) :
    Calls Tryd.prog 84 #[.string s] w fun e w' => e = .returned (.string ⟨(s.data.toList.take ((signT s.data.toList).getD 0)).toArray⟩) ∧ w' = w := by
  obtain ⟨tt, fr, hg⟩ := unhide ht
  have HG := hide hg
  clear hg
  go_enter Tryd.func84, Tryd.ntmps84
  go_wp2_with (refine wpList_load_row rfl 101 _ rfl 1 rfl tt (strCells srcSigns) fr _ (unhide HG) Tryd.underlying101 rfl (by kernel_rfl) ?_)
  go_loop [6] (fun i => ∃ k : Nat, k ≤ 17 ∧ i = .int .i64 k ∧ (∀ j, j < k → preB s.data.toList j = false)) (fun i => 17 - (intOf i).toNat)
  case atStart => exact ⟨0, by omega, rfl, fun j hj => by omega⟩
  case round =>
    obtain ⟨k, hk, rfl, hno⟩ := hrel
    have HN := hide hno
    clear hno
    by_cases hlt : k < 17
    · have hle : (k : Int) < 17 := by omega
      have hix := index_signs k hlt
      cases he : preB s.data.toList k
      · go_wp2_with (go_at_call 99; refine (HasPrefix_tab s k false _ hs hlt he).mono ?_; rintro e wr ⟨rfl, rfl⟩)
        go_round
        case rel => exact ⟨k + 1, by omega, by go_num, fun j hj => by
          by_cases e : j = k
          · subst e; exact he
          · exact unhide HN j (by omega)⟩
        case measure => simp [intOf]; omega
      · have hd := hide (preB_first s.data.toList k hlt he (unhide HN))
        go_wp2_with (go_at_call 99; refine (HasPrefix_tab s k true _ hs hlt he).mono ?_; rintro e wr ⟨rfl, rfl⟩)
        go_ret
        exact ⟨ret_txt (unhide hd), rfl⟩
    · have hle : ¬ (k : Int) < 17 := by omega
      have hd := hide (preB_tab s.data.toList (fun j hj => unhide HN j (by omega)))
      go_wp2
      go_ret
      exact ⟨ret_txt (a := []) (by rw [unhide hd]; rfl), rfl⟩

end Go.Proofs.YtckdacbopejdmaaDoor
