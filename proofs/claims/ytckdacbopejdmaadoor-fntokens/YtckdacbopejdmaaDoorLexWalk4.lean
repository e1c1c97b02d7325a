/- Sources read, the specification's side; lists that are marked; the law. -/
import Derived.Test.YtckdacbopejdmaaDoorLexWalk3
namespace Go.Proofs.YtckdacbopejdmaaDoor
open Go.RowKit Go.Joins
set_option linter.unusedVariables false

theorem l02Next_is (s : ByteArray) (p : Nat) (w : World) (hs : s.size ≤ 65536) (hp : p < s.size) (x : Option (Int × List UInt8 × Nat)) (h : Hid (nextT (s.data.toList.drop p) = x)) :
    Calls Tryd.prog 87 #[.string s, .int .i64 (p : Int)] w fun e w' => e = .returned (nextV p x) ∧ Below w.heap.size w w' := by
  have := l02Next_any s p w hs hp
  rw [unhide h] at this
  exact this
theorem nextV_yes (p : Nat) (k : Int) (t : List UInt8) (n : Nat) : nextV p (some (k, t, n)) = .tuple #[.agg #[.int .i64 k, .int .i64 (p : Int), .string ⟨t.toArray⟩], .int .i64 ((p + n : Nat) : Int), .bool true] := rfl
theorem nextV_no (p : Nat) : nextV p none = .tuple #[.agg #[.int .i64 0, .int .i64 0, .string ⟨#[]⟩], .int .i64 (p : Int), .bool false] := rfl
theorem lexAt_blank {l : List UInt8} {p : Nat} {acc : List V3} (h : LexAt l p acc) (hp : p < l.length) (hb : blankC l[p] = true) : LexAt l (p + 1) acc := ⟨fun x hx => h.1 _ (lex_skip hp hb acc x hx), h.2⟩
theorem next_pos {s : ByteArray} {p : Nat} {k : Int} {t : List UInt8} {n : Nat} (hlt : p < s.size) (h : nextT (s.data.toList.drop p) = some (k, t, n)) : 0 < n ∧ p + n ≤ s.size := by
  obtain ⟨c, r, hcr⟩ : ∃ c r, s.data.toList.drop p = c :: r := ⟨_, _, drop_at s p hlt⟩
  have hl : (c :: r).length = s.size - p := by rw [← hcr, List.length_drop, size_list]
  rw [hcr] at h
  have := (nextT_ok c r k t n h).2
  omega

set_option maxHeartbeats 8000000 in
set_option maxRecDepth 100000 in
theorem l02Lex_any (s : ByteArray) (w : World) (h6 : s.size ≤ 600) : Calls Tryd.prog 55 #[.string s] w (LexPost s w) := by
  have hs : s.size ≤ 65536 := by omega
  have hlit := hide (TokBuf.lit0 w w.heap.size (Nat.le_refl _))
  go_enter Tryd.func55, Tryd.ntmps55
  go_wp2
  go_loopw [5, 6] (fun m i wx => ∃ (p : Nat) (acc : List V3), p ≤ s.size ∧ i = .int .i64 p ∧ Hid (LexAt s.data.toList p acc) ∧ TokBuf wx w.heap.size m acc ∧ Below w.heap.size w wx) (fun _ i _ => s.size - (intOf i).toNat)
  case atStart => exact ⟨0, [], by omega, rfl, hide (lexAt_zero _), unhide hlit, nx_alloc _ _⟩
  case round =>
    clear hlit
    obtain ⟨p, acc, hp, rfl, hin, hown, hnx⟩ := hrel
    have hwr : w.heap.size ≤ wr.heap.size := hnx.size
    have hal : acc.length ≤ 300 := (unhide hin).2
    obtain ⟨ma, mcap, rfl⟩ := hown.slice
    have hlit2 := hide (TokBuf.lit0 wr w.heap.size hwr)
    by_cases hlt : p < s.size
    · have hlt' : (p : Int) < (s.size : Int) := by omega
      have hpl : Hid (p < s.data.toList.length) := hide (by rw [size_list]; exact hlt)
      have hbe := hide (blankC_eq s[p])
      have hblank := hide (fun (hb : blankC s[p] = true) => lexAt_blank (unhide hin) (unhide hpl) hb)
      by_cases hB : blankC s[p] = true
      · have hd := hide (unhide hblank hB)
        have hbb : (((s[p].toNat : Int) == 32) || ((s[p].toNat : Int) == 9) || ((s[p].toNat : Int) == 10)) = true := by rw [← unhide hbe]; exact hB
        clear hblank hB
        cases b1 : ((s[p].toNat : Int) == 32)
        · cases b2 : ((s[p].toNat : Int) == 9)
          · have b3 : ((s[p].toNat : Int) == 10) = true := by rw [b1, b2] at hbb; exact hbb
            have c1 : ¬ (s[p].toNat : Int) = 32 := by simpa using b1
            have c2 : ¬ (s[p].toNat : Int) = 9 := by simpa using b2
            have hbc : (((s[p].toNat : Int) == 32) = true ∨ ((s[p].toNat : Int) == 9) = true) ∨ ((s[p].toNat : Int) == 10) = true := .inr b3
            have hbd : ¬ ((((s[p].toNat : Int) == 32) = false ∧ ((s[p].toNat : Int) == 9) = false) ∧ ((s[p].toNat : Int) == 10) = false) := by rintro ⟨_, h⟩; rw [b3] at h; cases h
            have c3 : (s[p].toNat : Int) = 10 := by simpa using b3
            have HO := hide hown
            clear hown
            go_wp2
            go_roundw
            case rel => exact ⟨p + 1, acc, by omega, by go_num, hide (unhide hd), unhide HO, hnx⟩
            case measure => simp [intOf]; omega
          · clear hbb
            have c1 : ¬ (s[p].toNat : Int) = 32 := by simpa using b1
            have c2 : (s[p].toNat : Int) = 9 := by simpa using b2
            have HO := hide hown
            clear hown
            go_wp2
            go_roundw
            case rel => exact ⟨p + 1, acc, by omega, by go_num, hide (unhide hd), unhide HO, hnx⟩
            case measure => simp [intOf]; omega
        · clear hbb
          have c1 : (s[p].toNat : Int) = 32 := by simpa using b1
          have HO := hide hown
          clear hown
          go_wp2
          go_roundw
          case rel => exact ⟨p + 1, acc, by omega, by go_num, hide (unhide hd), unhide HO, hnx⟩
          case measure => simp [intOf]; omega
      have hB' : blankC s[p] = false := by simpa using hB
      have hb : Hid (blankC s[p] = false) := hide hB'
      have hbb : (((s[p].toNat : Int) == 32) || ((s[p].toNat : Int) == 9) || ((s[p].toNat : Int) == 10)) = false := by rw [← unhide hbe]; exact hB'
      have b1 : ((s[p].toNat : Int) == 32) = false := by cases h : ((s[p].toNat : Int) == 32) <;> simp [h] at hbb ⊢
      have b2 : ((s[p].toNat : Int) == 9) = false := by cases h : ((s[p].toNat : Int) == 9) <;> simp [h] at hbb ⊢
      have b3 : ((s[p].toNat : Int) == 10) = false := by cases h : ((s[p].toNat : Int) == 10) <;> simp [h] at hbb ⊢
      have c1 : ¬ (s[p].toNat : Int) = 32 := by simpa using b1
      have c2 : ¬ (s[p].toNat : Int) = 9 := by simpa using b2
      have c3 : ¬ (s[p].toNat : Int) = 10 := by simpa using b3
      have hbd : (((s[p].toNat : Int) == 32) = false ∧ ((s[p].toNat : Int) == 9) = false) ∧ ((s[p].toNat : Int) == 10) = false := ⟨⟨b1, b2⟩, b3⟩
      have hbg : ¬ (((s[p].toNat : Int) = 32 ∨ (s[p].toNat : Int) = 9) ∨ (s[p].toNat : Int) = 10) := by rintro ((h | h) | h) <;> contradiction
      have hbh : ¬ ((((s[p].toNat : Int) == 32) = true ∨ ((s[p].toNat : Int) == 9) = true) ∨ ((s[p].toNat : Int) == 10) = true) := by rw [b1, b2, b3]; simp
      clear hblank hB hB'
      by_cases h300 : acc.length = 300
      · have e3 : ((acc.length : Int) == 300) = true := by rw [h300]; rfl
        have hd := hide (lexAt_many (unhide hin) (unhide hpl) (unhide hb) h300)
        clear h300
        go_wp2
        go_ret3
        exact LexPost.mk _ [] p 6 (.inr (.inr ⟨h6, unhide hd⟩)) (unhide hlit2) (nx_al hnx)
      have e3 : ((acc.length : Int) == 300) = false := beq_eq_false_iff_ne.2 (by omega)
      have hform := hide (fun h => lexAt_form (unhide hin) (unhide hpl) (unhide hb) h300 h)
      have htok := hide (fun k t n h => lexAt_tok (k := k) (t := t) (n := n) (unhide hin) (unhide hpl) (unhide hb) h300 h)
      clear h300
      cases hx : nextT (s.data.toList.drop p) with
      | none =>
        have hd := hide (unhide hform hx)
        have HX := hide hx
        clear hx hform htok hlit2
        go_wp2_with fail
        refine (l02Next_is s p _ hs hlt none HX).mono ?_
        rintro e w1 ⟨rfl, hb1⟩
        rw [nextV_no]
        have hnx1 := hide (nx_trans hnx hb1)
        clear hb1
        go_wp2
        go_ret3
        exact LexPost.mk _ [] p 3 (.inr (.inr ⟨h6, unhide hd⟩)) (by have h9 := TokBuf.lit0 (w1.alloc (.cells #[.int .i64 0, .int .i64 0, .string ⟨#[]⟩] 44)) w.heap.size (by have := (unhide hnx1).size; simp; omega); simpa using h9) (nx_al (nx_al (unhide hnx1)))
      | some y =>
        obtain ⟨k, t, n⟩ := y
        have hd := hide (unhide htok k t n hx)
        obtain ⟨hn0, hns⟩ := next_pos hlt hx
        have HX := hide hx
        clear hx hform htok hlit2
        go_wp2_with fail
        refine (l02Next_is s p _ hs hlt (some (k, t, n)) HX).mono ?_
        rintro e w1 ⟨rfl, hb1⟩
        rw [nextV_yes]
        have hnx1 := hide (nx_trans hnx hb1)
        have hown1 := hide (hown.later hb1)
        clear hb1 hown
        go_wp2_with (at_builtin; refine wp_appK _ rfl _ _ rfl w.heap.size (w1.heap.size + 1) _ acc (tokV k p t) rfl (TokBuf.alloc (TokBuf.alloc (unhide hown1) _) _) rfl ?c0 ?c1 ?c2 ?c5 ?c3 ?c6)
        case c0 => exact (cell_new (by simp)).1
        case c1 => exact (cell_new (by simp)).2.1
        case c2 => exact (cell_new (by simp)).2.2
        case c5 => have := (unhide hnx1).size; first | omega | (simp; omega)
        case c3 => omega
        case c6 =>
          intro v3 w3 hown3 hb3
          have hnx3 : Below w.heap.size w w3 := (((unhide hnx1).alloc (unhide hnx1).size _).alloc (by have := (unhide hnx1).size; simp; omega) _).trans hb3
          have HO3 := hide hown3
          have hN3 := hide hnx3
          clear hown3 hb3 hnx3
          go_wp2
          go_roundw
          case rel => exact ⟨p + n, acc ++ [tokV k p t], hns, rfl, hide (unhide hd), unhide HO3, unhide hN3⟩
          case measure => simp [intOf]; omega
    · have hlt' : ¬ (p : Int) < (s.size : Int) := by omega
      have hd := hide (lexAt_done (unhide hin) (by rw [size_list]; omega))
      have HO := hide hown
      clear hown hlit2
      go_wp2
      go_ret3
      exact LexPost.mk _ acc 0 0 (.inr (.inr ⟨h6, unhide hd⟩)) (unhide HO) hnx

set_option maxHeartbeats 1000000 in
theorem specLexSource_any (s : ByteArray) (w : World) (hs : s.size ≤ maxLen) : Calls Tryd.prog 20 #[.string s] w (LexPost s w) := by
  unfold maxLen at hs
  have hlit := hide (TokBuf.lit0 w w.heap.size (Nat.le_refl _))
  by_cases h : 65536 < s.size
  · go_enter Tryd.func20, Tryd.ntmps20
    go_wp2
    go_ret3
    exact LexPost.mk _ [] 0 2 (.inl ⟨h, rfl⟩) (unhide hlit) (nx_alloc _ _)
  by_cases h6 : 600 < s.size
  · go_enter Tryd.func20, Tryd.ntmps20
    go_wp2
    go_ret3
    exact LexPost.mk _ [] 0 10 (.inr (.inl ⟨h6, by omega, rfl⟩)) (unhide hlit) (nx_alloc _ _)
  clear hlit
  go_enter Tryd.func20, Tryd.ntmps20
  go_wp2_with fail
  refine (l02Lex_any s _ (by omega)).mono ?_
  rintro e w1 ⟨v, vs, p, c, rfl, h1, h2, h3⟩
  have H2 := hide h2
  clear h2
  go_wp2
  go_ret3
  exact LexPost.mk _ vs p c h1 (unhide H2) h3

end Go.Proofs.YtckdacbopejdmaaDoor
