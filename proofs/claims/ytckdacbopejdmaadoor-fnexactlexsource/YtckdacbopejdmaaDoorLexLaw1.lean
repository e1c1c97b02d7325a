/- The law on sources read. -/
import Derived.Test.YtckdacbopejdmaaDoorMarkWalk
namespace Go.Proofs.YtckdacbopejdmaaDoor
open Go.RowKit Go.Joins
set_option linter.unusedVariables false

set_option maxHeartbeats 4000000 in
set_option maxRecDepth 100000 in
theorem heldTokenS_any (base : Nat) (v : Value) (n : Nat) (w : World) (hown : TokBuf w base v (markL n)) (h300 : n ≤ 300) :
    Calls Tryd.prog 27 #[v, .int .i64 1] w fun e w' => e = .returned (.int .i64 (1 + 3 * (n : Int))) ∧ Below w.heap.size w w' := by
  obtain ⟨a, cap, rfl⟩ := hown.slice
  rw [markL_len]
  have HO := hide hown
  clear hown
  go_enter Tryd.func27, Tryd.ntmps27
  go_wp2
  go_loopw [1, 5] (fun m i wx => ∃ k : Nat, k ≤ n ∧ i = .int .i64 k ∧ m = .int .i64 (1 + 3 * (k : Int)) ∧ Below w.heap.size w wx) (fun _ i _ => n - (intOf i).toNat)
  case atStart => exact ⟨0, by omega, rfl, by simp, Below.refl _ _⟩
  case round =>
    obtain ⟨k, hk, rfl, rfl, hnx⟩ := hrel
    by_cases hlt : k < n
    · have hcur := (unhide HO).later hnx
      rw [markL_len] at hcur
      obtain ⟨g, rfl, _, hgl, hat⟩ := hcur.opened (by rw [markL_len]; omega)
      obtain ⟨q0, q1, q2⟩ := hat k (by rw [markL_len]; omega)
      rw [markL_get] at q0 q1 q2
      have q0' : wr.cell? ⟨g, k * 3, none⟩ = some (.int .i64 (1 + 3 * (k : Int))) := q0
      have q1' : wr.cell? ⟨g, k * 3 + 1, none⟩ = some (.int .i64 (1 + 3 * (k : Int) + 1)) := q1
      have q2' : wr.cell? ⟨g, k * 3 + 2, none⟩ = some (.string (mkT (1 + 3 * (k : Int) + 1 + 1).toNat)) := q2
      clear hat hcur q0 q1 q2
      go_wp2
      go_region_held3 (fun y => y.cell? ⟨g, k * 3 + 2, none⟩ = some (.string (mkT (1 + 3 * (k : Int) + 1 + 1).toNat))) (go_keep) ((go_at_call 60; refine (markText_any _ _ (by omega) (by omega)).mono ?_; rintro e y ⟨rfl, hbx⟩; have z2 := cell_later hbx q2'))
      all_goals go_wp2
      all_goals (go_roundw; (case rel => exact ⟨k + 1, by omega, by go_num, int_eq (by omega), (by repeat (first | exact Below.refl _ _ | assumption | refine nx_al ?_ | refine nx_drew ?_ | refine nx_trans ?_ (by assumption)))⟩); (case measure => simp [intOf]; omega))
    · obtain rfl : k = n := by omega
      go_wp2
      go_ret
      exact ⟨rfl, hnx⟩

theorem lex_few {s : ByteArray} {vs : List V3} {p : Nat} {c : Int} (h : LexIs s (vs, p, c)) : vs.length ≤ 300 := by
  rcases h with ⟨_, h⟩ | ⟨_, _, h⟩ | ⟨_, h⟩
  · injection h with h1 h2; subst h1; simp
  · injection h with h1 h2; subst h1; simp
  · rcases h.good (by omega) (Lexed.zero 0) with ⟨_, _, h⟩ | ⟨_, h, _⟩
    · exact h.few
    · dsimp only at h; subst h; simp
theorem two_lex {s : ByteArray} {vs vs' : List V3} {p p' : Nat} {c c' : Int} (h : LexIs s (vs, p, c)) (h' : LexIs s (vs', p', c')) : vs' = vs ∧ p' = p ∧ c' = c := by
  have := h'.det h
  injection this with h1 h2
  injection h2 with h2 h3
  exact ⟨h1, h2, h3⟩
theorem eqTokenS_bufs {b b' : Nat} {v v' : Value} {vs : List V3} (w : World) (h : TokBuf w b v vs) (h' : TokBuf w b' v' vs) (hl : vs.length ≤ 300) :
    Calls Tryd.prog 25 #[v, v'] w fun e w' => e = .returned (.bool true) ∧ Below w.heap.size w w' := by
  obtain ⟨a, cap, rfl, ha⟩ := h.toks
  obtain ⟨a', cap', rfl, ha'⟩ := h'.toks
  exact eqTokenS_same a a' vs cap cap' w (by omega) ha ha'

set_option maxHeartbeats 4000000 in
set_option maxRecDepth 100000 in
theorem lawLexSource_any (s : ByteArray) (w : World) (hs : s.size ≤ maxLen) (hT : Tabs w) :
    Calls Tryd.prog 5 #[.string s] w fun e w' => e = .returned (.bool true) ∧ Below w.heap.size w w' := by
  have hs' := hs
  unfold maxLen at hs'
  have HT := hide hT
  clear hT
  by_cases h : 1048576 < s.size
  · go_enter Tryd.func5, Tryd.ntmps5
    go_wp2
    go_ret
    exact ⟨rfl, Below.refl _ _⟩
  go_enter Tryd.func5, Tryd.ntmps5
  go_wp2_with fail
  refine (specLexSource_any s _ hs).mono ?_
  rintro e w1 ⟨v0, vs, p, c, rfl, hx0, ht0, hb1⟩
  have HX := hide hx0
  have hfew := lex_few hx0
  have HT0 := hide ht0
  have hT1 := hide ((unhide HT).later hb1)
  have hz1 := hb1.size
  have hB1 := hide hb1
  clear hx0 ht0 hb1
  go_wp2_with fail
  refine (LexSource_any s _ hs hT1).mono ?_
  rintro e w2 ⟨v1, vs', p', c', rfl, hx1, ht1, hb2⟩
  obtain ⟨rfl, rfl, rfl⟩ := two_lex (unhide HX) hx1
  have HT1 := hide ht1
  have HL0 := hide (unhide HT0).own_lt
  have HT0' := hide ((unhide HT0).later hb2)
  have hT2 := hide ((unhide hT1).later hb2)
  have hz2 := hb2.size
  have hB2 := hide (nx_trans (unhide hB1) hb2)
  clear hx1 ht1 hb2
  go_wp2_with fail
  refine (eqTokenS_bufs _ (unhide HT1) (unhide HT0') hfew).mono ?_
  rintro e w3 ⟨rfl, hb3⟩
  have HT1' := hide ((unhide HT1).later hb3)
  have HT0'' := hide ((unhide HT0').later hb3)
  have hT3 := hide ((unhide hT2).later hb3)
  have hz3 := hb3.size
  have hB3 := hide (nx_trans (unhide hB2) hb3)
  clear hb3
  go_wp2_with fail
  refine (markTokenS_any w1.heap.size v1 _ _ (unhide HT1') (by omega) hfew).mono ?_
  rintro e w4 ⟨rfl, ht4, hb4⟩
  have HM4 := hide ht4
  have HT04 := hide ((unhide HT0'').below hb4 (unhide HL0))
  have hz4 := hb4.size
  have hB4 := hide ((unhide hB3).trans (hb4.mono (by omega)))
  have hT4 := hide (show Tabs w4 from ⟨(unhide hT3).1.below hb4 (unhide hT1).1.lt, (unhide hT3).2.below hb4 (unhide hT1).2.lt⟩)
  clear ht4 hb4
  go_wp2_with fail
  refine (heldTokenS_any w1.heap.size v1 _ _ (unhide HM4) hfew).mono ?_
  rintro e w5 ⟨rfl, hb5⟩
  have HM5 := hide ((unhide HM4).later hb5)
  have HT05 := hide ((unhide HT04).later hb5)
  have hT5 := hide ((unhide hT4).later hb5)
  have hB5 := hide (nx_trans (unhide hB4) hb5)
  clear hb5
  go_wp2_with fail
  refine (LexSource_any s _ hs hT5).mono ?_
  rintro e w6 ⟨v2, vs2, p2, c2, rfl, hx2, ht2, hb6⟩
  obtain ⟨rfl, rfl, rfl⟩ := two_lex (unhide HX) hx2
  have HT2 := hide ht2
  have HM6 := hide ((unhide HM5).later hb6)
  have HT06 := hide ((unhide HT05).later hb6)
  have hB6 := hide (nx_trans (unhide hB5) hb6)
  clear hx2 ht2 hb6
  go_wp2_with fail
  refine (eqTokenS_bufs _ (unhide HT2) (unhide HT06) hfew).mono ?_
  rintro e w7 ⟨rfl, hb7⟩
  have HM7 := hide ((unhide HM6).later hb7)
  have hB7 := hide (nx_trans (unhide hB6) hb7)
  clear hb7
  go_wp2_with fail
  refine (heldTokenS_any w1.heap.size v1 _ _ (unhide HM7) hfew).mono ?_
  rintro e w8 ⟨rfl, hb8⟩
  go_wp2
  go_ret
  exact ⟨rfl, nx_trans (unhide hB7) hb8⟩

end Go.Proofs.YtckdacbopejdmaaDoor
