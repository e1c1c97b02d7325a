/- The law on tokens read back: the walk. -/
import Derived.Test.YtckdacbopejdmaaDoorTokens1
namespace Go.Proofs.YtckdacbopejdmaaDoor
open Go.RowKit Go.Joins
set_option linter.unusedVariables false

set_option maxHeartbeats 16000000 in
set_option maxRecDepth 100000 in
theorem lawTokens_any (a0 : Option Addr) (len0 cap0 : Nat) (z0 : List Int) (w : World) (h0 : IsRow .u8 w a0 len0 cap0 z0) (hT : Tabs w) :
    Calls Tryd.prog 4 #[.slice a0 len0 cap0] w fun e w' => e = .returned (.bool true) ∧ Below w.heap.size w w' := by
  have hl0 : len0 ≤ 9223372036854775807 := by
    rcases h0 with ⟨_, rfl, _⟩ | ⟨x, _, h1, h2, _⟩
    · omega
    · unfold maxLen at h2; omega
  have HR := hide h0
  have HT := hide hT
  clear h0 hT
  by_cases g0 : 1048576 < len0
  · go_enter Tryd.func4, Tryd.ntmps4
    go_wp2
    go_ret
    exact ⟨rfl, Below.refl _ _⟩
  go_enter Tryd.func4, Tryd.ntmps4
  go_wp2_with fail
  refine (AnySource_any a0 len0 cap0 _ (by omega) (byteRow_of (unhide HR))).mono ?_
  rintro e w1 ⟨s, rfl, hsz, hb1⟩
  have hs : s.size ≤ maxLen := by unfold maxLen; omega
  have hT1 := hide ((unhide HT).later hb1)
  have hB1 := hide hb1
  clear hb1 HR
  go_wp2_with fail
  refine (LexSource_any s _ hs hT1).mono ?_
  rintro e w2 ⟨v1, vs, p, c, rfl, hx1, ht1, hb2⟩
  have HX := hide hx1
  obtain ⟨hfew, herr, hok⟩ := lex_few' hx1
  have HE := hide herr
  have HO := hide hok
  have HT1 := hide ht1
  have hT2 := hide ((unhide hT1).later hb2)
  have hB2 := hide (nx_trans (unhide hB1) hb2)
  clear hx1 ht1 hb2 herr hok
  go_wp2_with fail
  refine (specLexSource_any s _ hs).mono ?_
  rintro e w3 ⟨v0, vs', p', c', rfl, hx0, ht0, hb3⟩
  obtain ⟨rfl, rfl, rfl⟩ : vs' = vs ∧ p' = p ∧ c' = c := by
    have := hx0.det (unhide HX)
    injection this with h1 h2
    injection h2 with h2 h3
    exact ⟨h1, h2, h3⟩
  have HT0 := hide ht0
  have HT1' := hide ((unhide HT1).later hb3)
  have hT3 := hide ((unhide hT2).later hb3)
  have hB3 := hide (nx_trans (unhide hB2) hb3)
  clear hx0 ht0 hb3
  go_wp2_with fail
  refine (sameTokens_bufs _ (unhide HT1') (unhide HT0) hfew).mono ?_
  rintro e w4 ⟨rfl, hb4⟩
  have HT4 := hide ((unhide HT1').later hb4)
  have hT4 := hide ((unhide hT3).later hb4)
  have hB4 := hide (nx_trans (unhide hB3) hb4)
  clear hb4
  by_cases hc : c' = 0
  · subst hc
    have HLX := hide (unhide HO rfl)
    have HJ := hide (join_lexed (unhide HLX))
    have hzz : Hid (∀ v ∈ vs', v.t.size ≤ 60) := hide (fun v hv => by have := tokB_len ((unhide HLX).each v hv).1; rw [size_list] at this; exact this)
    have hbk := hide (fun hl => fun vs2 p2 c2 h2 => back_is (unhide HLX) hl (vs2 := vs2) (p2 := p2) (c2 := c2) h2)
    generalize hJL : joinL vs' = J at HJ hbk
    clear hJL
    have hJz := size_mk' J
    have hJlen : Hid (J.length ≤ 600000 → True) := hide (fun _ => trivial)
    go_wp2_with fail
    refine (JT_is _ (unhide HT4) J hfew (unhide hzz) hT4 HJ).mono ?_
    rintro e w5 ⟨rfl, hb5⟩
    have HT5 := hide ((unhide HT4).later hb5)
    have hT5 := hide ((unhide hT4).later hb5)
    have hB5 := hide (nx_trans (unhide hB4) hb5)
    clear hb5
    generalize (⟨J.toArray⟩ : ByteArray) = JB at hJz hbk ⊢
    by_cases h6 : 600 < JB.size
    · go_wp2
      go_ret
      exact ⟨rfl, unhide hB5⟩
    have hJ6 : J.length ≤ 600 := by omega
    go_wp2_with fail
    refine (LexSource_any JB _ (by unfold maxLen; omega) hT5).mono ?_
    rintro e w6 ⟨v2, vs2, p2, c2, rfl, hx2, ht2, hb6⟩
    obtain ⟨rfl, hlen2, hback⟩ := unhide hbk hJ6 vs2 p2 c2 hx2
    have HBK := hide hback
    have HT6 := hide ((unhide HT5).later hb6)
    have hT6 := hide ((unhide hT5).later hb6)
    have hB6 := hide (nx_trans (unhide hB5) hb6)
    obtain ⟨pa, ca, rfl, hA⟩ := (unhide HT6).toks
    obtain ⟨pc, cc, rfl, hC⟩ := ht2.toks
    rw [hlen2]
    have HA := hide hA
    have HC := hide hC
    clear hx2 ht2 hb6 hback hA hC
    go_wp2
    go_loopw [15] (fun i wx => ∃ k : Nat, k ≤ vs'.length ∧ i = .int .i64 k ∧ Below w6.heap.size w6 wx) (fun i _ => vs'.length - (intOf i).toNat)
    case atStart => exact ⟨0, by omega, rfl, Below.refl _ _⟩
    case round =>
      obtain ⟨k, hk, rfl, hnx⟩ := hrel
      by_cases hlt : k < vs'.length
      · have hlt' : (k : Int) < (vs'.length : Int) := by omega
        by_cases hk0 : k = 0
        · subst hk0
          have hA1 := (unhide HA).later hnx
          have hC1 := (unhide HC).later hnx
          obtain ⟨hvB, hvn0, hvn1⟩ := (unhide HLX).each vs'[0] (List.getElem_mem hlt)
          have hrk := hide (unhide HBK 0 hlt (by omega))
          have hts : vs'[0].t.size ≤ 60 := by have := tokB_len hvB; rw [size_list] at this; exact this
          have HTR : Hid (tokR vs'[0].k vs'[0].t.data.toList = (tokT vs'[0].k vs'[0].t.data.toList, 0)) := hide (if_pos hvB)
          have hcA := hide (fun (y : World) (hb : Below wr.heap.size wr y) => hA1.later hb)
          have hcC := hide (fun (y : World) (hb : Below wr.heap.size wr y) => hC1.later hb)
          have hT7 := hide ((unhide hT6).later hnx)
          obtain ⟨b1, o1, rfl, q0, q1, q2⟩ := hA1 0 hlt
          simp only [Nat.zero_mul, Nat.add_zero] at q0 q1 q2
          clear hA1 hC1 hvB hvn0 hvn1
          generalize hX : tokT vs'[0].k vs'[0].t.data.toList = X at HTR
          go_wp2_with fail
          refine (TT_is _ _ _ X _ hts hT7 HTR).mono ?_
          rintro e y1 ⟨rfl, hb1⟩
          obtain ⟨b1', o1', e1, q0', q1', q2'⟩ := unhide hcA y1 hb1 0 hlt
          simp only [Nat.zero_mul, Nat.add_zero] at q0' q1' q2'
          injection e1 with e1
          injection e1 with e1 e2 _
          subst e1 e2
          clear q0 q1 q2
          go_wp2_with fail
          refine (sTT_is _ _ _ X _ hts HTR).mono ?_
          rintro e y2 ⟨rfl, hb2⟩
          have hby := nx_trans hb1 hb2
          obtain ⟨b1', o1', e1, q0, q1, q2⟩ := unhide hcA y2 hby 0 hlt
          simp only [Nat.zero_mul, Nat.add_zero] at q0 q1 q2
          injection e1 with e1
          injection e1 with e1 e2 _
          subst e1 e2
          obtain ⟨b2, o2, rfl, s0, s1, s2⟩ := unhide hcC y2 hby 0 (by omega)
          simp only [Nat.zero_mul, Nat.add_zero] at s0 s1 s2
          rw [(unhide hrk).1] at s0
          rw [(unhide hrk).2] at s2
          have hnx2 := hide (nx_trans hnx hby)
          clear q0' q1' q2' hb1 hb2
          generalize vs'[0].k = vk at q0 s0
          generalize vs'[0].n = vn at q1
          generalize vs'[0].t = vt at q2 s2
          go_wp2
          go_quiet (fail)
          go_wp2
          go_roundw
          case rel => exact ⟨1, by omega, by go_num, nx_drewN (unhide hnx2)⟩
          case measure => simp [intOf]; omega
        · obtain ⟨m, rfl⟩ : ∃ m, k = m + 1 := ⟨k - 1, by omega⟩
          have hrise := hide ((unhide HLX).rise (m + 1) hlt (by omega))
          have hm : m < vs'.length := by omega
          have hA1 := (unhide HA).later hnx
          have hC1 := (unhide HC).later hnx
          obtain ⟨hvB, hvn0, hvn1⟩ := (unhide HLX).each vs'[m + 1] (List.getElem_mem hlt)
          have hrk := hide (unhide HBK (m + 1) hlt (by omega))
          have hts : vs'[m + 1].t.size ≤ 60 := by have := tokB_len hvB; rw [size_list] at this; exact this
          have HTR : Hid (tokR vs'[m + 1].k vs'[m + 1].t.data.toList = (tokT vs'[m + 1].k vs'[m + 1].t.data.toList, 0)) := hide (if_pos hvB)
          have hcA := hide (fun (y : World) (hb : Below wr.heap.size wr y) => hA1.later hb)
          have hcC := hide (fun (y : World) (hb : Below wr.heap.size wr y) => hC1.later hb)
          have hT7 := hide ((unhide hT6).later hnx)
          obtain ⟨b1, o1, rfl, q0, q1, q2⟩ := hA1 (m + 1) hlt
          clear hA1 hC1 hvB hvn0 hvn1
          generalize hX : tokT vs'[m + 1].k vs'[m + 1].t.data.toList = X at HTR
          go_wp2_with fail
          refine (TT_is _ _ _ X _ hts hT7 HTR).mono ?_
          rintro e y1 ⟨rfl, hb1⟩
          obtain ⟨b1', o1', e1, q0', q1', q2'⟩ := unhide hcA y1 hb1 (m + 1) hlt
          injection e1 with e1
          injection e1 with e1 e2 _
          subst e1 e2
          clear q0 q1 q2
          go_wp2_with fail
          refine (sTT_is _ _ _ X _ hts HTR).mono ?_
          rintro e y2 ⟨rfl, hb2⟩
          have hby := nx_trans hb1 hb2
          obtain ⟨b1', o1', e1, q0, q1, q2⟩ := unhide hcA y2 hby (m + 1) hlt
          injection e1 with e1
          injection e1 with e1 e2 _
          subst e1 e2
          obtain ⟨b2, o2, rfl, s0, s1, s2⟩ := unhide hcC y2 hby (m + 1) (by omega)
          rw [(unhide hrk).1] at s0
          rw [(unhide hrk).2] at s2
          have hnx2 := hide (nx_trans hnx hby)
          clear q0' q1' q2' hb1 hb2
          obtain ⟨b3, o3, e3, u0, u1, u2⟩ := unhide hcA y2 hby m hm
          injection e3 with e3
          injection e3 with e3 e4 _
          subst e3 e4
          have hge : decide (vs'[m + 1].n ≤ vs'[m].n) = false := by have := unhide hrise; simp at this ⊢; omega
          generalize vs'[m + 1].k = vk at q0 s0
          generalize vs'[m + 1].n = vn at q1 hge
          generalize vs'[m + 1].t = vt at q2 s2
          generalize vs'[m].n = vm at u1 hge
          clear u0 u2 hk0
          have hmm : (m : Int) < (vs'.length : Int) := by omega
          go_wp2
          go_quiet (fail)
          go_wp2
          go_roundw
          case rel => exact ⟨m + 1 + 1, by omega, by go_num, nx_drewN (unhide hnx2)⟩
          case measure => simp [intOf]; omega
      · have hlt' : ¬ (k : Int) < (vs'.length : Int) := by omega
        go_wp2
        go_ret
        exact ⟨rfl, nx_trans (unhide hB6) hnx⟩
  · obtain rfl := unhide HE hc
    have e0 : (c' != 0) = true := by rw [bne_iff_ne]; exact hc
    obtain ⟨pa, ca, rfl, hA⟩ := (unhide HT4).toks
    clear hc hA
    go_wp2
    go_ret
    exact ⟨rfl, unhide hB4⟩

end Go.Proofs.YtckdacbopejdmaaDoor
