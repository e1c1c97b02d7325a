/- Requests that are drawn are read back, and cut, more is waited for: the law. -/
import Derived.Test.YtacklokojchopaaDoorWireX4
namespace Go.Proofs.YtacklokojchopaaDoor
open Go.RowKit Go.Shelf Go.Joins
set_option linter.unusedVariables false

theorem IsRowW.later {k : IntKind} {w w' : World} {a : Option Addr} {len cap : Nat} {zs : List Int} (h : IsRow k w a len cap zs) (hb : Below w.heap.size w w') : IsRow k w' a len cap zs := IsRow.later h hb

set_option maxHeartbeats 16000000 in
set_option maxRecDepth 100000 in
theorem wire_walk (a0 a1 : Option Addr) (len0 cap0 len1 cap1 : Nat) (z0 z1 : List Int) (w : World) (h0 : IsRow .u8 w a0 len0 cap0 z0) (h1 : IsRow .u8 w a1 len1 cap1 z1) (hl0 : len0 ≤ 1048576) (hl1 : len1 ≤ 1048576) (hT : PowTabW w) (hm : MaxL w) :
    Calls Tryd.prog 3 #[.slice a0 len0 cap0, .slice a1 len1 cap1] w fun e w' => e = .returned (.bool true) ∧ Below w.heap.size w w' := by
  have HR0 := hide h0
  have HR1 := hide h1
  have HT := hide hT
  have HM := hide hm
  clear h0 h1 hT hm
  have q0 : ¬ (1048576 : Int) < (len0 : Int) := by omega
  have q1 : ¬ (1048576 : Int) < (len1 : Int) := by omega
  go_enter Tryd.func3, Tryd.ntmps3
  go_wp2_with fail
  refine (RequestOf_any a0 len0 cap0 _ (by omega) (byteRow_of (unhide HR0))).mono ?_
  rintro e w1 ⟨j, c, hj, rfl, hb1⟩
  have HW := hide (wire_facts j hj c)
  generalize wireP j = p at HW
  have hp40 := (wpathB_is (unhide HW).path).2
  have hpz : p.size ≤ maxLen := by unfold maxLen; omega
  have H1 := hide fun w => RequestText_any p c w hpz
  have H2 := hide fun w => specRequestText_any p c w hpz
  have eT : reqTR p c = (reqT c p, 0) := by unfold reqTR; rw [if_pos (unhide HW).path]
  rw [eT] at H1 H2
  have hsm := (unhide HW).small
  have hbig := (unhide HW).big
  have hzr : (reqT c p ++ restS).size ≤ maxLen := by rw [ByteArray.size_append]; have : restS.size = 4 := rfl; unfold maxLen; omega
  have H3 := hide fun w => ReadRequest_any (reqT c p ++ restS) w hzr
  rw [(unhide HW).back] at H3
  have H4 := hide fun (k : Nat) (hk : k < (reqT c p).size) w hm => by
    have := ReadRequest_any ((reqT c p).extract 0 k) w (by rw [ByteArray.size_extract]; unfold maxLen; omega) hm
    rw [(unhide HW).more k hk] at this
    exact this
  have H5 := hide fun w => SplitPath_any p w hpz
  have H6 := hide fun w => specSplitPath_any p w hpz
  have H7 := hide fun w => HeaderOf_any (reqT c p) hostS w (by unfold maxLen; omega) (by decide)
  rw [(unhide HW).host] at H7
  have h40 : ¬ 65536 < p.size := by omega
  have e5 : (splitPR p).2.2 = 0 := by unfold splitPR; rw [if_neg h40, if_pos (unhide HW).path]
  rw [e5] at H5 H6
  generalize (splitPR p).1 = A at H5 H6
  generalize (splitPR p).2.1 = B at H5 H6
  have H8 := hide fun w => ReplyText_any 503 ⟨#[102, 117, 108, 108]⟩ true w (by decide)
  have H9 := hide fun w => specReplyText_any 503 ⟨#[102, 117, 108, 108]⟩ true w (by decide)
  have e8 : (replyR 503 ⟨#[102, 117, 108, 108]⟩ true).2 = 0 := by decide +kernel
  rw [e8] at H8 H9
  generalize (replyR 503 ⟨#[102, 117, 108, 108]⟩ true).1 = RT at H8 H9
  have hre : restS = ⟨#[114, 101, 115, 116]⟩ := rfl
  rw [hre] at H3
  clear HW eT e5 e8 hzr h40 hre hj
  generalize reqT c p = T at H1 H2 H3 H4 H7 hsm hbig
  dsimp only at H1 H2 H7
  have s1 := qa_self T
  have s2 := ql_self T
  have s3 := qa_self A
  have s4 := ql_self A
  have s5 := qa_self B
  have s6 := ql_self B
  have s7 := qa_self RT
  have s8 := ql_self RT
  have s9 := qa_self p
  have s10 := ql_self p
  have hT1 := hide ((unhide HT).later hb1 (Nat.le_refl _))
  have hM1 := hide ((unhide HM).later hb1)
  have hR1 := hide ((unhide HR1).later hb1)
  have htop1 := hide hb1
  have hq1 := hide (ReqAt.new w1 p c w1.heap.size rfl 24)
  have hal := hide (qx_alloc w1 (.cells #[.string p, .bool c] 24))
  clear HT HM HR1 HR0 hb1
  go_wp2_with fail
  refine (unhide H1 _).mono ?_
  rintro e w2 ⟨rfl, hb2⟩
  have hq2 := hide ((unhide hq1).later hb2)
  have hx2 := hide (qx_trans (unhide hal) hb2)
  obtain ⟨rc0, rc1, rf0, rf1, rl⟩ := unhide hq2
  clear hb2 hq1
  go_wp2_with fail
  refine (unhide H2 _).mono ?_
  rintro e w3 ⟨rfl, hb3⟩
  have hq3 := hide ((unhide hq2).later hb3)
  have hx3 := hide (qx_trans (unhide hx2) hb3)
  clear hb3 rc0 rc1 rf0 rf1 rl hq2
  go_wp2_with fail
  refine (unhide H3 _ ((unhide hM1).later (unhide hx3))).mono ?_
  rintro e w4 ⟨rfl, hb4⟩
  have hq4 := hide (((unhide hq3).later hb4).later (qx_alloc w4 (.cells #[.string p, .bool c] 24)))
  have hy4 := hide (ReqAt.new w4 p c w4.heap.size rfl 24)
  have hx4 := hide (qx_al (o := .cells #[.string p, .bool c] 24) (qx_trans (unhide hx3) hb4))
  have hn : (1 : Int) < (T.size : Int) := by omega
  have HAt := hide (fun w hr => at_any a1 len1 cap1 z1 0 (T.size : Int) w hr hl1 (.inl rfl) hn (by omega))
  simp only [rrV]
  clear hb4 hq3
  go_wp2_with fail
  refine (unhide HAt _ ((unhide hR1).later (unhide hx4))).mono ?_
  rintro e w5 ⟨k0, rfl, hk0, hk1, hb5⟩
  obtain ⟨k, rfl⟩ := Int.eq_ofNat_of_zero_le hk0
  have hkt : k < T.size := by omega
  have hks : (k : Int) ≤ (T.size : Int) := by omega
  have hq5 := hide ((unhide hq4).later hb5)
  have hy5 := hide ((unhide hy4).later hb5)
  have hx5 := hide (qx_trans (unhide hx4) hb5)
  have H4k := hide fun w hm => unhide H4 k hkt w hm
  clear hb5 hq4 hy4 hk0 hk1 H4 hkt
  go_wp2_with fail
  refine (unhide H4k _ ((unhide hM1).later (unhide hx5))).mono ?_
  rintro e w6 ⟨rfl, hb6⟩
  have hq6 := hide (((unhide hq5).later hb6).later (qx_alloc w6 (.cells #[.string ⟨#[]⟩, .bool false] 24)))
  have hy6 := hide (((unhide hy5).later hb6).later (qx_alloc w6 (.cells #[.string ⟨#[]⟩, .bool false] 24)))
  have hx6 := hide (qx_al (o := .cells #[.string ⟨#[]⟩, .bool false] 24) (qx_trans (unhide hx5) hb6))
  simp only [rrV, RR.bad]
  obtain ⟨rc0, rc1, rf0, rf1, rl⟩ := (unhide hq5).later hb6
  have hne6 : w1.heap.size ≠ w6.heap.size := by omega
  clear hb6 hq5 hy5
  go_wp2_with fail
  refine (unhide H5 _ ((unhide hM1).later (unhide hx6))).mono ?_
  rintro e w7 ⟨rfl, hb7⟩
  have hq7 := hide ((unhide hq6).later hb7)
  have hy7 := hide ((unhide hy6).later hb7)
  have hx7 := hide (qx_trans (unhide hx6) hb7)
  clear rc0 rc1 rf0 rf1 rl hne6 hb7 hq6 hy6
  obtain ⟨rc0, rc1, rf0, rf1, rl⟩ := unhide hq7
  go_wp2_with fail
  refine (unhide H6 _).mono ?_
  rintro e w8 ⟨rfl, hb8⟩
  have hq8 := hide ((unhide hq7).later hb8)
  have hy8 := hide ((unhide hy7).later hb8)
  have hx8 := hide (qx_trans (unhide hx7) hb8)
  clear rc0 rc1 rf0 rf1 rl hb8 hq7 hy7
  go_wp2_with fail
  refine (unhide H7 _ ((unhide hM1).later (unhide hx8))).mono ?_
  rintro e w9 ⟨rfl, hb9⟩
  have hq9 := hide ((unhide hq8).later hb9)
  have hy9 := hide ((unhide hy8).later hb9)
  have hx9 := hide (qx_trans (unhide hx8) hb9)
  clear hb9 hq8 hy8
  go_wp2_with fail
  refine (unhide H8 _ ((unhide hT1).later (unhide hx9) (Nat.le_refl _))).mono ?_
  rintro e wa ⟨rfl, hba⟩
  have hqa := hide ((unhide hq9).later hba)
  have hya := hide ((unhide hy9).later hba)
  have hxa := hide (qx_trans (unhide hx9) hba)
  clear hba hq9 hy9
  go_wp2_with fail
  refine (unhide H9 _).mono ?_
  rintro e wb ⟨rfl, hbb⟩
  obtain ⟨rc0, rc1, rf0, rf1, rl⟩ := (unhide hqa).later hbb
  obtain ⟨yc0, yc1, yf0, yf1, yl⟩ := (unhide hya).later hbb
  have hxb := hide (qx_trans (unhide hxa) hbb)
  have he := req_text (N := edgeS) (L := [101, 100, 103, 101]) rfl
  obtain ⟨t1, t2, t3⟩ := he
  have cc : (c == c) = true := by cases c <;> rfl
  have hw4 : Hid ((statW 404 == statW 404) = true ∧ ((statW 404).toList == (statW 404).toList) = true) := hide ⟨qa_self _, ql_self _⟩
  have G1 := hide fun w => StatusWord_any 404 w
  have G2 := hide fun w => specStatusWord_any 404 w
  generalize statW 404 = SW at G1 G2 hw4
  obtain ⟨t4, t5⟩ := unhide hw4
  clear hbb hqa hya
  go_wp2_with (first | (go_at_call 17; refine (unhide G1 _).mono ?_; rintro e y ⟨rfl, rfl⟩) | (go_at_call 18; refine (unhide G2 _).mono ?_; rintro e y ⟨rfl, rfl⟩))
  go_ret
  exact ⟨rfl, qx_trans (unhide htop1) (unhide hxb)⟩

theorem powTabWire_of_laid {W : World} (h : laidMetH Tryd.prog Rows.fnWireRow.laid W) : PowTabW W := by
  rw [MakeChecks.laidMetH_plain _ _ _ (by kernel_rfl)] at h
  have h1 : laidMet Tryd.prog [_, _, (powNameW, Rows.laid_internal_strconv_uint64pow10), _, _] W := h
  rw [powDataW] at h1
  exact Lib.tabIs_of_head (t := 117) (e := 101) (n := 20) gPowW tPowW Tryd.underlying117 Tryd.underlying101 (by kernel_rfl) (by kernel_rfl) h1.tail.tail

set_option maxHeartbeats 2000000 in
set_option maxRecDepth 100000 in
theorem lawWire_any (a0 : Option Addr) (len0 cap0 : Nat) (z0 : List Int) (a1 : Option Addr) (len1 cap1 : Nat) (z1 : List Int) (w : World) (h0 : IsRow .u8 w a0 len0 cap0 z0) (h1 : IsRow .u8 w a1 len1 cap1 z1) (hT : PowTabW w) (hm : MaxL w) :
    Calls Tryd.prog 3 #[.slice a0 len0 cap0, .slice a1 len1 cap1] w fun e w' => e = .returned (.bool true) ∧ Below w.heap.size w w' := by
  have hz0 := IsRow.len h0
  have hz1 := IsRow.len h1
  by_cases hl0 : len0 ≤ 1048576
  · by_cases hl1 : len1 ≤ 1048576
    · exact wire_walk a0 a1 len0 cap0 len1 cap1 z0 z1 w h0 h1 hl0 hl1 hT hm
    · clear h0 h1 hT hm
      go_enter Tryd.func3, Tryd.ntmps3
      go_wp2
      go_ret
      exact ⟨rfl, Below.refl _ _⟩
  · clear h0 h1 hT hm
    go_enter Tryd.func3, Tryd.ntmps3
    go_wp2
    go_ret
    exact ⟨rfl, Below.refl _ _⟩

end Go.Proofs.YtacklokojchopaaDoor
