/- The program's SentTo, and its law. -/
import Derived.Test.YtcihmcgiokcibaaSentP
import Derived.Test.YtcihmcgiokcibaaSentBld
namespace Go.Proofs.Ytcihmcgiokcibaa
open Go.RowKit Go.Joins
set_option linter.unusedVariables false

theorem hasTooMuch_any (c : Int) (t : ByteArray) (s : Bool) (w : World) (ht : t.size ≤ maxLen) :
    Calls Try.prog 12 #[.agg #[.int .i64 c, .string t, .bool s]] w fun e w' => e = .returned (.bool (decide (4000 < t.size))) ∧ Below w.heap.size w w' := by
  unfold maxLen at ht
  go_enter Try.func12, Try.ntmps12
  go_wp2
  go_ret
  exact ⟨by simp; omega, qx_alloc _ _⟩

set_option maxHeartbeats 1000000 in
theorem indexMuch_any (p : Option Addr) (vs : List SV) (cap : Nat) (w : World) (hrow : SentsAt w p vs) (hlen : vs.length ≤ 1048576) (hsz : ∀ v ∈ vs, v.t.size ≤ maxLen) :
    Calls Try.prog 16 #[.slice p vs.length cap, .func (.func 12) #[] #[]] w fun e w' => ∃ r : Int, e = .returned (.int .i64 r) ∧ (vs.any bigS = decide (0 ≤ r)) ∧ Below w.heap.size w w' := by
  have HR := hide hrow
  have HS := hide hsz
  clear hrow hsz
  go_enter Try.func16, Try.ntmps16
  go_wp2
  go_loopw [5, 8] (fun _ i wx => ∃ k : Nat, k ≤ vs.length ∧ i = .int .i64 k ∧ Hid ((vs.take k).any bigS = false) ∧ Below w.heap.size w wx) (fun _ i _ => vs.length - (intOf i).toNat)
  case atStart => exact ⟨0, by omega, rfl, hide rfl, Below.refl _ _⟩
  case round =>
    obtain ⟨k, hk, rfl, HB, hnx⟩ := hrel
    by_cases hlt : k < vs.length
    · obtain ⟨b, off, rfl, _, q0, q1, q2⟩ := (unhide HR).later hnx k hlt
      have HT := hide (fun h => any_takeS hlt (unhide HB) h)
      have HG := hide (fun h : 4000 < vs[k].t.size => (List.any_eq_true.2 ⟨vs[k], List.getElem_mem hlt, by simp [bigS]; exact h⟩ : vs.any bigS = true))
      have hsz := unhide HS vs[k] (List.getElem_mem hlt)
      generalize vs[k].c = vc at q0
      generalize vs[k].t = vt at q1 HT HG hsz
      generalize vs[k].s = vb at q2
      have hcall := fun wz => hasTooMuch_any vc vt vb wz hsz
      by_cases h4 : 4000 < vt.size
      · rw [decide_eq_true h4] at hcall
        go_wp2_with fail
        refine (hcall _).mono ?_
        rintro e w' ⟨rfl, hb'⟩
        go_wp2
        go_ret
        exact ⟨(k : Int), rfl, by rw [unhide HG h4]; simp, qx_trans hnx hb'⟩
      · rw [decide_eq_false h4] at hcall
        go_wp2_with fail
        refine (hcall _).mono ?_
        rintro e w' ⟨rfl, hb'⟩
        go_wp2
        go_roundw
        case rel => exact ⟨k + 1, by omega, by go_num, hide (unhide HT h4), qx_trans hnx hb'⟩
        case measure => simp [intOf]; omega
    · have hz := unhide HB
      rw [List.take_of_length_le (by omega)] at hz
      go_wp2
      go_ret
      exact ⟨-1, rfl, by rw [hz]; rfl, hnx⟩

theorem containsMuch_any (p : Option Addr) (vs : List SV) (cap : Nat) (w : World) (hrow : SentsAt w p vs) (hlen : vs.length ≤ 1048576) (hsz : ∀ v ∈ vs, v.t.size ≤ maxLen) :
    Calls Try.prog 11 #[.slice p vs.length cap, .func (.func 12) #[] #[]] w fun e w' => e = .returned (.bool (vs.any bigS)) ∧ Below w.heap.size w w' := by
  generalize hq : vs.any bigS = q
  have HR := hide hrow
  have HS := hide hsz
  have HQ := hide hq
  clear hrow hsz hq
  go_enter Try.func11, Try.ntmps11
  go_wp2_with fail
  refine (indexMuch_any p vs cap _ (unhide HR) hlen (unhide HS)).mono ?_
  rintro e w' ⟨r, rfl, hr, hb⟩
  rw [unhide HQ] at hr
  subst hr
  go_wp2
  go_ret
  exact ⟨rfl, hb⟩

theorem SentTo_long (p : Option Addr) (vs : List SV) (cap : Nat) (c : Int) (w : World) (h : 4096 < vs.length) (hm : vs.length ≤ 1048576) :
    Calls Try.prog 7 #[.slice p vs.length cap, .int .i64 c] w fun e w' => e = .returned (.tuple #[.string ⟨#[]⟩, .int .i64 2]) ∧ w' = w := by
  go_enter Try.func7, Try.ntmps7
  go_wp2
  go_ret2
  exact ⟨rfl, rfl⟩
theorem SentTo_many (p : Option Addr) (vs : List SV) (cap : Nat) (c : Int) (w : World) (h0 : ¬ 4096 < vs.length) (h : 500 < vs.length) :
    Calls Try.prog 7 #[.slice p vs.length cap, .int .i64 c] w fun e w' => e = .returned (.tuple #[.string ⟨#[]⟩, .int .i64 1]) ∧ w' = w := by
  go_enter Try.func7, Try.ntmps7
  go_wp2
  go_ret2
  exact ⟨rfl, rfl⟩
set_option maxHeartbeats 2000000 in
theorem SentTo_any (p : Option Addr) (vs : List SV) (cap : Nat) (c : Int) (w : World) (hrow : SentsAt w p vs) (hm : vs.length ≤ 1048576) (hsz : ∀ v ∈ vs, v.t.size ≤ maxLen) :
    Calls Try.prog 7 #[.slice p vs.length cap, .int .i64 c] w fun e w' => e = .returned (.tuple #[.string (sentR vs c).1, .int .i64 (sentR vs c).2]) ∧ Below w.heap.size w w' := by
  by_cases hl : 4096 < vs.length
  · refine (SentTo_long p vs cap c w hl hm).mono ?_
    rintro e w' ⟨rfl, rfl⟩
    exact ⟨ret_sent (sentR_long hl), Below.refl _ _⟩
  by_cases h5 : 500 < vs.length
  · refine (SentTo_many p vs cap c w hl h5).mono ?_
    rintro e w' ⟨rfl, rfl⟩
    exact ⟨ret_sent (sentR_many hl h5), Below.refl _ _⟩
  have HR := hide hrow
  have HS := hide hsz
  clear hrow hsz
  obtain ⟨r, hr⟩ : ∃ r, r = sentR vs c := ⟨_, rfl⟩
  rw [← hr]
  have HH := hide hr
  clear hr
  cases hq : vs.any bigS with
  | true =>
    have HZ := hide (sentR_any (c := c) hl hq)
    go_enter Try.func7, Try.ntmps7
    go_wp2_with fail
    refine (containsMuch_any p vs cap _ (unhide HR) hm (unhide HS)).mono ?_
    rintro e w' ⟨rfl, hb⟩
    rw [hq]
    go_wp2
    go_ret2
    exact ⟨ret_sent ((unhide HH).trans (unhide HZ)), hb⟩
  | false =>
    have HB := hide hq
    go_enter Try.func7, Try.ntmps7
    go_wp2_with fail
    refine (containsMuch_any p vs cap _ (unhide HR) hm (unhide HS)).mono ?_
    rintro e w1 ⟨rfl, hb⟩
    rw [hq]
    clear hq
    have HR1 := hide ((unhide HR).later hb)
    clear HR HS
    have hB0 : BldC w1.heap.size w1.heap.size ⟨#[]⟩ (w1.alloc (.cells #[.pointer none, .slice none 0 0] 40)) := BldC.new (by show (w1.heap.push _)[w1.heap.size]? = _; simp)
    have HB0 := hide hB0
    clear hB0
    go_wp2
    go_loopw [8, 21] (fun _ i wx => ∃ k : Nat, k ≤ vs.length ∧ i = .int .i64 k ∧ Hid (BldC w1.heap.size w1.heap.size (catS c (vs.take k)) wx) ∧ w1.heap.size < wx.heap.size ∧ Below w1.heap.size w1 wx) (fun _ i _ => vs.length - (intOf i).toNat)
    case atStart => exact ⟨0, by omega, rfl, HB0, by simp, qx_alloc _ _⟩
    case round =>
      obtain ⟨k, hk, rfl, HBk, hgl, hnx⟩ := hrel
      by_cases hlt : k < vs.length
      · obtain ⟨b, off, rfl, _, q0, q1, q2⟩ := (unhide HR1).later hnx k hlt
        have HY := hide (fun e => catS_yes (c := c) hlt e)
        have HN := hide (fun e => catS_no (c := c) hlt e)
        have h4 : vs[k].t.size ≤ 4000 := by
          have := List.any_eq_false.1 (unhide HB) vs[k] (List.getElem_mem hlt)
          simp [bigS] at this
          omega
        have hcs : (catS c (vs.take k)).size ≤ 4000 * k := catS_size k (by
          have := unhide HB
          rw [List.any_eq_false] at this ⊢
          intro x hx
          exact this x (List.mem_of_mem_take hx)) hk
        generalize vs[k].c = vc at q0 HY HN
        generalize vs[k].t = vt at q1 HY h4
        generalize vs[k].s = vb at q2
        generalize catS c (vs.take k) = o at HY HN hcs HBk
        by_cases hc : vc = c
        · go_wp2_with fail
          refine (writeB_any _ _ o vt _ ((unhide HBk).alloc _) (by omega) (by simp; omega)).mono ?_
          rintro e w2 ⟨rfl, hb2, hbl⟩
          go_wp2
          go_roundw
          case rel => exact ⟨k + 1, by omega, by go_num, by rw [unhide HY hc]; exact hide hb2, by have := hbl.size; simp at this; omega, (hnx.alloc (by omega) _).trans hbl⟩
          case measure => simp [intOf]; omega
        · go_wp2
          go_roundw
          case rel => exact ⟨k + 1, by omega, by go_num, by rw [unhide HN hc]; exact hide ((unhide HBk).alloc _), by simp; omega, hnx.alloc (by omega) _⟩
          case measure => simp [intOf]; omega
      · have hz := sentR_ok (c := c) (vs := vs) (k := k) h5 (by omega) (by rw [List.take_of_length_le (by omega)]; exact unhide HB)
        generalize catS c (vs.take k) = o at hz HBk
        go_wp2_with fail
        refine (stringB_any _ _ o _ (unhide HBk) (by omega)).mono ?_
        rintro e w2 ⟨rfl, hbl⟩
        go_wp2
        go_ret2
        exact ⟨ret_sent ((unhide HH).trans hz), qx_trans hb (hnx.trans hbl)⟩

set_option maxHeartbeats 2000000 in
theorem lawSentTo_any (p : Option Addr) (vs : List SV) (cap : Nat) (c : Int) (w : World) (hrow : SentsAt w p vs) (hlen : vs.length ≤ maxLen) (hsz : ∀ v ∈ vs, v.t.size ≤ maxLen) (_wc : (Lit.int .i64 c).wf = true) :
    Calls Try.prog 3 #[.slice p vs.length cap, .int .i64 c] w fun e w' => e = .returned (.bool true) ∧ Below w.heap.size w w' := by
  have HR := hide hrow
  have HS := hide hsz
  unfold maxLen at hlen
  clear hrow hsz
  obtain ⟨gt, gc, hg⟩ : ∃ gt gc, sentR vs c = (gt, gc) := ⟨_, _, rfl⟩
  have HG := hide hg
  clear hg
  have e1 := qa_nself gt
  have e2 := ql_nself gt
  go_enter Try.func3, Try.ntmps3
  go_wp2_with fail
  refine (szSentS_any p vs cap _ (unhide HR) (by omega) (unhide HS)).mono ?_
  rintro e w1 ⟨r, rfl, hr, hb1⟩
  rcases hr with hr | ⟨hr, hlim⟩
  · go_wp2
    go_ret
    exact ⟨rfl, hb1⟩
  have hm : vs.length ≤ 1048576 := by omega
  clear hlim
  have hn : ¬ r < 0 := by omega
  have HR1 := hide ((unhide HR).later hb1)
  clear HR
  go_wp2_with fail
  refine (toSentS_any p vs cap _ (unhide HR1) hm).mono ?_
  rintro e w2 ⟨rfl, ha2, hb2⟩
  have HA2 := hide ha2
  have HR2 := hide ((unhide HR1).later hb2)
  clear ha2 HR1
  go_wp2_with fail
  refine (specSentTo_any _ vs _ c _ (unhide HA2).sents hm).mono ?_
  rintro e w3 ⟨rfl, hb3⟩
  have HR3 := hide ((unhide HR2).later hb3)
  clear HA2 HR2
  rw [unhide HG]
  go_wp2_with fail
  refine (toSentS_any p vs cap _ (unhide HR3) hm).mono ?_
  rintro e w4 ⟨rfl, ha4, hb4⟩
  have HA4 := hide ha4
  have HR4 := hide ((unhide HR3).later hb4)
  clear ha4 HR3
  go_wp2_with fail
  refine (SentTo_any _ vs _ c _ (unhide HA4).sents hm (unhide HS)).mono ?_
  rintro e w5 ⟨rfl, hb5⟩
  have HA5 := hide ((unhide HA4).later hb5)
  have HR5 := hide ((unhide HR4).later hb5)
  clear HA4 HR4
  rw [unhide HG]
  go_wp2_with fail
  refine (toSentS_any p vs cap _ (unhide HR5) hm).mono ?_
  rintro e w6 ⟨rfl, ha6, hb6⟩
  have HA6 := hide ha6
  have HA7 := hide ((unhide HA5).later hb6)
  clear ha6 HA5
  go_wp2_with fail
  refine (eqSentS_same _ _ vs _ _ _ hm (unhide HA7).sents (unhide HA6).sents).mono ?_
  rintro e w7 ⟨rfl, hb7⟩
  go_wp2
  go_ret
  exact ⟨rfl, qx_trans (qx_trans (qx_trans (qx_trans (qx_trans (qx_trans hb1 hb2) hb3) hb4) hb5) hb6) hb7⟩

end Go.Proofs.Ytcihmcgiokcibaa
