/- CountStatus: the specification's, the program's, and its law. -/
import Derived.Test.YtcihmcgiokcibaaDoorCountP
import Derived.Test.YtcihmcgiokcibaaDoorSentF
import Derived.Test.YtcihmcgiokcibaaDoorWireX0
namespace Go.Proofs.YtcihmcgiokcibaaDoor
open Go.RowKit Go.Joins Go.Shelf
set_option linter.unusedVariables false

def headS (st : Int) : ByteArray := http1 ++ decS st ++ blankS
def apartB : List UInt8 → Bool
  | [] => false
  | c :: r => r.all fun x => x != c
theorem apart_of {h : List UInt8} (e : apartB h = true) : Apart h := by
  cases h with
  | nil => cases e
  | cons c r => exact ⟨c, r, rfl, fun x hx he => by have := List.all_eq_true.1 e x hx; simp at this; exact this he⟩
theorem headS_apart {st : Int} (h : statW st ≠ ⟨#[]⟩) : Apart (headS st).data.toList := by
  refine apart_of ?_
  unfold statW at h
  repeat (split at h; · next e => subst e; decide +kernel)
  exact absurd rfl h
theorem headS_size {st : Int} (h : statW st ≠ ⟨#[]⟩) : 2 ≤ (headS st).size ∧ (headS st).size ≤ 200 := by
  obtain ⟨r0, r1⟩ := statW_range h
  have := decS_size st (by omega) (by omega)
  unfold headS
  rw [size_appS, size_appS]
  have e1 : http1.size = 9 := rfl
  have e2 : blankS.size = 1 := rfl
  omega
/-- in all of them -/
def totS (h : ByteArray) (vs : List SV) : Nat := (vs.map fun v => Lib.countB v.t h).foldr (· + ·) 0
theorem totS_snoc (h : ByteArray) (l : List SV) (v : SV) : totS h (l ++ [v]) = totS h l + Lib.countB v.t h := by
  induction l with
  | nil => simp [totS]
  | cons a r ih => simp [totS] at ih ⊢; omega
theorem totS_take {h : ByteArray} {vs : List SV} {k : Nat} (hk : k < vs.length) : totS h (vs.take (k + 1)) = totS h (vs.take k) + Lib.countB vs[k].t h := by
  rw [List.take_succ_eq_append_getElem hk, totS_snoc]
theorem countB_le (s h : ByteArray) : Lib.countB s h ≤ s.size + 1 := by
  have := Lib.count_le s.data.toList h.data.toList
  rw [← Lib.size_eq] at this
  exact this
theorem totS_le {h : ByteArray} {vs : List SV} (k : Nat) (hb : (vs.take k).any bigS = false) (hk : k ≤ vs.length) : totS h (vs.take k) ≤ 4001 * k := by
  induction k with
  | zero => simp [totS]
  | succ k ih =>
    have hlt : k < vs.length := by omega
    have h0 := hb
    rw [List.take_succ_eq_append_getElem hlt, List.any_append] at h0
    simp [bigS] at h0
    obtain ⟨h1, h2⟩ := h0
    have ih' := ih (by
      rw [List.any_eq_false]
      intro x hx
      have := h1 x hx
      simp [bigS]; omega) (by omega)
    have := countB_le vs[k].t h
    rw [totS_take hlt]
    omega
/-- what CountStatus answers -/
def statR (vs : List SV) (st : Int) : Int × Int :=
  if 4096 < vs.length then (0, 2) else if 500 < vs.length ∨ statW st = ⟨#[]⟩ then (0, 4) else if vs.any bigS = true then (0, 1) else (((totS (headS st) vs : Nat) : Int), 0)
theorem statR_long {vs : List SV} {st : Int} (h : 4096 < vs.length) : statR vs st = (0, 2) := if_pos h
theorem statR_many {vs : List SV} {st : Int} (h : ¬ 4096 < vs.length) (h1 : 500 < vs.length) : statR vs st = (0, 4) := by unfold statR; rw [if_neg h, if_pos (.inl h1)]
theorem statR_none {vs : List SV} {st : Int} (h : ¬ 4096 < vs.length) (h1 : statW st = ⟨#[]⟩) : statR vs st = (0, 4) := by unfold statR; rw [if_neg h, if_pos (.inr h1)]
theorem statR_any {vs : List SV} {st : Int} (h : ¬ 500 < vs.length) (h1 : statW st ≠ ⟨#[]⟩) (h2 : vs.any bigS = true) : statR vs st = (0, 1) := by
  unfold statR; rw [if_neg (by omega), if_neg (by rintro (h3 | h3); exact h h3; exact h1 h3), if_pos h2]
theorem statR_big {vs : List SV} {st : Int} {k : Nat} (h : ¬ 500 < vs.length) (h1 : statW st ≠ ⟨#[]⟩) (hk : k < vs.length) (h2 : 4000 < vs[k].t.size) : statR vs st = (0, 1) :=
  statR_any h h1 (List.any_eq_true.2 ⟨vs[k], List.getElem_mem hk, by simp [bigS]; exact h2⟩)
theorem statR_ok {vs : List SV} {st : Int} {k : Nat} (h : ¬ 500 < vs.length) (h1 : statW st ≠ ⟨#[]⟩) (hk : vs.length ≤ k) (h2 : (vs.take k).any bigS = false) : statR vs st = (((totS (headS st) (vs.take k) : Nat) : Int), 0) := by
  rw [List.take_of_length_le hk] at h2 ⊢
  unfold statR; rw [if_neg (by omega), if_neg (by rintro (h3 | h3); exact h h3; exact h1 h3), if_neg (by rw [h2]; simp)]
theorem ret_stat {t n : Int} {r : Int × Int} (h : r = (t, n)) : Ending.returned (.tuple #[.int .i64 t, .int .i64 n]) = .returned (.tuple #[.int .i64 r.1, .int .i64 r.2]) := by rw [h]

theorem l01BitS_any (b : Bool) (w : World) :
    Calls Tryd.prog 12 #[.bool b] w fun e w' => e = .returned (.int .i64 (if b = true then 1 else 0)) ∧ w' = w := by
  cases b with
  | true =>
    go_enter Tryd.func12, Tryd.ntmps12
    go_wp2
    go_ret
    exact ⟨rfl, rfl⟩
  | false =>
    go_enter Tryd.func12, Tryd.ntmps12
    go_wp2
    go_ret
    exact ⟨rfl, rfl⟩

theorem specCountStatus_long (p : Option Addr) (vs : List SV) (cap : Nat) (st : Int) (w : World) (h : 4096 < vs.length) (hm : vs.length ≤ 1048576) :
    Calls Tryd.prog 5 #[.slice p vs.length cap, .int .i64 st] w fun e w' => e = .returned (.tuple #[.int .i64 0, .int .i64 2]) ∧ w' = w := by
  go_enter Tryd.func5, Tryd.ntmps5
  go_wp2
  go_ret2
  exact ⟨rfl, rfl⟩
theorem specCountStatus_many (p : Option Addr) (vs : List SV) (cap : Nat) (st : Int) (w : World) (h0 : ¬ 4096 < vs.length) (h : 500 < vs.length) :
    Calls Tryd.prog 5 #[.slice p vs.length cap, .int .i64 st] w fun e w' => e = .returned (.tuple #[.int .i64 0, .int .i64 4]) ∧ w' = w := by
  go_enter Tryd.func5, Tryd.ntmps5
  go_wp2
  go_ret2
  exact ⟨rfl, rfl⟩
theorem specCountStatus_none (p : Option Addr) (vs : List SV) (cap : Nat) (st : Int) (w : World) (h0 : ¬ 4096 < vs.length) (h : ¬ 500 < vs.length) (hW : statW st = ⟨#[]⟩) :
    Calls Tryd.prog 5 #[.slice p vs.length cap, .int .i64 st] w fun e w' => e = .returned (.tuple #[.int .i64 0, .int .i64 4]) ∧ w' = w := by
  have H3 := hide fun w => specStatusWord_any st w
  rw [hW] at H3
  clear hW
  go_enter Tryd.func5, Tryd.ntmps5
  go_wp2_with fail
  refine (unhide H3 _).mono ?_
  rintro e w1 ⟨rfl, rfl⟩
  go_wp2
  go_ret2
  exact ⟨rfl, rfl⟩
theorem occ_ext {t h : ByteArray} {k : Nat} (hr : k + h.size ≤ t.size) : Lib.occAt t.data.toList h.data.toList k = decide (t.extract k (k + h.size) = h) := by
  cases ho : Lib.occAt t.data.toList h.data.toList k with
  | true => exact (decide_eq_true ((occ_eq t h k hr).2 ho)).symm
  | false =>
    refine (decide_eq_false fun e => ?_).symm
    rw [(occ_eq t h k hr).1 e] at ho
    cases ho
theorem cnt_end {t h : ByteArray} (ha : Apart h.data.toList) {k : Nat} (hk : k ≤ t.size + 1) (hr : ¬ k + h.size ≤ t.size) : cntP t.data.toList h.data.toList k = Lib.countB t h := by
  show _ = Lib.count _ _
  rw [count_places ha _ _ (Nat.le_refl _)]
  refine (cntP_same (by rw [← Lib.size_eq]; exact hk) fun i h1 h2 => occ_out ha.ne ?_).symm
  rw [← Lib.size_eq, ← Lib.size_eq]
  omega
theorem cntP_le (s h : List UInt8) (n : Nat) : cntP s h n ≤ n := by
  unfold cntP
  have := List.countP_le_length (p := Lib.occAt s h) (l := List.range n)
  simpa using this

set_option maxHeartbeats 4000000 in
theorem specCountStatus_any (p : Option Addr) (vs : List SV) (cap : Nat) (st : Int) (w : World) (hrow : SentsAt w p vs) (hm : vs.length ≤ 1048576) :
    Calls Tryd.prog 5 #[.slice p vs.length cap, .int .i64 st] w fun e w' => e = .returned (.tuple #[.int .i64 (statR vs st).1, .int .i64 (statR vs st).2]) ∧ Below w.heap.size w w' := by
  by_cases hl : 4096 < vs.length
  · refine (specCountStatus_long p vs cap st w hl hm).mono ?_
    rintro e w' ⟨rfl, rfl⟩
    exact ⟨ret_stat (statR_long hl), Below.refl _ _⟩
  by_cases h5 : 500 < vs.length
  · refine (specCountStatus_many p vs cap st w hl h5).mono ?_
    rintro e w' ⟨rfl, rfl⟩
    exact ⟨ret_stat (statR_many hl h5), Below.refl _ _⟩
  by_cases hW : statW st = ⟨#[]⟩
  · refine (specCountStatus_none p vs cap st w hl h5 hW).mono ?_
    rintro e w' ⟨rfl, rfl⟩
    exact ⟨ret_stat (statR_none hl hW), Below.refl _ _⟩
  have HR := hide hrow
  clear hrow
  obtain ⟨r, hr⟩ : ∃ r, r = statR vs st := ⟨_, rfl⟩
  rw [← hr]
  have HH := hide hr
  clear hr
  obtain ⟨r0, r1⟩ := statW_range hW
  have H3 := hide fun w => specStatusWord_any st w
  have H4 := hide fun w => l00Digits_anyW st w (by omega) (by omega)
  have HBIT := hide fun (b : Bool) w => l01BitS_any b w
  have hl1 : ¬ (statW st).toList = [] := fun e => hW (qa_list (by rw [← ByteArray.toList_eq, e]))
  have hl2 : (statW st).toList.isEmpty = false := by simp [hl1]
  have hl3 : ((statW st).toList == []) = false := by simp [hl1]
  have HA := hide (headS_apart hW)
  have hz := headS_size hW
  have HBIG := hide (fun k (hk : k < vs.length) h => statR_big (st := st) h5 hW hk h)
  have HOK := hide (fun k (hk : vs.length ≤ k) h => statR_ok (st := st) h5 hW hk h)
  have hd : ({ data := #[72, 84, 84, 80, 47, 49, 46, 49, 32] } : ByteArray) ++ ⟨(Lib.itoa st).toArray⟩ ++ { data := #[32] } = headS st := rfl
  have hdz := decS_size st (by omega) (by omega)
  have hdz' : (⟨(Lib.itoa st).toArray⟩ : ByteArray).size ≤ 100 := hdz
  clear hdz
  generalize (⟨(Lib.itoa st).toArray⟩ : ByteArray) = ds at H4 hd hdz'
  generalize headS st = h at HA hz HOK hd
  clear hW
  generalize statW st = W at H3 hl1 hl2 hl3
  go_enter Tryd.func5, Tryd.ntmps5
  go_wp2_with fail
  refine (unhide H3 _).mono ?_
  rintro e w1 ⟨rfl, rfl⟩
  go_wp2_with fail
  refine (unhide H4 _).mono ?_
  rintro e w1 ⟨rfl, hb1⟩
  have HR1 := hide ((unhide HR).later hb1)
  clear HR
  go_wp2
  go_loopw [7, 8, 9] (fun n i _ wx => ∃ k : Nat, k ≤ vs.length ∧ i = .int .i64 k ∧ n = .int .i64 (totS h (vs.take k)) ∧ Hid ((vs.take k).any bigS = false) ∧ wx = w1) (fun _ i _ _ => vs.length - (intOf i).toNat)
  case atStart => exact ⟨0, by omega, rfl, rfl, hide rfl, rfl⟩
  case round =>
    obtain ⟨k, hk, rfl, rfl, HB, rfl⟩ := hrel
    by_cases hlt : k < vs.length
    · obtain ⟨b, off, rfl, _, q0, q1, q2⟩ := unhide HR1 k hlt
      have HT := hide (fun h => any_takeS hlt (unhide HB) h)
      have HG := hide (fun hh => unhide HBIG k hlt hh)
      have HY := hide (totS_take (h := h) hlt)
      have hsz := totS_le (h := h) k (unhide HB) hk
      generalize vs[k].c = vc at q0
      generalize vs[k].t = vt at q1 HT HG HY
      generalize vs[k].s = vb at q2
      generalize totS h (vs.take k) = n0 at HY hsz
      by_cases h4 : 4000 < vt.size
      · go_wp2
        go_ret2
        exact ⟨ret_stat ((unhide HH).trans (unhide HG h4)), hb1⟩
      go_wp2
      go_loopw [7, 9] (fun n i wx => ∃ j : Nat, j ≤ vt.size + 1 ∧ i = .int .i64 j ∧ n = .int .i64 ((n0 + cntP vt.data.toList h.data.toList j : Nat) : Int) ∧ wx = wr) (fun _ i _ => vt.size + 2 - (intOf i).toNat)
      case atStart => exact ⟨0, by omega, rfl, by simp [cntP], rfl⟩
      case round =>
        obtain ⟨j, hj, rfl, rfl, rfl⟩ := hrel
        have hcl := cntP_le vt.data.toList h.data.toList j
        have HE := hide (fun hr => cnt_end (unhide HA) hj hr)
        by_cases hr : j + h.size ≤ vt.size
        · have ho := occ_ext hr
          by_cases he : vt.extract j (j + h.size) = h
          · rw [decide_eq_true he] at ho
            have HS := hide (cntP_yes ho)
            clear ho
            generalize cntP vt.data.toList h.data.toList j = m at hcl HE HS
            have q1 := qa_self h
            have q2 := ql_self h
            go_wp2_with fail
            refine (unhide HBIT true _).mono ?_
            rintro e w' ⟨rfl, rfl⟩
            go_wp2
            go_roundw
            case rel => exact ⟨j + 1, by omega, by go_num, by rw [unhide HS]; go_num, trivial⟩
            case measure => simp [intOf]; omega
          · rw [decide_eq_false he] at ho
            have HS := hide (cntP_no ho)
            clear ho
            generalize cntP vt.data.toList h.data.toList j = m at hcl HE HS
            have q1 := qa_ne he
            have q2 := ql_ne he
            clear he
            go_wp2_with fail
            refine (unhide HBIT false _).mono ?_
            rintro e w' ⟨rfl, rfl⟩
            go_wp2
            go_roundw
            case rel => exact ⟨j + 1, by omega, by go_num, by rw [unhide HS]; go_num, trivial⟩
            case measure => simp [intOf]; omega
        · have hE := unhide HE hr
          rw [hE]
          go_wp2
          go_roundw
          case rel => exact ⟨k + 1, by omega, by go_num, by rw [unhide HY], hide (unhide HT h4), trivial⟩
          case measure => simp [intOf]; omega
    · have hz := unhide HOK k (by omega) (unhide HB)
      go_wp2
      go_ret2
      exact ⟨ret_stat ((unhide HH).trans hz), hb1⟩

theorem CountStatus_long (p : Option Addr) (vs : List SV) (cap : Nat) (st : Int) (w : World) (h : 4096 < vs.length) (hm : vs.length ≤ 1048576) :
    Calls Tryd.prog 7 #[.slice p vs.length cap, .int .i64 st] w fun e w' => e = .returned (.tuple #[.int .i64 0, .int .i64 2]) ∧ w' = w := by
  go_enter Tryd.func7, Tryd.ntmps7
  go_wp2
  go_ret2
  exact ⟨rfl, rfl⟩
theorem CountStatus_many (p : Option Addr) (vs : List SV) (cap : Nat) (st : Int) (w : World) (h0 : ¬ 4096 < vs.length) (h : 500 < vs.length) :
    Calls Tryd.prog 7 #[.slice p vs.length cap, .int .i64 st] w fun e w' => e = .returned (.tuple #[.int .i64 0, .int .i64 4]) ∧ w' = w := by
  go_enter Tryd.func7, Tryd.ntmps7
  go_wp2
  go_ret2
  exact ⟨rfl, rfl⟩
theorem CountStatus_none (p : Option Addr) (vs : List SV) (cap : Nat) (st : Int) (w : World) (h0 : ¬ 4096 < vs.length) (h : ¬ 500 < vs.length) (hW : statW st = ⟨#[]⟩) :
    Calls Tryd.prog 7 #[.slice p vs.length cap, .int .i64 st] w fun e w' => e = .returned (.tuple #[.int .i64 0, .int .i64 4]) ∧ w' = w := by
  have H3 := hide fun w => StatusWord_any st w
  rw [hW] at H3
  clear hW
  go_enter Tryd.func7, Tryd.ntmps7
  go_wp2_with fail
  refine (unhide H3 _).mono ?_
  rintro e w1 ⟨rfl, rfl⟩
  go_wp2
  go_ret2
  exact ⟨rfl, rfl⟩
theorem count_any (s sub : ByteArray) (w : World) (hs : s.size ≤ 1000000) (h2 : 2 ≤ sub.size) (hM : MaxL w) :
    Calls Tryd.prog 18 #[.string s, .string sub] w fun e w' => e = .returned (.int .i64 (Lib.countB s sub)) ∧ w' = w := by
  obtain ⟨m, hm⟩ := hM
  exact Any.strings_Count Tryd.lays138 s sub m w (by omega) hm h2

set_option maxHeartbeats 4000000 in
theorem CountStatus_any (p : Option Addr) (vs : List SV) (cap : Nat) (st : Int) (w : World) (hrow : SentsAt w p vs) (hm : vs.length ≤ 1048576) (hsz : ∀ v ∈ vs, v.t.size ≤ maxLen) (hT : PowTabW w) (hM : MaxL w) :
    Calls Tryd.prog 7 #[.slice p vs.length cap, .int .i64 st] w fun e w' => e = .returned (.tuple #[.int .i64 (statR vs st).1, .int .i64 (statR vs st).2]) ∧ Below w.heap.size w w' := by
  by_cases hl : 4096 < vs.length
  · refine (CountStatus_long p vs cap st w hl hm).mono ?_
    rintro e w' ⟨rfl, rfl⟩
    exact ⟨ret_stat (statR_long hl), Below.refl _ _⟩
  by_cases h5 : 500 < vs.length
  · refine (CountStatus_many p vs cap st w hl h5).mono ?_
    rintro e w' ⟨rfl, rfl⟩
    exact ⟨ret_stat (statR_many hl h5), Below.refl _ _⟩
  by_cases hW : statW st = ⟨#[]⟩
  · refine (CountStatus_none p vs cap st w hl h5 hW).mono ?_
    rintro e w' ⟨rfl, rfl⟩
    exact ⟨ret_stat (statR_none hl hW), Below.refl _ _⟩
  have HR := hide hrow
  have HS := hide hsz
  have HT := hide hT
  have HM := hide hM
  clear hrow hsz hT hM
  obtain ⟨r, hr⟩ : ∃ r, r = statR vs st := ⟨_, rfl⟩
  rw [← hr]
  have HH := hide hr
  clear hr
  obtain ⟨r0, r1⟩ := statW_range hW
  have H3 := hide fun w => StatusWord_any st w
  have H4 := hide fun w => ItoaW_any st w (by omega) (by omega)
  have hl1 : ¬ (statW st).toList = [] := fun e => hW (qa_list (by rw [← ByteArray.toList_eq, e]))
  have hl2 : (statW st).toList.isEmpty = false := by simp [hl1]
  have hl3 : ((statW st).toList == []) = false := by simp [hl1]
  have hz := headS_size hW
  have hd : ({ data := #[72, 84, 84, 80, 47, 49, 46, 49, 32] } : ByteArray) ++ decS st ++ { data := #[32] } = headS st := rfl
  have hdz := decS_size st (by omega) (by omega)
  cases hq : vs.any bigS with
  | true =>
    have HZ := hide (statR_any (st := st) h5 hW hq)
    clear hW
    generalize statW st = W at H3 hl1 hl2 hl3
    go_enter Tryd.func7, Tryd.ntmps7
    go_wp2_with fail
    refine (unhide H3 _).mono ?_
    rintro e w1 ⟨rfl, rfl⟩
    go_wp2_with fail
    refine (containsMuch_any p vs cap _ (unhide HR) hm (unhide HS)).mono ?_
    rintro e w' ⟨rfl, hb⟩
    rw [hq]
    go_wp2
    go_ret2
    exact ⟨ret_stat ((unhide HH).trans (unhide HZ)), hb⟩
  | false =>
    have HB := hide hq
    have HOK := hide (statR_ok (st := st) (k := vs.length) h5 hW (Nat.le_refl _) (by rw [List.take_length]; exact hq))
    generalize decS st = ds at H4 hd hdz
    generalize headS st = h at hz HOK hd
    clear hW
    generalize statW st = W at H3 hl1 hl2 hl3
    go_enter Tryd.func7, Tryd.ntmps7
    go_wp2_with fail
    refine (unhide H3 _).mono ?_
    rintro e w1 ⟨rfl, rfl⟩
    go_wp2_with fail
    refine (containsMuch_any p vs cap _ (unhide HR) hm (unhide HS)).mono ?_
    rintro e w1 ⟨rfl, hb1⟩
    rw [hq]
    clear hq
    go_wp2_with fail
    refine (unhide H4 _ ((unhide HT).later hb1 (Nat.le_refl _))).mono ?_
    rintro e w2 ⟨rfl, hb2⟩
    have HR2 := hide (((unhide HR).later hb1).later hb2)
    have HM2 := hide (((unhide HM).later hb1).later hb2)
    clear HR HS HM HT
    go_wp2
    go_loopw [7, 9, 29] (fun n _ i wx => ∃ k : Nat, k ≤ vs.length ∧ i = .int .i64 k ∧ n = .int .i64 (totS h (vs.take k)) ∧ Below w2.heap.size w2 wx) (fun _ _ i _ => vs.length - (intOf i).toNat)
    case atStart => exact ⟨0, by omega, rfl, rfl, Below.refl _ _⟩
    case round =>
      obtain ⟨k, hk, rfl, rfl, hnx⟩ := hrel
      by_cases hlt : k < vs.length
      · obtain ⟨b, off, rfl, _, q0, q1, q2⟩ := (unhide HR2).later hnx k hlt
        have h4 : vs[k].t.size ≤ 4000 := by
          have := List.any_eq_false.1 (unhide HB) vs[k] (List.getElem_mem hlt)
          simp [bigS] at this
          omega
        have HY := hide (totS_take (h := h) hlt)
        have htl := totS_le (h := h) (vs := vs) k (by
          have := unhide HB
          rw [List.any_eq_false] at this ⊢
          intro x hx
          exact this x (List.mem_of_mem_take hx)) hk
        have hcl := countB_le vs[k].t h
        have HC := hide (fun wz hM => count_any vs[k].t h wz (by omega) hz.1 hM)
        generalize vs[k].c = vc at q0
        generalize vs[k].s = vb at q2
        generalize Lib.countB vs[k].t h = cn at HY hcl HC
        generalize vs[k].t = vt at q1 h4 HC hcl
        generalize totS h (vs.take k) = n0 at HY htl
        go_wp2_with fail
        refine (unhide HC _ (((unhide HM2).later hnx).al _)).mono ?_
        rintro e w' ⟨rfl, rfl⟩
        go_wp2
        go_roundw
        case rel => exact ⟨k + 1, by omega, by go_num, by rw [unhide HY]; go_num, qx_al hnx⟩
        case measure => simp [intOf]; omega
      · obtain rfl : k = vs.length := by omega
        have hzz := unhide HOK
        go_wp2
        go_ret2
        exact ⟨ret_stat ((unhide HH).trans hzz), qx_trans (qx_trans hb1 hb2) hnx⟩

set_option maxHeartbeats 2000000 in
theorem lawCountStatus_any (p : Option Addr) (vs : List SV) (cap : Nat) (st : Int) (w : World) (hrow : SentsAt w p vs) (hlen : vs.length ≤ maxLen) (hsz : ∀ v ∈ vs, v.t.size ≤ maxLen) (_wc : (Lit.int .i64 st).wf = true) (hT : PowTabW w) (hM : MaxL w) :
    Calls Tryd.prog 3 #[.slice p vs.length cap, .int .i64 st] w fun e w' => e = .returned (.bool true) ∧ Below w.heap.size w w' := by
  have HR := hide hrow
  have HS := hide hsz
  have HT := hide hT
  have HM := hide hM
  unfold maxLen at hlen
  clear hrow hsz hT hM
  obtain ⟨gt, gc, hg⟩ : ∃ gt gc, statR vs st = (gt, gc) := ⟨_, _, rfl⟩
  have HG := hide hg
  clear hg
  go_enter Tryd.func3, Tryd.ntmps3
  go_wp2_with fail
  refine (szSentS_any p vs cap _ (unhide HR) (by omega) (unhide HS)).mono ?_
  rintro e w1 ⟨r, rfl, hr, hb1⟩
  rcases hr with hr | ⟨hr, hlim⟩
  · go_wp2
    go_ret
    exact ⟨rfl, hb1⟩
  have hm : vs.length ≤ 1048576 := by omega
  clear hlim
  have hn : ¬ r < 0 := by omega
  have HR1 := hide ((unhide HR).later hb1)
  have HT1 := hide ((unhide HT).later hb1 (Nat.le_refl _))
  have HM1 := hide ((unhide HM).later hb1)
  clear HR HT HM
  go_wp2_with fail
  refine (toSentS_any p vs cap _ (unhide HR1) hm).mono ?_
  rintro e w2 ⟨rfl, ha2, hb2⟩
  have HA2 := hide ha2
  have HR2 := hide ((unhide HR1).later hb2)
  have HT2 := hide ((unhide HT1).later hb2 (Nat.le_refl _))
  have HM2 := hide ((unhide HM1).later hb2)
  clear ha2 HR1 HT1 HM1
  go_wp2_with fail
  refine (specCountStatus_any _ vs _ st _ (unhide HA2).sents hm).mono ?_
  rintro e w3 ⟨rfl, hb3⟩
  have HR3 := hide ((unhide HR2).later hb3)
  have HT3 := hide ((unhide HT2).later hb3 (Nat.le_refl _))
  have HM3 := hide ((unhide HM2).later hb3)
  clear HA2 HR2 HT2 HM2
  rw [unhide HG]
  go_wp2_with fail
  refine (toSentS_any p vs cap _ (unhide HR3) hm).mono ?_
  rintro e w4 ⟨rfl, ha4, hb4⟩
  have HA4 := hide ha4
  have HR4 := hide ((unhide HR3).later hb4)
  have HT4 := hide ((unhide HT3).later hb4 (Nat.le_refl _))
  have HM4 := hide ((unhide HM3).later hb4)
  clear ha4 HR3 HT3 HM3
  go_wp2_with fail
  refine (CountStatus_any _ vs _ st _ (unhide HA4).sents hm (unhide HS) (unhide HT4) (unhide HM4)).mono ?_
  rintro e w5 ⟨rfl, hb5⟩
  have HA5 := hide ((unhide HA4).later hb5)
  have HR5 := hide ((unhide HR4).later hb5)
  clear HA4 HR4
  rw [unhide HG]
  go_wp2_with fail
  refine (toSentS_any p vs cap _ (unhide HR5) hm).mono ?_
  rintro e w6 ⟨rfl, ha6, hb6⟩
  have HA6 := hide ha6
  have HA7 := hide ((unhide HA5).later hb6)
  clear ha6 HA5
  go_wp2_with fail
  refine (eqSentS_same _ _ vs _ _ _ hm (unhide HA7).sents (unhide HA6).sents).mono ?_
  rintro e w7 ⟨rfl, hb7⟩
  go_wp2
  go_ret
  exact ⟨rfl, qx_trans (qx_trans (qx_trans (qx_trans (qx_trans (qx_trans hb1 hb2) hb3) hb4) hb5) hb6) hb7⟩

end Go.Proofs.YtcihmcgiokcibaaDoor
