/- Operations with two operands: code and specification both answer 'binR'; the law. -/
import Derived.Test.YtpncohkbdaoceaaBinary2
import Derived.Test.YtpncohkbdaoceaaBinary3
import Derived.Deep.CutRange
namespace Go.Proofs.Ytpncohkbdaoceaa
open Go.RowKit
set_option linter.unusedVariables false

theorem toList_inj {a b : ByteArray} (h : a.toList = b.toList) : a = b := by
  rw [ByteArray.toList_eq, ByteArray.toList_eq] at h
  obtain ⟨⟨x⟩⟩ := a
  obtain ⟨⟨y⟩⟩ := b
  simp at h
  rw [h]
theorem vok_text {n : Int} {t : ByteArray} (h : vokB 3 n t = true) : t.size ≤ 60 := by simp [vokB] at h; exact h.2
theorem apart1 {a b : Nat} (h : a < b) : ¬ a = b ∧ ¬ b = a ∧ a < b := by omega
theorem apart2 {a b : Nat} (h : a + 1 < b) : ¬ a = b ∧ ¬ b = a ∧ ¬ a + 1 = b ∧ ¬ b = a + 1 ∧ a < b ∧ a + 1 < b := by omega
def isOp7 (l : List UInt8) : Prop := l = [61, 61] ∨ isOp l

theorem Binary_any (op : ByteArray) (ka na : Int) (ta : ByteArray) (kb nb : Int) (tb : ByteArray) (w : World) (hta : ta.size ≤ maxLen) (htb : tb.size ≤ maxLen) :
    Calls Try.prog 15 #[.string op, .agg #[.int .i64 ka, .int .i64 na, .string ta], .agg #[.int .i64 kb, .int .i64 nb, .string tb]] w fun e w' => e = .returned (.tuple #[.agg #[.int .i64 (binR op.toList ka na ta kb nb tb).k, .int .i64 (binR op.toList ka na ta kb nb tb).n, .string (binR op.toList ka na ta kb nb tb).t], .int .i64 (binR op.toList ka na ta kb nb tb).c]) ∧ Below w.heap.size w w' := by
  unfold binR
  rw [len_toList]
  by_cases ho : 65536 < op.size
  · rw [if_pos ho]; exact Binary_long op ka na ta kb nb tb w ho
  rw [if_neg ho]
  cases hva : vokB ka na ta
  · rw [if_pos rfl]; exact Binary_bada op ka na ta kb nb tb w (by omega) hta htb hva
  rw [if_neg (by simp)]
  cases hvb : vokB kb nb tb
  · rw [if_pos rfl]; exact Binary_badb op ka na ta kb nb tb w (by omega) hta htb hva hvb
  rw [if_neg (by simp)]
  by_cases he : op.toList = [61, 61]
  · rw [if_pos he]
    by_cases e1 : ka = kb
    · by_cases e2 : na = nb
      · by_cases e3 : ta.toList = tb.toList
        · obtain rfl := toList_inj e3
          subst e1 e2
          rw [show eqV ka na ta ka na ta = true by simp [eqV]]
          exact Binary_eq_yes op ka na ta w (by omega) hta hva he
        · rw [show eqV ka na ta kb nb tb = false by simp [eqV, e3]]
          exact Binary_eq_no2 op ka na ta kb nb tb w (by omega) hta htb hva hvb he e1 e2 (beq_eq_false_iff_ne.2 e3)
      · rw [show eqV ka na ta kb nb tb = false by simp [eqV, e2]]
        exact Binary_eq_no1 op ka na ta kb nb tb w (by omega) hta htb hva hvb he e1 (beq_eq_false_iff_ne.2 e2)
    · rw [show eqV ka na ta kb nb tb = false by simp [eqV, e1]]
      exact Binary_eq_no0 op ka na ta kb nb tb w (by omega) hta htb hva hvb he (beq_eq_false_iff_ne.2 e1)
  rw [if_neg he]
  by_cases hlt : op.toList = [60]
  · by_cases hk : ka = 3 ∧ kb = 3
    · obtain ⟨rfl, rfl⟩ := hk
      rw [if_pos ⟨by rw [hlt]; simp, rfl, rfl⟩]
      exact Binary_text_lt op na ta nb tb w (by omega) hta htb hva hvb (vok_text hva) (vok_text hvb) hlt
    rw [if_neg (fun x => hk x.2)]
    rw [if_pos (by rw [hlt]; simp)]
    by_cases ha : ka = 1
    · subst ha
      by_cases hb : kb = 1
      · subst hb
        rw [if_pos ⟨rfl, rfl⟩]
        exact Binary_int_lt op na ta nb tb w (by omega) hta htb hva hvb (hide (by unfold isOp; rw [hlt]; simp)) (vok_int hva).1 (vok_int hva).2 (vok_int hvb).1 (vok_int hvb).2 hlt
      · rw [if_neg (fun x => hb x.2)]
        exact Binary_type_lt_c op na ta kb nb tb w (by omega) hta htb hva hvb hlt (beq_eq_false_iff_ne.2 hb)
    rw [if_neg (fun x => ha x.1)]
    by_cases h3 : ka = 3
    · subst h3
      exact Binary_type_lt_b op na ta kb nb tb w (by omega) hta htb hva hvb hlt (beq_eq_false_iff_ne.2 (fun x => hk ⟨rfl, x⟩))
    · exact Binary_type_lt_a op ka na ta kb nb tb w (by omega) hta htb hva hvb hlt (beq_eq_false_iff_ne.2 ha) (beq_eq_false_iff_ne.2 h3)
  by_cases hadd : op.toList = [43]
  · by_cases hk : ka = 3 ∧ kb = 3
    · obtain ⟨rfl, rfl⟩ := hk
      rw [if_pos ⟨by rw [hadd]; simp, rfl, rfl⟩]
      exact Binary_text_add op na ta nb tb w (by omega) hta htb hva hvb (vok_text hva) (vok_text hvb) hadd
    rw [if_neg (fun x => hk x.2)]
    rw [if_pos (by rw [hadd]; simp)]
    by_cases ha : ka = 1
    · subst ha
      by_cases hb : kb = 1
      · subst hb
        rw [if_pos ⟨rfl, rfl⟩]
        exact Binary_int_add op na ta nb tb w (by omega) hta htb hva hvb (hide (by unfold isOp; rw [hadd]; simp)) (vok_int hva).1 (vok_int hva).2 (vok_int hvb).1 (vok_int hvb).2 hadd
      · rw [if_neg (fun x => hb x.2)]
        exact Binary_type_add_c op na ta kb nb tb w (by omega) hta htb hva hvb hadd (beq_eq_false_iff_ne.2 hb)
    rw [if_neg (fun x => ha x.1)]
    by_cases h3 : ka = 3
    · subst h3
      exact Binary_type_add_b op na ta kb nb tb w (by omega) hta htb hva hvb hadd (beq_eq_false_iff_ne.2 (fun x => hk ⟨rfl, x⟩))
    · exact Binary_type_add_a op ka na ta kb nb tb w (by omega) hta htb hva hvb hadd (beq_eq_false_iff_ne.2 ha) (beq_eq_false_iff_ne.2 h3)
  by_cases hsub : op.toList = [45]
  · rw [if_neg (by rw [hsub]; simp)]
    rw [if_pos (by rw [hsub]; simp)]
    by_cases ha : ka = 1
    · subst ha
      by_cases hb : kb = 1
      · subst hb
        rw [if_pos ⟨rfl, rfl⟩]
        exact Binary_int_sub op na ta nb tb w (by omega) hta htb hva hvb (hide (by unfold isOp; rw [hsub]; simp)) (vok_int hva).1 (vok_int hva).2 (vok_int hvb).1 (vok_int hvb).2 hsub
      · rw [if_neg (fun x => hb x.2)]
        exact Binary_type_sub_c op na ta kb nb tb w (by omega) hta htb hva hvb hsub (beq_eq_false_iff_ne.2 hb)
    rw [if_neg (fun x => ha x.1)]
    exact Binary_type_sub_a op ka na ta kb nb tb w (by omega) hta htb hva hvb hsub (beq_eq_false_iff_ne.2 ha)
  by_cases hmul : op.toList = [42]
  · rw [if_neg (by rw [hmul]; simp)]
    rw [if_pos (by rw [hmul]; simp)]
    by_cases ha : ka = 1
    · subst ha
      by_cases hb : kb = 1
      · subst hb
        rw [if_pos ⟨rfl, rfl⟩]
        exact Binary_int_mul op na ta nb tb w (by omega) hta htb hva hvb (hide (by unfold isOp; rw [hmul]; simp)) (vok_int hva).1 (vok_int hva).2 (vok_int hvb).1 (vok_int hvb).2 hmul
      · rw [if_neg (fun x => hb x.2)]
        exact Binary_type_mul_c op na ta kb nb tb w (by omega) hta htb hva hvb hmul (beq_eq_false_iff_ne.2 hb)
    rw [if_neg (fun x => ha x.1)]
    exact Binary_type_mul_a op ka na ta kb nb tb w (by omega) hta htb hva hvb hmul (beq_eq_false_iff_ne.2 ha)
  by_cases hquo : op.toList = [47]
  · rw [if_neg (by rw [hquo]; simp)]
    rw [if_pos (by rw [hquo]; simp)]
    by_cases ha : ka = 1
    · subst ha
      by_cases hb : kb = 1
      · subst hb
        rw [if_pos ⟨rfl, rfl⟩]
        exact Binary_int_quo op na ta nb tb w (by omega) hta htb hva hvb (hide (by unfold isOp; rw [hquo]; simp)) (vok_int hva).1 (vok_int hva).2 (vok_int hvb).1 (vok_int hvb).2 hquo
      · rw [if_neg (fun x => hb x.2)]
        exact Binary_type_quo_c op na ta kb nb tb w (by omega) hta htb hva hvb hquo (beq_eq_false_iff_ne.2 hb)
    rw [if_neg (fun x => ha x.1)]
    exact Binary_type_quo_a op ka na ta kb nb tb w (by omega) hta htb hva hvb hquo (beq_eq_false_iff_ne.2 ha)
  by_cases hrem : op.toList = [37]
  · rw [if_neg (by rw [hrem]; simp)]
    rw [if_pos (by rw [hrem]; simp)]
    by_cases ha : ka = 1
    · subst ha
      by_cases hb : kb = 1
      · subst hb
        rw [if_pos ⟨rfl, rfl⟩]
        exact Binary_int_rem op na ta nb tb w (by omega) hta htb hva hvb (hide (by unfold isOp; rw [hrem]; simp)) (vok_int hva).1 (vok_int hva).2 (vok_int hvb).1 (vok_int hvb).2 hrem
      · rw [if_neg (fun x => hb x.2)]
        exact Binary_type_rem_c op na ta kb nb tb w (by omega) hta htb hva hvb hrem (beq_eq_false_iff_ne.2 hb)
    rw [if_neg (fun x => ha x.1)]
    exact Binary_type_rem_a op ka na ta kb nb tb w (by omega) hta htb hva hvb hrem (beq_eq_false_iff_ne.2 ha)
  rw [if_neg (by simp [hlt, hadd]), if_neg (by simp [hlt, hadd, hsub, hmul, hquo, hrem])]
  exact Binary_form op ka na ta kb nb tb w (by omega) hta htb hva hvb (beq_eq_false_iff_ne.2 he) (beq_eq_false_iff_ne.2 hlt) (beq_eq_false_iff_ne.2 hadd) (beq_eq_false_iff_ne.2 hsub) (beq_eq_false_iff_ne.2 hmul) (beq_eq_false_iff_ne.2 hquo) (beq_eq_false_iff_ne.2 hrem)

theorem l01Binary_text (op : ByteArray) (na : Int) (ta : ByteArray) (nb : Int) (tb : ByteArray) (w : World) (ha : ta.size ≤ 60) (hb : tb.size ≤ 60) (hop : op.toList = [60] ∨ op.toList = [43]) :
    Calls Try.prog 43 #[.string op, .agg #[.int .i64 3, .int .i64 na, .string ta], .agg #[.int .i64 3, .int .i64 nb, .string tb]] w fun e w' => e = .returned (.tuple #[.agg #[.int .i64 (textsR op.toList ta tb).k, .int .i64 (textsR op.toList ta tb).n, .string (textsR op.toList ta tb).t], .int .i64 (textsR op.toList ta tb).c]) ∧ Below w.heap.size w w' := by
  unfold textsR
  rcases hop with h | h
  · rw [if_pos h]; exact l01Binary_text_lt op na ta nb tb w h
  rw [if_neg (by rw [h]; decide)]
  by_cases h1 : 60 < ta.size + tb.size
  · rw [if_pos h1]; exact l01Binary_text_size op na ta nb tb w h ha hb h1
  · rw [if_neg h1]; exact l01Binary_text_cat op na ta nb tb w h (by omega)

theorem l01Binary_int (op : ByteArray) (a : Int) (ta : ByteArray) (b : Int) (tb : ByteArray) (w : World) (hop : isOp op.toList) (ha1 : -2147483648 ≤ a) (ha2 : a ≤ 2147483647) (hb1 : -2147483648 ≤ b) (hb2 : b ≤ 2147483647) :
    Calls Try.prog 43 #[.string op, .agg #[.int .i64 1, .int .i64 a, .string ta], .agg #[.int .i64 1, .int .i64 b, .string tb]] w fun e w' => e = .returned (.tuple #[.agg #[.int .i64 (intsR op.toList a b).k, .int .i64 (intsR op.toList a b).n, .string (intsR op.toList a b).t], .int .i64 (intsR op.toList a b).c]) ∧ Below w.heap.size w w' := by
  have hm := mul_lo a b ha1 ha2 hb1 hb2
  unfold intsR
  rcases hop with h | h | h | h | h | h
  · rw [if_pos h]; exact l01Binary_int_lt op a ta b tb w h
  · rw [if_neg (by rw [h]; decide), if_pos h]; exact l01Binary_int_add op a ta b tb w h ha1 ha2 hb1 hb2
  · rw [if_neg (by rw [h]; decide), if_neg (by rw [h]; decide), if_pos h]; exact l01Binary_int_sub op a ta b tb w h ha1 ha2 hb1 hb2
  · rw [if_neg (by rw [h]; decide), if_neg (by rw [h]; decide), if_neg (by rw [h]; decide), if_pos h]; exact l01Binary_int_mul op a ta b tb w h ha1 ha2 hb1 hb2 hm.1 hm.2
  · rw [if_neg (by rw [h]; decide), if_neg (by rw [h]; decide), if_neg (by rw [h]; decide), if_neg (by rw [h]; decide)]
    by_cases h0 : b = 0
    · subst h0; rw [if_pos rfl]; exact l01Binary_int_quo0 op a ta tb w h
    rw [if_neg h0, if_neg (by rw [h]; decide)]
    by_cases hz : a.tmod b = 0
    · rw [if_pos hz]; exact l01Binary_int_quo op a ta b tb w h (beq_eq_false_iff_ne.2 h0) h0 (by rw [hz]; rfl) ha1 ha2 hb1 hb2
    · rw [if_neg hz]; exact l01Binary_int_part op a ta b tb w h (beq_eq_false_iff_ne.2 h0) h0 (by rw [bne_iff_ne]; exact hz) ha1 ha2 hb1 hb2
  · rw [if_neg (by rw [h]; decide), if_neg (by rw [h]; decide), if_neg (by rw [h]; decide), if_neg (by rw [h]; decide)]
    by_cases h0 : b = 0
    · subst h0; rw [if_pos rfl]; exact l01Binary_int_rem0 op a ta tb w h
    have hb := tmod_bd a b ha1 ha2
    rw [if_neg h0, if_pos h, show fitR (a.tmod b) = intR (a.tmod b) from if_pos hb]
    exact l01Binary_int_rem op a ta b tb w h (beq_eq_false_iff_ne.2 h0) h0 ha1 ha2 hb1 hb2

theorem l01Binary_any (op : ByteArray) (ka na : Int) (ta : ByteArray) (kb nb : Int) (tb : ByteArray) (w : World) (ho : ¬ 65536 < op.size) (hva : vokB ka na ta = true) (hvb : vokB kb nb tb = true) (hop : isOp7 op.toList) :
    Calls Try.prog 43 #[.string op, .agg #[.int .i64 ka, .int .i64 na, .string ta], .agg #[.int .i64 kb, .int .i64 nb, .string tb]] w fun e w' => e = .returned (.tuple #[.agg #[.int .i64 (binR op.toList ka na ta kb nb tb).k, .int .i64 (binR op.toList ka na ta kb nb tb).n, .string (binR op.toList ka na ta kb nb tb).t], .int .i64 (binR op.toList ka na ta kb nb tb).c]) ∧ Below w.heap.size w w' := by
  unfold binR
  rw [len_toList, if_neg ho, if_neg (by simp [hva]), if_neg (by simp [hvb])]
  by_cases he : op.toList = [61, 61]
  · rw [if_pos he]
    by_cases e1 : ka = kb
    · by_cases e2 : na = nb
      · by_cases e3 : ta.toList = tb.toList
        · obtain rfl := toList_inj e3
          subst e1 e2
          rw [show eqV ka na ta ka na ta = true by simp [eqV]]
          exact l01Binary_eq_yes op ka na ta w he
        · rw [show eqV ka na ta kb nb tb = false by simp [eqV, e3]]
          exact l01Binary_eq_no2 op ka na ta kb nb tb w he e1 e2 (beq_eq_false_iff_ne.2 e3)
      · rw [show eqV ka na ta kb nb tb = false by simp [eqV, e2]]
        exact l01Binary_eq_no1 op ka na ta kb nb tb w he e1 (beq_eq_false_iff_ne.2 e2)
    · rw [show eqV ka na ta kb nb tb = false by simp [eqV, e1]]
      exact l01Binary_eq_no0 op ka na ta kb nb tb w he (beq_eq_false_iff_ne.2 e1)
  rw [if_neg he]
  by_cases hlt : op.toList = [60]
  · by_cases hk : ka = 3 ∧ kb = 3
    · obtain ⟨rfl, rfl⟩ := hk
      rw [if_pos ⟨by rw [hlt]; simp, rfl, rfl⟩]
      exact l01Binary_text op na ta nb tb w (vok_text hva) (vok_text hvb) (by rw [hlt]; simp)
    rw [if_neg (fun x => hk x.2)]
    rw [if_pos (by rw [hlt]; simp)]
    by_cases ha : ka = 1
    · subst ha
      by_cases hb : kb = 1
      · subst hb
        rw [if_pos ⟨rfl, rfl⟩]
        exact l01Binary_int op na ta nb tb w (by unfold isOp; rw [hlt]; simp) (vok_int hva).1 (vok_int hva).2 (vok_int hvb).1 (vok_int hvb).2
      · rw [if_neg (fun x => hb x.2)]
        exact l01Binary_type_lt_c op na ta kb nb tb w hlt (beq_eq_false_iff_ne.2 hb)
    rw [if_neg (fun x => ha x.1)]
    by_cases h3 : ka = 3
    · subst h3
      exact l01Binary_type_lt_b op na ta kb nb tb w hlt (beq_eq_false_iff_ne.2 (fun x => hk ⟨rfl, x⟩))
    · exact l01Binary_type_lt_a op ka na ta kb nb tb w hlt (beq_eq_false_iff_ne.2 ha) (beq_eq_false_iff_ne.2 h3)
  by_cases hadd : op.toList = [43]
  · by_cases hk : ka = 3 ∧ kb = 3
    · obtain ⟨rfl, rfl⟩ := hk
      rw [if_pos ⟨by rw [hadd]; simp, rfl, rfl⟩]
      exact l01Binary_text op na ta nb tb w (vok_text hva) (vok_text hvb) (by rw [hadd]; simp)
    rw [if_neg (fun x => hk x.2)]
    rw [if_pos (by rw [hadd]; simp)]
    by_cases ha : ka = 1
    · subst ha
      by_cases hb : kb = 1
      · subst hb
        rw [if_pos ⟨rfl, rfl⟩]
        exact l01Binary_int op na ta nb tb w (by unfold isOp; rw [hadd]; simp) (vok_int hva).1 (vok_int hva).2 (vok_int hvb).1 (vok_int hvb).2
      · rw [if_neg (fun x => hb x.2)]
        exact l01Binary_type_add_c op na ta kb nb tb w hadd (beq_eq_false_iff_ne.2 hb)
    rw [if_neg (fun x => ha x.1)]
    by_cases h3 : ka = 3
    · subst h3
      exact l01Binary_type_add_b op na ta kb nb tb w hadd (beq_eq_false_iff_ne.2 (fun x => hk ⟨rfl, x⟩))
    · exact l01Binary_type_add_a op ka na ta kb nb tb w hadd (beq_eq_false_iff_ne.2 ha) (beq_eq_false_iff_ne.2 h3)
  by_cases hsub : op.toList = [45]
  · rw [if_neg (by rw [hsub]; simp)]
    rw [if_pos (by rw [hsub]; simp)]
    by_cases ha : ka = 1
    · subst ha
      by_cases hb : kb = 1
      · subst hb
        rw [if_pos ⟨rfl, rfl⟩]
        exact l01Binary_int op na ta nb tb w (by unfold isOp; rw [hsub]; simp) (vok_int hva).1 (vok_int hva).2 (vok_int hvb).1 (vok_int hvb).2
      · rw [if_neg (fun x => hb x.2)]
        exact l01Binary_type_sub_c op na ta kb nb tb w hsub (beq_eq_false_iff_ne.2 hb)
    rw [if_neg (fun x => ha x.1)]
    by_cases h3 : ka = 3
    · subst h3
      exact l01Binary_type_sub_b op na ta kb nb tb w hsub
    · exact l01Binary_type_sub_a op ka na ta kb nb tb w hsub (beq_eq_false_iff_ne.2 ha) (beq_eq_false_iff_ne.2 h3)
  by_cases hmul : op.toList = [42]
  · rw [if_neg (by rw [hmul]; simp)]
    rw [if_pos (by rw [hmul]; simp)]
    by_cases ha : ka = 1
    · subst ha
      by_cases hb : kb = 1
      · subst hb
        rw [if_pos ⟨rfl, rfl⟩]
        exact l01Binary_int op na ta nb tb w (by unfold isOp; rw [hmul]; simp) (vok_int hva).1 (vok_int hva).2 (vok_int hvb).1 (vok_int hvb).2
      · rw [if_neg (fun x => hb x.2)]
        exact l01Binary_type_mul_c op na ta kb nb tb w hmul (beq_eq_false_iff_ne.2 hb)
    rw [if_neg (fun x => ha x.1)]
    by_cases h3 : ka = 3
    · subst h3
      exact l01Binary_type_mul_b op na ta kb nb tb w hmul
    · exact l01Binary_type_mul_a op ka na ta kb nb tb w hmul (beq_eq_false_iff_ne.2 ha) (beq_eq_false_iff_ne.2 h3)
  by_cases hquo : op.toList = [47]
  · rw [if_neg (by rw [hquo]; simp)]
    rw [if_pos (by rw [hquo]; simp)]
    by_cases ha : ka = 1
    · subst ha
      by_cases hb : kb = 1
      · subst hb
        rw [if_pos ⟨rfl, rfl⟩]
        exact l01Binary_int op na ta nb tb w (by unfold isOp; rw [hquo]; simp) (vok_int hva).1 (vok_int hva).2 (vok_int hvb).1 (vok_int hvb).2
      · rw [if_neg (fun x => hb x.2)]
        exact l01Binary_type_quo_c op na ta kb nb tb w hquo (beq_eq_false_iff_ne.2 hb)
    rw [if_neg (fun x => ha x.1)]
    by_cases h3 : ka = 3
    · subst h3
      exact l01Binary_type_quo_b op na ta kb nb tb w hquo
    · exact l01Binary_type_quo_a op ka na ta kb nb tb w hquo (beq_eq_false_iff_ne.2 ha) (beq_eq_false_iff_ne.2 h3)
  by_cases hrem : op.toList = [37]
  · rw [if_neg (by rw [hrem]; simp)]
    rw [if_pos (by rw [hrem]; simp)]
    by_cases ha : ka = 1
    · subst ha
      by_cases hb : kb = 1
      · subst hb
        rw [if_pos ⟨rfl, rfl⟩]
        exact l01Binary_int op na ta nb tb w (by unfold isOp; rw [hrem]; simp) (vok_int hva).1 (vok_int hva).2 (vok_int hvb).1 (vok_int hvb).2
      · rw [if_neg (fun x => hb x.2)]
        exact l01Binary_type_rem_c op na ta kb nb tb w hrem (beq_eq_false_iff_ne.2 hb)
    rw [if_neg (fun x => ha x.1)]
    by_cases h3 : ka = 3
    · subst h3
      exact l01Binary_type_rem_b op na ta kb nb tb w hrem
    · exact l01Binary_type_rem_a op ka na ta kb nb tb w hrem (beq_eq_false_iff_ne.2 ha) (beq_eq_false_iff_ne.2 h3)
  rw [if_neg (by simp [hlt, hadd]), if_neg (by simp [hlt, hadd, hsub, hmul, hquo, hrem])]
  exact absurd hop (by unfold isOp7 isOp; simp [he, hlt, hadd, hsub, hmul, hquo, hrem])

theorem l01Op_add (op : ByteArray) (w : World) (h : op.toList = [43]) :
    Calls Try.prog 42 #[.string op] w fun e w' => e = .returned (.bool true) ∧ w' = w := by
  go_enter Try.func42, Try.ntmps42
  go_wp2
  go_ret
  exact ⟨rfl, rfl⟩

theorem l01Op_sub (op : ByteArray) (w : World) (h : op.toList = [45]) :
    Calls Try.prog 42 #[.string op] w fun e w' => e = .returned (.bool true) ∧ w' = w := by
  go_enter Try.func42, Try.ntmps42
  go_wp2
  go_ret
  exact ⟨rfl, rfl⟩

theorem l01Op_mul (op : ByteArray) (w : World) (h : op.toList = [42]) :
    Calls Try.prog 42 #[.string op] w fun e w' => e = .returned (.bool true) ∧ w' = w := by
  go_enter Try.func42, Try.ntmps42
  go_wp2
  go_ret
  exact ⟨rfl, rfl⟩

theorem l01Op_quo (op : ByteArray) (w : World) (h : op.toList = [47]) :
    Calls Try.prog 42 #[.string op] w fun e w' => e = .returned (.bool true) ∧ w' = w := by
  go_enter Try.func42, Try.ntmps42
  go_wp2
  go_ret
  exact ⟨rfl, rfl⟩

theorem l01Op_rem (op : ByteArray) (w : World) (h : op.toList = [37]) :
    Calls Try.prog 42 #[.string op] w fun e w' => e = .returned (.bool true) ∧ w' = w := by
  go_enter Try.func42, Try.ntmps42
  go_wp2
  go_ret
  exact ⟨rfl, rfl⟩

theorem l01Op_lt (op : ByteArray) (w : World) (h : op.toList = [60]) :
    Calls Try.prog 42 #[.string op] w fun e w' => e = .returned (.bool true) ∧ w' = w := by
  go_enter Try.func42, Try.ntmps42
  go_wp2
  go_ret
  exact ⟨rfl, rfl⟩

theorem l01Op_eq (op : ByteArray) (w : World) (h : op.toList = [61, 61]) :
    Calls Try.prog 42 #[.string op] w fun e w' => e = .returned (.bool true) ∧ w' = w := by
  go_enter Try.func42, Try.ntmps42
  go_wp2
  go_ret
  exact ⟨rfl, rfl⟩

theorem l01Op_none (op : ByteArray) (w : World) (hadd : (op.toList == [43]) = false) (hsub : (op.toList == [45]) = false) (hmul : (op.toList == [42]) = false) (hquo : (op.toList == [47]) = false) (hrem : (op.toList == [37]) = false) (hlt : (op.toList == [60]) = false) (heq : (op.toList == [61, 61]) = false) :
    Calls Try.prog 42 #[.string op] w fun e w' => e = .returned (.bool false) ∧ w' = w := by
  go_enter Try.func42, Try.ntmps42
  go_wp2
  go_ret
  exact ⟨rfl, rfl⟩

theorem l01Op_yes (op : ByteArray) (w : World) (h : isOp7 op.toList) :
    Calls Try.prog 42 #[.string op] w fun e w' => e = .returned (.bool true) ∧ w' = w := by
  rcases h with h | h | h | h | h | h | h
  · exact l01Op_eq op w h
  · exact l01Op_lt op w h
  · exact l01Op_add op w h
  · exact l01Op_sub op w h
  · exact l01Op_mul op w h
  · exact l01Op_quo op w h
  · exact l01Op_rem op w h
theorem l01Op_no (op : ByteArray) (w : World) (h : ¬ isOp7 op.toList) :
    Calls Try.prog 42 #[.string op] w fun e w' => e = .returned (.bool false) ∧ w' = w := by
  simp [isOp7, isOp] at h
  obtain ⟨h0, h1, h2, h3, h4, h5, h6⟩ := h
  exact l01Op_none op w (beq_eq_false_iff_ne.2 h2) (beq_eq_false_iff_ne.2 h3) (beq_eq_false_iff_ne.2 h4) (beq_eq_false_iff_ne.2 h5) (beq_eq_false_iff_ne.2 h6) (beq_eq_false_iff_ne.2 h1) (beq_eq_false_iff_ne.2 h0)

set_option maxHeartbeats 400000 in
theorem specBinary_long (op : ByteArray) (ka na : Int) (ta : ByteArray) (kb nb : Int) (tb : ByteArray) (w : World) (h : 65536 < op.size) :
    Calls Try.prog 16 #[.string op, .agg #[.int .i64 ka, .int .i64 na, .string ta], .agg #[.int .i64 kb, .int .i64 nb, .string tb]] w fun e w' => e = .returned (.tuple #[.agg #[.int .i64 0, .int .i64 0, .string ⟨#[]⟩], .int .i64 2]) ∧ Below w.heap.size w w' := by
  go_enter Try.func16, Try.ntmps16
  go_wp2
  exact bodyPost_ret (v := (.tuple #[.agg #[.int .i64 0, .int .i64 0, .string ⟨#[]⟩], .int .i64 2])) (by simp [results, Try.results16, go_sem]) rfl ⟨rfl, (by repeat (first | exact Below.refl _ _ | refine nx_al ?_ | refine nx_set ?_ (by first | omega | (simp <;> omega)) | refine nx_drew ?_ | refine nx_trans ?_ (by assumption)))⟩

set_option maxHeartbeats 400000 in
theorem specBinary_bada (op : ByteArray) (ka na : Int) (ta : ByteArray) (kb nb : Int) (tb : ByteArray) (w : World) (ho : op.size ≤ 65536) (hta : ta.size ≤ maxLen) (htb : tb.size ≤ maxLen) (hva : vokB ka na ta = false) :
    Calls Try.prog 16 #[.string op, .agg #[.int .i64 ka, .int .i64 na, .string ta], .agg #[.int .i64 kb, .int .i64 nb, .string tb]] w fun e w' => e = .returned (.tuple #[.agg #[.int .i64 0, .int .i64 0, .string ⟨#[]⟩], .int .i64 1]) ∧ Below w.heap.size w w' := by
  go_enter Try.func16, Try.ntmps16
  go_wp2_with fail
  refine (specValueOK_any ka na ta _ hta).mono ?_
  rintro e w1 ⟨rfl, hb1⟩
  obtain ⟨hc1, hf1⟩ := bcell hb1
  have hz1_0 : w.heap.size < w1.heap.size := by have := hb1.size; first | omega | (simp at this; omega)
  have hz1_1 : w.heap.size + 1 < w1.heap.size := by have := hb1.size; first | omega | (simp at this; omega)
  have hz1_2 : w.heap.size + 2 < w1.heap.size := by have := hb1.size; first | omega | (simp at this; omega)
  go_wp2
  exact bodyPost_ret (v := (.tuple #[.agg #[.int .i64 0, .int .i64 0, .string ⟨#[]⟩], .int .i64 1])) (by simp [results, Try.results16, go_sem, *]) rfl ⟨rfl, (by repeat (first | exact Below.refl _ _ | refine nx_al ?_ | refine nx_set ?_ (by first | omega | (simp <;> omega)) | refine nx_drew ?_ | refine nx_trans ?_ (by assumption)))⟩

set_option maxHeartbeats 400000 in
theorem specBinary_badb (op : ByteArray) (ka na : Int) (ta : ByteArray) (kb nb : Int) (tb : ByteArray) (w : World) (ho : op.size ≤ 65536) (hta : ta.size ≤ maxLen) (htb : tb.size ≤ maxLen) (hva : vokB ka na ta = true) (hvb : vokB kb nb tb = false) :
    Calls Try.prog 16 #[.string op, .agg #[.int .i64 ka, .int .i64 na, .string ta], .agg #[.int .i64 kb, .int .i64 nb, .string tb]] w fun e w' => e = .returned (.tuple #[.agg #[.int .i64 0, .int .i64 0, .string ⟨#[]⟩], .int .i64 1]) ∧ Below w.heap.size w w' := by
  go_enter Try.func16, Try.ntmps16
  go_wp2_with fail
  refine (specValueOK_any ka na ta _ hta).mono ?_
  rintro e w1 ⟨rfl, hb1⟩
  obtain ⟨hc1, hf1⟩ := bcell hb1
  have hz1_0 : w.heap.size < w1.heap.size := by have := hb1.size; first | omega | (simp at this; omega)
  have hz1_1 : w.heap.size + 1 < w1.heap.size := by have := hb1.size; first | omega | (simp at this; omega)
  have hz1_2 : w.heap.size + 2 < w1.heap.size := by have := hb1.size; first | omega | (simp at this; omega)
  go_wp2_with fail
  refine (specValueOK_any kb nb tb _ htb).mono ?_
  rintro e w2 ⟨rfl, hb2⟩
  obtain ⟨hc2, hf2⟩ := bcell hb2
  have hz2_0 : w.heap.size < w2.heap.size := by have := hb2.size; first | omega | (simp at this; omega)
  have hz2_1 : w.heap.size + 1 < w2.heap.size := by have := hb2.size; first | omega | (simp at this; omega)
  have hz2_2 : w.heap.size + 2 < w2.heap.size := by have := hb2.size; first | omega | (simp at this; omega)
  go_wp2
  exact bodyPost_ret (v := (.tuple #[.agg #[.int .i64 0, .int .i64 0, .string ⟨#[]⟩], .int .i64 1])) (by simp [results, Try.results16, go_sem, *]) rfl ⟨rfl, (by repeat (first | exact Below.refl _ _ | refine nx_al ?_ | refine nx_set ?_ (by first | omega | (simp <;> omega)) | refine nx_drew ?_ | refine nx_trans ?_ (by assumption)))⟩

set_option maxHeartbeats 400000 in
theorem specBinary_form (op : ByteArray) (ka na : Int) (ta : ByteArray) (kb nb : Int) (tb : ByteArray) (w : World) (ho : op.size ≤ 65536) (hta : ta.size ≤ maxLen) (htb : tb.size ≤ maxLen) (hva : vokB ka na ta = true) (hvb : vokB kb nb tb = true) (hop : Hid (¬ isOp7 op.toList)) :
    Calls Try.prog 16 #[.string op, .agg #[.int .i64 ka, .int .i64 na, .string ta], .agg #[.int .i64 kb, .int .i64 nb, .string tb]] w fun e w' => e = .returned (.tuple #[.agg #[.int .i64 0, .int .i64 0, .string ⟨#[]⟩], .int .i64 3]) ∧ Below w.heap.size w w' := by
  go_enter Try.func16, Try.ntmps16
  go_wp2_with fail
  refine (specValueOK_any ka na ta _ hta).mono ?_
  rintro e w1 ⟨rfl, hb1⟩
  obtain ⟨hc1, hf1⟩ := bcell hb1
  have hz1_0 : w.heap.size < w1.heap.size := by have := hb1.size; first | omega | (simp at this; omega)
  have hz1_1 : w.heap.size + 1 < w1.heap.size := by have := hb1.size; first | omega | (simp at this; omega)
  have hz1_2 : w.heap.size + 2 < w1.heap.size := by have := hb1.size; first | omega | (simp at this; omega)
  go_wp2_with fail
  refine (specValueOK_any kb nb tb _ htb).mono ?_
  rintro e w2 ⟨rfl, hb2⟩
  obtain ⟨hc2, hf2⟩ := bcell hb2
  have hz2_0 : w.heap.size < w2.heap.size := by have := hb2.size; first | omega | (simp at this; omega)
  have hz2_1 : w.heap.size + 1 < w2.heap.size := by have := hb2.size; first | omega | (simp at this; omega)
  have hz2_2 : w.heap.size + 2 < w2.heap.size := by have := hb2.size; first | omega | (simp at this; omega)
  go_wp2_with fail
  refine (l01Op_no op _ (unhide hop)).mono ?_
  rintro e w' ⟨rfl, rfl⟩
  go_wp2
  exact bodyPost_ret (v := (.tuple #[.agg #[.int .i64 0, .int .i64 0, .string ⟨#[]⟩], .int .i64 3])) (by simp [results, Try.results16, go_sem, *]) rfl ⟨rfl, (by repeat (first | exact Below.refl _ _ | refine nx_al ?_ | refine nx_set ?_ (by first | omega | (simp <;> omega)) | refine nx_drew ?_ | refine nx_trans ?_ (by assumption)))⟩

set_option maxHeartbeats 400000 in
theorem specBinary_core (op : ByteArray) (ka na : Int) (ta : ByteArray) (kb nb : Int) (tb : ByteArray) (w : World) (r : Res) (ho : op.size ≤ 65536) (hta : ta.size ≤ maxLen) (htb : tb.size ≤ maxLen) (hva : vokB ka na ta = true) (hvb : vokB kb nb tb = true) (hop : Hid (isOp7 op.toList)) (hr : Hid (∀ w, Calls Try.prog 43 #[.string op, .agg #[.int .i64 ka, .int .i64 na, .string ta], .agg #[.int .i64 kb, .int .i64 nb, .string tb]] w fun e w' => e = .returned (.tuple #[.agg #[.int .i64 (r).k, .int .i64 (r).n, .string (r).t], .int .i64 (r).c]) ∧ Below w.heap.size w w')) :
    Calls Try.prog 16 #[.string op, .agg #[.int .i64 ka, .int .i64 na, .string ta], .agg #[.int .i64 kb, .int .i64 nb, .string tb]] w fun e w' => e = .returned (.tuple #[.agg #[.int .i64 (r).k, .int .i64 (r).n, .string (r).t], .int .i64 (r).c]) ∧ Below w.heap.size w w' := by
  go_enter Try.func16, Try.ntmps16
  go_wp2_with fail
  refine (specValueOK_any ka na ta _ hta).mono ?_
  rintro e w1 ⟨rfl, hb1⟩
  obtain ⟨hc1, hf1⟩ := bcell hb1
  have hz1_0 : w.heap.size < w1.heap.size := by have := hb1.size; first | omega | (simp at this; omega)
  have hz1_1 : w.heap.size + 1 < w1.heap.size := by have := hb1.size; first | omega | (simp at this; omega)
  have hz1_2 : w.heap.size + 2 < w1.heap.size := by have := hb1.size; first | omega | (simp at this; omega)
  go_wp2_with fail
  refine (specValueOK_any kb nb tb _ htb).mono ?_
  rintro e w2 ⟨rfl, hb2⟩
  obtain ⟨hc2, hf2⟩ := bcell hb2
  have hz2_0 : w.heap.size < w2.heap.size := by have := hb2.size; first | omega | (simp at this; omega)
  have hz2_1 : w.heap.size + 1 < w2.heap.size := by have := hb2.size; first | omega | (simp at this; omega)
  have hz2_2 : w.heap.size + 2 < w2.heap.size := by have := hb2.size; first | omega | (simp at this; omega)
  go_wp2_with fail
  refine (l01Op_yes op _ (unhide hop)).mono ?_
  rintro e w' ⟨rfl, rfl⟩
  go_wp2_with fail
  refine (unhide hr _).mono ?_
  rintro e w3 ⟨rfl, hb3⟩
  obtain ⟨hc3, hf3⟩ := bcell hb3
  have hz3_0 : w.heap.size < w3.heap.size := by have := hb3.size; first | omega | (simp at this; omega)
  have hz3_1 : w.heap.size + 1 < w3.heap.size := by have := hb3.size; first | omega | (simp at this; omega)
  have hz3_2 : w.heap.size + 2 < w3.heap.size := by have := hb3.size; first | omega | (simp at this; omega)
  go_wp2
  exact bodyPost_ret (v := (.tuple #[.agg #[.int .i64 (r).k, .int .i64 (r).n, .string (r).t], .int .i64 (r).c])) (by simp [results, Try.results16, go_sem, *]) rfl ⟨rfl, (by repeat (first | exact Below.refl _ _ | refine nx_al ?_ | refine nx_set ?_ (by first | omega | (simp <;> omega)) | refine nx_drew ?_ | refine nx_trans ?_ (by assumption)))⟩

theorem specBinary_any (op : ByteArray) (ka na : Int) (ta : ByteArray) (kb nb : Int) (tb : ByteArray) (w : World) (hta : ta.size ≤ maxLen) (htb : tb.size ≤ maxLen) :
    Calls Try.prog 16 #[.string op, .agg #[.int .i64 ka, .int .i64 na, .string ta], .agg #[.int .i64 kb, .int .i64 nb, .string tb]] w fun e w' => e = .returned (.tuple #[.agg #[.int .i64 (binR op.toList ka na ta kb nb tb).k, .int .i64 (binR op.toList ka na ta kb nb tb).n, .string (binR op.toList ka na ta kb nb tb).t], .int .i64 (binR op.toList ka na ta kb nb tb).c]) ∧ Below w.heap.size w w' := by
  by_cases ho : 65536 < op.size
  · rw [show binR op.toList ka na ta kb nb tb = zeroR 2 by unfold binR; rw [len_toList, if_pos ho]]
    exact specBinary_long op ka na ta kb nb tb w ho
  cases hva : vokB ka na ta
  · rw [show binR op.toList ka na ta kb nb tb = zeroR 1 by unfold binR; rw [len_toList, if_neg ho, if_pos hva]]
    exact specBinary_bada op ka na ta kb nb tb w (by omega) hta htb hva
  cases hvb : vokB kb nb tb
  · rw [show binR op.toList ka na ta kb nb tb = zeroR 1 by unfold binR; rw [len_toList, if_neg ho, if_neg (by simp [hva]), if_pos hvb]]
    exact specBinary_badb op ka na ta kb nb tb w (by omega) hta htb hva hvb
  by_cases hop : isOp7 op.toList
  · exact specBinary_core op ka na ta kb nb tb w _ (by omega) hta htb hva hvb (hide hop) (hide fun w => l01Binary_any op ka na ta kb nb tb w ho hva hvb hop)
  · rw [show binR op.toList ka na ta kb nb tb = zeroR 3 by
      unfold binR
      rw [len_toList, if_neg ho, if_neg (by simp [hva]), if_neg (by simp [hvb])]
      simp [isOp7, isOp] at hop
      simp [hop]]
    exact specBinary_form op ka na ta kb nb tb w (by omega) hta htb hva hvb (hide hop)

set_option maxHeartbeats 1000000 in
theorem lawBinary_any (op : ByteArray) (ka na : Int) (ta : ByteArray) (kb nb : Int) (tb : ByteArray) (w : World) (hs : op.size ≤ maxLen) (_hk : (Lit.int .i64 ka).wf = true) (_hn : (Lit.int .i64 na).wf = true) (hta : ta.size ≤ maxLen) (_hkb : (Lit.int .i64 kb).wf = true) (_hnb : (Lit.int .i64 nb).wf = true) (htb : tb.size ≤ maxLen) :
    Calls Try.prog 8 #[.string op, .agg #[.int .i64 ka, .int .i64 na, .string ta], .agg #[.int .i64 kb, .int .i64 nb, .string tb]] w fun e w' => e = .returned (.bool true) ∧ Below w.heap.size w w' := by
  have hs' := hs
  unfold maxLen at hs'
  by_cases h : (1048576 : Int) < (op.size : Int)
  · go_enter Try.func8, Try.ntmps8
    go_wp2
    go_ret
    exact ⟨rfl, nx_trans (nx_alloc _ _) (nx_alloc _ _)⟩
  by_cases h' : (1048576 : Int) < (ta.size : Int)
  · go_enter Try.func8, Try.ntmps8
    go_wp2_with fail
    refine (szValue_no ka na ta _ _ hta (by omega) (by omega) h').mono ?_
    rintro e w1 ⟨rfl, hb1⟩
    go_wp2
    go_ret
    exact ⟨rfl, (by repeat (first | exact Below.refl _ _ | refine nx_al ?_ | refine nx_set ?_ (by first | omega | (simp <;> omega)) | refine nx_drew ?_ | refine nx_trans ?_ (by assumption)))⟩
  by_cases h'' : (1048576 : Int) - (ta.size : Int) < (tb.size : Int)
  · go_enter Try.func8, Try.ntmps8
    go_wp2_with fail
    refine (szValue_yes ka na ta _ _ (by omega) (by omega)).mono ?_
    rintro e w1 ⟨rfl, hb1⟩
    obtain ⟨hc1, hf1⟩ := bcell hb1
    have hz1_0 : w.heap.size < w1.heap.size := by have := hb1.size; first | omega | (simp at this; omega)
    have hz1_1 : w.heap.size + 1 < w1.heap.size := by have := hb1.size; first | omega | (simp at this; omega)
    go_wp2_with fail
    refine (szValue_no kb nb tb _ _ htb (by omega) (by omega) h'').mono ?_
    rintro e w2 ⟨rfl, hb2⟩
    go_wp2
    go_ret
    exact ⟨rfl, (by repeat (first | exact Below.refl _ _ | refine nx_al ?_ | refine nx_set ?_ (by first | omega | (simp <;> omega)) | refine nx_drew ?_ | refine nx_trans ?_ (by assumption)))⟩
  have hS := fun w => specBinary_any op ka na ta kb nb tb w hta htb
  have hI := fun w => Binary_any op ka na ta kb nb tb w hta htb
  generalize binR op.toList ka na ta kb nb tb = r at hS hI
  obtain ⟨rk, rn, rt, rc⟩ := r
  have HS := hide hS
  have HI := hide hI
  clear hS hI
  go_enter Try.func8, Try.ntmps8
  go_wp2_with fail
  refine (szValue_yes ka na ta _ _ (by omega) (by omega)).mono ?_
  rintro e w1 ⟨rfl, hb1⟩
  obtain ⟨hc1, hf1⟩ := bcell hb1
  have hz1_0 : w.heap.size < w1.heap.size := by have := hb1.size; first | omega | (simp at this; omega)
  have hz1_1 : w.heap.size + 1 < w1.heap.size := by have := hb1.size; first | omega | (simp at this; omega)
  go_wp2_with fail
  refine (szValue_yes kb nb tb _ _ (by omega) (by omega)).mono ?_
  rintro e w2 ⟨rfl, hb2⟩
  obtain ⟨hc2, hf2⟩ := bcell hb2
  have hz2_0 : w.heap.size < w2.heap.size := by have := hb2.size; first | omega | (simp at this; omega)
  have hz2_1 : w.heap.size + 1 < w2.heap.size := by have := hb2.size; first | omega | (simp at this; omega)
  obtain ⟨q0, q1, q2, q3, q4, q5⟩ : (fun x => x.cell? ⟨w.heap.size, 0, none⟩ = some (.int .i64 ka) ∧ x.cell? ⟨w.heap.size, 1, none⟩ = some (.int .i64 na) ∧ x.cell? ⟨w.heap.size, 2, none⟩ = some (.string ta) ∧ x.cell? ⟨w.heap.size + 1, 0, none⟩ = some (.int .i64 kb) ∧ x.cell? ⟨w.heap.size + 1, 1, none⟩ = some (.int .i64 nb) ∧ x.cell? ⟨w.heap.size + 1, 2, none⟩ = some (.string tb)) w2 := by
    refine ⟨?_, ?_, ?_, ?_, ?_, ?_⟩ <;> (rw [hc2 _ _ (by omega), hc1 _ _ (by simp <;> omega)]; simp)
  clear hc1 hf1 hc2 hf2
  have hE2 := apart2 hz2_1
  go_wp2
  go_cut [8, 9] from 25 to 33 (fun s8 s9 wx => ∃ b8 : Nat, s8 = .pointer (some ⟨b8, 0, none⟩) ∧ s9 = .int .i64 rc ∧ wx.cell? ⟨b8, 0, none⟩ = some (.int .i64 rk) ∧ wx.cell? ⟨b8, 1, none⟩ = some (.int .i64 rn) ∧ wx.cell? ⟨b8, 2, none⟩ = some (.string rt) ∧ wx.cell? ⟨w.heap.size, 0, none⟩ = some (.int .i64 ka) ∧ wx.cell? ⟨w.heap.size, 1, none⟩ = some (.int .i64 na) ∧ wx.cell? ⟨w.heap.size, 2, none⟩ = some (.string ta) ∧ wx.cell? ⟨w.heap.size + 1, 0, none⟩ = some (.int .i64 kb) ∧ wx.cell? ⟨w.heap.size + 1, 1, none⟩ = some (.int .i64 nb) ∧ wx.cell? ⟨w.heap.size + 1, 2, none⟩ = some (.string tb) ∧ w.heap.size + 1 < wx.heap.size ∧ b8 < wx.heap.size ∧ Below w.heap.size w wx)
  case first =>
    go_region_held3 (fun x => x.cell? ⟨w.heap.size, 0, none⟩ = some (.int .i64 ka) ∧ x.cell? ⟨w.heap.size, 1, none⟩ = some (.int .i64 na) ∧ x.cell? ⟨w.heap.size, 2, none⟩ = some (.string ta) ∧ x.cell? ⟨w.heap.size + 1, 0, none⟩ = some (.int .i64 kb) ∧ x.cell? ⟨w.heap.size + 1, 1, none⟩ = some (.int .i64 nb) ∧ x.cell? ⟨w.heap.size + 1, 2, none⟩ = some (.string tb)) (go_keep) ((first | (go_at_call 27; refine (toValue_any _ _ _ _).mono ?_; rintro e u ⟨rfl, hbu⟩; have cu0 := cell_later (a := ⟨w.heap.size, 0, none⟩) (v := .int .i64 ka) hbu (by simp [*]); have cu1 := cell_later (a := ⟨w.heap.size, 1, none⟩) (v := .int .i64 na) hbu (by simp [*]); have cu2 := cell_later (a := ⟨w.heap.size, 2, none⟩) (v := .string ta) hbu (by simp [*]); have cu3 := cell_later (a := ⟨w.heap.size + 1, 0, none⟩) (v := .int .i64 kb) hbu (by simp [*]); have cu4 := cell_later (a := ⟨w.heap.size + 1, 1, none⟩) (v := .int .i64 nb) hbu (by simp [*]); have cu5 := cell_later (a := ⟨w.heap.size + 1, 2, none⟩) (v := .string tb) hbu (by simp [*]); obtain ⟨hcu, hfu⟩ := bcell hbu; have hsu := hbu.size; (try simp at hsu); (try have hL := Nat.lt_of_succ_le hsu); (try have hA : w2.heap.size < u.heap.size := by omega); have hE := apart2 (by omega : w.heap.size + 1 < u.heap.size)) | (go_at_call 16; refine (unhide HS _).mono ?_; rintro e x ⟨rfl, hbx⟩; have cx0 := cell_later (a := ⟨w.heap.size, 0, none⟩) (v := .int .i64 ka) hbx (by simp [*]); have cx1 := cell_later (a := ⟨w.heap.size, 1, none⟩) (v := .int .i64 na) hbx (by simp [*]); have cx2 := cell_later (a := ⟨w.heap.size, 2, none⟩) (v := .string ta) hbx (by simp [*]); have cx3 := cell_later (a := ⟨w.heap.size + 1, 0, none⟩) (v := .int .i64 kb) hbx (by simp [*]); have cx4 := cell_later (a := ⟨w.heap.size + 1, 1, none⟩) (v := .int .i64 nb) hbx (by simp [*]); have cx5 := cell_later (a := ⟨w.heap.size + 1, 2, none⟩) (v := .string tb) hbx (by simp [*]); obtain ⟨hcx, hfx⟩ := bcell hbx; have hsx := hbx.size; (try simp at hsx); (try have hL := Nat.lt_of_succ_le hsx); (try have hA : w2.heap.size < x.heap.size := by omega); have hE := apart2 (by omega : w.heap.size + 1 < x.heap.size))))
    all_goals (go_wp2_with fail; go_meet)
    all_goals (refine ⟨_, rfl, rfl, ?_, ?_, ?_, ?_, ?_, ?_, ?_, ?_, ?_, ?_, ?_, ?_⟩)
    all_goals first | (simp only [World.size_setCell]; omega) | (simp [*]; done) | (go_simp; done) | (exact (by repeat (first | exact Below.refl _ _ | refine nx_al ?_ | refine nx_set ?_ (by first | omega | (simp <;> omega)) | refine nx_drew ?_ | refine nx_trans ?_ (by assumption))))
  case rest =>
  obtain ⟨b8, rfl, rfl, p0, p1, p2, k0, k1, k2, k3, k4, k5, hzc, hb8, hbc⟩ := hcut
  clear q0 q1 q2 q3 q4 q5 hz1_0 hz1_1 hz2_0 hz2_1 hE2 hb1 hb2
  have hE2 := apart2 hzc
  have hE8 := apart1 hb8
  go_wp2
  go_cut [10, 11] from 34 to 42 (fun s10 s11 wx => ∃ b10 : Nat, s10 = .pointer (some ⟨b10, 0, none⟩) ∧ s11 = .int .i64 rc ∧ wx.cell? ⟨b10, 0, none⟩ = some (.int .i64 rk) ∧ wx.cell? ⟨b10, 1, none⟩ = some (.int .i64 rn) ∧ wx.cell? ⟨b10, 2, none⟩ = some (.string rt) ∧ wx.cell? ⟨b8, 0, none⟩ = some (.int .i64 rk) ∧ wx.cell? ⟨b8, 1, none⟩ = some (.int .i64 rn) ∧ wx.cell? ⟨b8, 2, none⟩ = some (.string rt) ∧ Below w.heap.size w wx)
  case first =>
    go_region_held3 (fun x => x.cell? ⟨w.heap.size, 0, none⟩ = some (.int .i64 ka) ∧ x.cell? ⟨w.heap.size, 1, none⟩ = some (.int .i64 na) ∧ x.cell? ⟨w.heap.size, 2, none⟩ = some (.string ta) ∧ x.cell? ⟨w.heap.size + 1, 0, none⟩ = some (.int .i64 kb) ∧ x.cell? ⟨w.heap.size + 1, 1, none⟩ = some (.int .i64 nb) ∧ x.cell? ⟨w.heap.size + 1, 2, none⟩ = some (.string tb) ∧ x.cell? ⟨b8, 0, none⟩ = some (.int .i64 rk) ∧ x.cell? ⟨b8, 1, none⟩ = some (.int .i64 rn) ∧ x.cell? ⟨b8, 2, none⟩ = some (.string rt)) (go_keep) ((first | (go_at_call 27; refine (toValue_any _ _ _ _).mono ?_; rintro e u ⟨rfl, hbu⟩; have cu0 := cell_later (a := ⟨w.heap.size, 0, none⟩) (v := .int .i64 ka) hbu (by simp [*]); have cu1 := cell_later (a := ⟨w.heap.size, 1, none⟩) (v := .int .i64 na) hbu (by simp [*]); have cu2 := cell_later (a := ⟨w.heap.size, 2, none⟩) (v := .string ta) hbu (by simp [*]); have cu3 := cell_later (a := ⟨w.heap.size + 1, 0, none⟩) (v := .int .i64 kb) hbu (by simp [*]); have cu4 := cell_later (a := ⟨w.heap.size + 1, 1, none⟩) (v := .int .i64 nb) hbu (by simp [*]); have cu5 := cell_later (a := ⟨w.heap.size + 1, 2, none⟩) (v := .string tb) hbu (by simp [*]); have cu6 := cell_later (a := ⟨b8, 0, none⟩) (v := .int .i64 rk) hbu (by simp [*]); have cu7 := cell_later (a := ⟨b8, 1, none⟩) (v := .int .i64 rn) hbu (by simp [*]); have cu8 := cell_later (a := ⟨b8, 2, none⟩) (v := .string rt) hbu (by simp [*]); obtain ⟨hcu, hfu⟩ := bcell hbu; have hsu := hbu.size; (try simp at hsu); (try have hL := Nat.lt_of_succ_le hsu); (try have hA : wc.heap.size < u.heap.size := by omega); have hE := apart2 (by omega : w.heap.size + 1 < u.heap.size); have hE := apart1 (by omega : b8 < u.heap.size)) | (go_at_call 15; refine (unhide HI _).mono ?_; rintro e x ⟨rfl, hbx⟩; have cx0 := cell_later (a := ⟨w.heap.size, 0, none⟩) (v := .int .i64 ka) hbx (by simp [*]); have cx1 := cell_later (a := ⟨w.heap.size, 1, none⟩) (v := .int .i64 na) hbx (by simp [*]); have cx2 := cell_later (a := ⟨w.heap.size, 2, none⟩) (v := .string ta) hbx (by simp [*]); have cx3 := cell_later (a := ⟨w.heap.size + 1, 0, none⟩) (v := .int .i64 kb) hbx (by simp [*]); have cx4 := cell_later (a := ⟨w.heap.size + 1, 1, none⟩) (v := .int .i64 nb) hbx (by simp [*]); have cx5 := cell_later (a := ⟨w.heap.size + 1, 2, none⟩) (v := .string tb) hbx (by simp [*]); have cx6 := cell_later (a := ⟨b8, 0, none⟩) (v := .int .i64 rk) hbx (by simp [*]); have cx7 := cell_later (a := ⟨b8, 1, none⟩) (v := .int .i64 rn) hbx (by simp [*]); have cx8 := cell_later (a := ⟨b8, 2, none⟩) (v := .string rt) hbx (by simp [*]); obtain ⟨hcx, hfx⟩ := bcell hbx; have hsx := hbx.size; (try simp at hsx); (try have hL := Nat.lt_of_succ_le hsx); (try have hA : wc.heap.size < x.heap.size := by omega); have hE := apart2 (by omega : w.heap.size + 1 < x.heap.size); have hE := apart1 (by omega : b8 < x.heap.size))))
    all_goals (go_wp2_with fail; go_meet)
    all_goals (refine ⟨_, rfl, rfl, ?_, ?_, ?_, ?_, ?_, ?_, ?_⟩)
    all_goals first | (simp only [World.size_setCell]; omega) | (simp [*]; done) | (go_simp; done) | (exact (by repeat (first | exact Below.refl _ _ | refine nx_al ?_ | refine nx_set ?_ (by first | omega | (simp <;> omega)) | refine nx_drew ?_ | refine nx_trans ?_ (by assumption))))
  case rest =>
  obtain ⟨b10, rfl, rfl, r0, r1, r2, r3, r4, r5, hbd⟩ := hcut
  clear p0 p1 p2 k0 k1 k2 k3 k4 k5
  go_wp2_with fail
  refine (eqValue_same rk rn rt _).mono ?_
  rintro e w9 ⟨rfl, hb9⟩
  go_wp2
  go_ret
  exact ⟨rfl, nx_trans hbd hb9⟩

end Go.Proofs.Ytpncohkbdaoceaa
