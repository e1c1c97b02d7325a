/- The law on values: what it leans on. -/
import Derived.Test.YtpncohkbdaoceaaOpWalk
import Derived.Test.YtpncohkbdaoceaaBinary4
import Derived.Test.YtpncohkbdaoceaaOrderWalk
import Derived.Test.YtpncohkbdaoceaaTruthWalk
import Derived.Test.YtpncohkbdaoceaaRowOf
namespace Go.Proofs.Ytpncohkbdaoceaa
open Go.RowKit
set_option linter.unusedVariables false

theorem fit_ok {n : Int} (h : (fitR n).c = 0) : vokB (fitR n).k (fitR n).n (fitR n).t = true := by
  unfold fitR at h ⊢
  split
  · rename_i hn; exact vok_num hn.1 hn.2
  · rename_i hn; rw [if_neg hn] at h; simp [zeroR] at h
theorem bool_ok (b : Bool) : vokB (boolR b).k (boolR b).n (boolR b).t = true := vok_bit b
def goodR (r : Res) : Prop := r.c = 0 → vokB r.k r.n r.t = true
theorem good_ite {c : Prop} [Decidable c] {a b : Res} (h1 : c → goodR a) (h2 : ¬ c → goodR b) : goodR (if c then a else b) := by
  by_cases h : c
  · rw [if_pos h]; exact h1 h
  · rw [if_neg h]; exact h2 h
theorem good_zero {c : Int} (h : ¬ c = 0) : goodR (zeroR c) := fun e => absurd e h
theorem good_text {t : ByteArray} (h : t.size ≤ 60) : goodR (textR t) := fun _ => by simp [textR, vokB, h]
theorem binR_ok {l : List UInt8} {ka na : Int} {ta : ByteArray} {kb nb : Int} {tb : ByteArray} : goodR (binR l ka na ta kb nb tb) := by
  unfold binR intsR textsR
  repeat' refine good_ite (fun h => ?_) (fun h => ?_)
  all_goals first
    | exact fun _ => bool_ok _
    | exact fit_ok
    | exact fun _ => vok_num h.1 h.2
    | exact good_zero (by decide)
    | (refine good_text ?_; rw [ByteArray.size_append]; omega)
theorem bytesLess_asymm : ∀ a b : List UInt8, Op.bytesLess a b = true → Op.bytesLess b a = false
  | [], [] => by simp [Op.bytesLess]
  | [], c :: l => by simp [Op.bytesLess]
  | c :: l, [] => by simp [Op.bytesLess]
  | c :: l, d :: m => by
    have ih := bytesLess_asymm l m
    simp only [Op.bytesLess]
    intro h
    by_cases h1 : c < d
    · have h2 : ¬ d < c := fun h3 => by have := UInt8.lt_iff_toNat_lt.1 h1; have := UInt8.lt_iff_toNat_lt.1 h3; omega
      have h3 : ¬ d = c := fun e => by subst e; exact h2 h1
      simp [h2, h3]
    · by_cases h2 : c = d
      · subst h2
        simp [h1] at h ⊢
        exact ih h
      · simp [h1, h2] at h
theorem bytesLess_total : ∀ a b : List UInt8, Op.bytesLess a b = false → Op.bytesLess b a = false → a = b
  | [], [] => by simp
  | [], c :: l => by simp [Op.bytesLess]
  | c :: l, [] => by simp [Op.bytesLess]
  | c :: l, d :: m => by
    have ih := bytesLess_total l m
    simp only [Op.bytesLess]
    intro h h'
    have h1 : ¬ c < d := fun e => by simp [e] at h
    have h2 : ¬ d < c := fun e => by simp [e] at h'
    have h3 : c = d := UInt8.toNat_inj.1 (by have := mt UInt8.lt_iff_toNat_lt.2 h1; have := mt UInt8.lt_iff_toNat_lt.2 h2; omega)
    subst h3
    simp [h1] at h h'
    rw [ih h h']

theorem ordI_neg (a b : Int) : ordI b a = -ordI a b := by
  unfold ordI
  by_cases h : a < b
  · rw [if_pos h, if_neg (by omega), if_pos h]; rfl
  · by_cases h' : b < a
    · rw [if_pos h', if_neg h, if_pos h']
    · rw [if_neg h', if_neg h, if_neg h, if_neg h']; rfl
theorem ordI_zero (a b : Int) : ordI a b = 0 ↔ a = b := by
  unfold ordI
  repeat' split
  all_goals omega
theorem ordI_bd (a b : Int) : -1 ≤ ordI a b ∧ ordI a b ≤ 1 := by
  unfold ordI
  repeat' split
  all_goals omega
theorem ordS_zero (a b : ByteArray) : ordS a b = 0 ↔ a.toList = b.toList := by
  unfold ordS
  by_cases h : Op.bytesLess a.toList b.toList = true
  · rw [if_pos h]
    refine ⟨fun h => by omega, fun e => ?_⟩
    rw [e, bytesLess_irrefl] at h
    cases h
  · rw [if_neg h]
    by_cases h' : (a.toList == b.toList) = true
    · rw [if_pos h']; simp at h'; simp [h']
    · rw [if_neg h']; simp at h'; simp [h']
theorem ordS_bd (a b : ByteArray) : -1 ≤ ordS a b ∧ ordS a b ≤ 1 := by
  unfold ordS
  repeat' split
  all_goals omega
theorem ordS_neg (a b : ByteArray) : ordS b a = -ordS a b := by
  unfold ordS
  by_cases e : a.toList = b.toList
  · rw [e]; simp [bytesLess_irrefl]
  · have e1 : (a.toList == b.toList) = false := by simpa using e
    have e2 : (b.toList == a.toList) = false := by simpa using fun h : b.toList = a.toList => e h.symm
    rw [e1, e2]
    cases h : Op.bytesLess a.toList b.toList
    · cases h' : Op.bytesLess b.toList a.toList
      · exact absurd (bytesLess_total _ _ h h') e
      · simp
    · rw [bytesLess_asymm _ _ h]; simp
theorem orI_neg (x y z : Int) : orI (-x) (-y) (-z) = -orI x y z := by
  unfold orI
  repeat' split
  all_goals omega
theorem orI_zero (x y z : Int) : orI x y z = 0 ↔ x = 0 ∧ y = 0 ∧ z = 0 := by
  unfold orI
  repeat' split
  all_goals omega
theorem orI_bd {x y z : Int} (hx : -1 ≤ x ∧ x ≤ 1) (hy : -1 ≤ y ∧ y ≤ 1) (hz : -1 ≤ z ∧ z ≤ 1) : -1 ≤ orI x y z ∧ orI x y z ≤ 1 := by
  unfold orI
  repeat' split
  all_goals omega
theorem order_all (ka na : Int) (ta : ByteArray) (kb nb : Int) (tb : ByteArray) (hva : vokB ka na ta = true) (hvb : vokB kb nb tb = true) :
    ∃ N : Int, orderP ka na ta kb nb tb = (N, 0) ∧ orderP kb nb tb ka na ta = (-N, 0) ∧ -1 ≤ N ∧ N ≤ 1 ∧ (N = 0 ↔ ka = kb ∧ na = nb ∧ ta.toList = tb.toList) := by
  refine ⟨orI (ordI ka kb) (ordI na nb) (ordS ta tb), ?_, ?_, ?_, ?_, ?_⟩
  · unfold orderP; rw [if_pos ⟨hva, hvb⟩]
  · unfold orderP; rw [if_pos ⟨hvb, hva⟩, ordI_neg, ordI_neg na, ordS_neg ta, orI_neg]
  · exact (orI_bd (ordI_bd _ _) (ordI_bd _ _) (ordS_bd _ _)).1
  · exact (orI_bd (ordI_bd _ _) (ordI_bd _ _) (ordS_bd _ _)).2
  · rw [orI_zero, ordI_zero, ordI_zero, ordS_zero]

theorem vok_size {k n : Int} {t : ByteArray} (h : vokB k n t = true) : t.size ≤ 60 := by
  unfold vokB at h
  repeat' split at h
  all_goals first
    | (simp at h; done)
    | (rw [← len_toList]; simp at h; rw [h.2]; simp)
    | (simp at h; omega)
theorem max60 {t : ByteArray} (h : t.size ≤ 60) : t.size ≤ maxLen := Nat.le_trans h (by decide)
theorem order_two (ka na : Int) (ta : ByteArray) (kb nb : Int) (tb : ByteArray) (hva : vokB ka na ta = true) (hvb : vokB kb nb tb = true) :
    ∃ M : Int, -1 ≤ M ∧ M ≤ 1 ∧ (M = 0 ↔ ka = kb ∧ na = nb ∧ ta.toList = tb.toList) ∧
      (∀ w, Calls Try.prog 17 #[.agg #[.int .i64 ka, .int .i64 na, .string ta], .agg #[.int .i64 kb, .int .i64 nb, .string tb]] w fun e w' => e = .returned (.tuple #[.int .i64 (-M), .int .i64 0]) ∧ Below w.heap.size w w') ∧
      (∀ w, Calls Try.prog 17 #[.agg #[.int .i64 kb, .int .i64 nb, .string tb], .agg #[.int .i64 ka, .int .i64 na, .string ta]] w fun e w' => e = .returned (.tuple #[.int .i64 M, .int .i64 0]) ∧ Below w.heap.size w w') := by
  obtain ⟨N, h1, h2, h3, h4, h5⟩ := order_all ka na ta kb nb tb hva hvb
  refine ⟨-N, by omega, by omega, by rw [← h5]; omega, fun w => ?_, fun w => ?_⟩
  · have := Order_any ka na ta kb nb tb w (max60 (vok_size hva)) (max60 (vok_size hvb))
    rw [h1] at this
    simpa using this
  · have := Order_any kb nb tb ka na ta w (max60 (vok_size hvb)) (max60 (vok_size hva))
    rw [h2] at this
    exact this
theorem truth_two (k n : Int) (t : ByteArray) (hv : vokB k n t = true) :
    ∃ b : Bool, (∀ w, Calls Try.prog 18 #[.agg #[.int .i64 k, .int .i64 n, .string t]] w fun e w' => e = .returned (.tuple #[.bool b, .int .i64 0]) ∧ Below w.heap.size w w') ∧
      (∀ w, Calls Try.prog 19 #[.agg #[.int .i64 k, .int .i64 n, .string t]] w fun e w' => e = .returned (.tuple #[.bool b, .int .i64 0]) ∧ Below w.heap.size w w') := by
  refine ⟨truthB n t, fun w => ?_, fun w => ?_⟩
  · have := Truth_any k n t w (max60 (vok_size hv))
    rw [hv] at this
    exact this
  · have := specTruth_any k n t w (max60 (vok_size hv))
    rw [hv] at this
    exact this
theorem not_two (k n : Int) (t : ByteArray) (hv : vokB k n t = true) :
    ∃ (uk un : Int) (ut : ByteArray), (∀ w, Calls Try.prog 20 #[.string ⟨#[33]⟩, .agg #[.int .i64 k, .int .i64 n, .string t]] w fun e w' => e = .returned (.tuple #[.agg #[.int .i64 uk, .int .i64 un, .string ut], .int .i64 0]) ∧ Below w.heap.size w w') ∧
      (∀ w, Calls Try.prog 21 #[.string ⟨#[33]⟩, .agg #[.int .i64 k, .int .i64 n, .string t]] w fun e w' => e = .returned (.tuple #[.agg #[.int .i64 uk, .int .i64 un, .string ut], .int .i64 0]) ∧ Below w.heap.size w w') := by
  have hr : unaryR (⟨#[33]⟩ : ByteArray).toList k n t = boolR (!truthB n t) := by
    rw [show (⟨#[33]⟩ : ByteArray).toList = [33] by rw [ByteArray.toList_eq]]
    unfold unaryR
    rw [if_neg (by decide), if_neg (by rw [hv]; decide), if_pos rfl]
  refine ⟨2, bitI (!truthB n t), ⟨#[]⟩, fun w => ?_, fun w => ?_⟩
  · have := Unary_any ⟨#[33]⟩ k n t w (max60 (vok_size hv))
    rw [hr] at this
    exact this
  · have := specUnary_any ⟨#[33]⟩ k n t w (max60 (vok_size hv))
    rw [hr] at this
    exact this
theorem bin_two (op : ByteArray) (ka na : Int) (ta : ByteArray) (kb nb : Int) (tb : ByteArray) (hva : vokB ka na ta = true) (hvb : vokB kb nb tb = true) :
    ∃ (rk rn : Int) (rt : ByteArray) (rc : Int), (rc = 0 → vokB rk rn rt = true) ∧
      (∀ w, Calls Try.prog 15 #[.string op, .agg #[.int .i64 ka, .int .i64 na, .string ta], .agg #[.int .i64 kb, .int .i64 nb, .string tb]] w fun e w' => e = .returned (.tuple #[.agg #[.int .i64 rk, .int .i64 rn, .string rt], .int .i64 rc]) ∧ Below w.heap.size w w') ∧
      (∀ w, Calls Try.prog 16 #[.string op, .agg #[.int .i64 ka, .int .i64 na, .string ta], .agg #[.int .i64 kb, .int .i64 nb, .string tb]] w fun e w' => e = .returned (.tuple #[.agg #[.int .i64 rk, .int .i64 rn, .string rt], .int .i64 rc]) ∧ Below w.heap.size w w') :=
  ⟨_, _, _, _, binR_ok, fun w => Binary_any op ka na ta kb nb tb w (max60 (vok_size hva)) (max60 (vok_size hvb)), fun w => specBinary_any op ka na ta kb nb tb w (max60 (vok_size hva)) (max60 (vok_size hvb))⟩
theorem keep0 {w w' : World} {a : Addr} {v : Value} (h : Hid (w.cell? a = some v)) (hb : Below w.heap.size w w') : Hid (w'.cell? a = some v) := hide (cell_later hb (unhide h))
theorem keep1 {w w' : World} {o : Obj} {a : Addr} {v : Value} (h : Hid (w.cell? a = some v)) (hb : Below (w.alloc o).heap.size (w.alloc o) w') : Hid (w'.cell? a = some v) := hide (cell_later hb (cell_later (nx_alloc _ _) (unhide h)))
theorem keep2 {w w' : World} {o o' : Obj} {a : Addr} {v : Value} (h : Hid (w.cell? a = some v)) (hb : Below ((w.alloc o).alloc o').heap.size ((w.alloc o).alloc o') w') : Hid (w'.cell? a = some v) := hide (cell_later hb (cell_later (nx_trans (nx_alloc _ _) (nx_alloc _ _)) (unhide h)))
theorem lay1 {w : World} {a : Addr} {v : Value} (h : Hid (w.cell? a = some v)) : ∀ o, (w.alloc o).cell? a = some v := fun o => cell_later (nx_alloc _ _) (unhide h)
theorem ok_yes {k n : Int} {t : ByteArray} (h : vokB k n t = true) (w : World) :
    Calls Try.prog 22 #[.agg #[.int .i64 k, .int .i64 n, .string t]] w fun e w' => e = .returned (.bool true) ∧ Below w.heap.size w w' := by
  have := ValueOK_any k n t w (max60 (vok_size h))
  rw [h] at this
  exact this
theorem vok_one {n : Int} {t : ByteArray} (h : vokB 1 n t = true) : -2147483648 ≤ n ∧ n ≤ 2147483647 ∧ t = ⟨#[]⟩ := by
  simp [vokB] at h
  refine ⟨h.1.1, h.1.2, toList_inj ?_⟩
  rw [h.2, ByteArray.toList_eq]
theorem bin_ints (op : ByteArray) (r : Res) (na nb : Int) (w : World) (hva : vokB 1 na ⟨#[]⟩ = true) (hvb : vokB 1 nb ⟨#[]⟩ = true) (hr : binR op.toList 1 na ⟨#[]⟩ 1 nb ⟨#[]⟩ = r) :
    Calls Try.prog 15 #[.string op, .agg #[.int .i64 1, .int .i64 na, .string ⟨#[]⟩], .agg #[.int .i64 1, .int .i64 nb, .string ⟨#[]⟩]] w fun e w' => e = .returned (.tuple #[.agg #[.int .i64 r.k, .int .i64 r.n, .string r.t], .int .i64 r.c]) ∧ Below w.heap.size w w' := by
  have := Binary_any op 1 na ⟨#[]⟩ 1 nb ⟨#[]⟩ w (max60 (vok_size hva)) (max60 (vok_size hvb))
  rw [hr] at this
  exact this
theorem bin_add (na nb : Int) (hva : vokB 1 na ⟨#[]⟩ = true) (hvb : vokB 1 nb ⟨#[]⟩ = true) : binR (⟨#[43]⟩ : ByteArray).toList 1 na ⟨#[]⟩ 1 nb ⟨#[]⟩ = fitR (na + nb) := by
  rw [show (⟨#[43]⟩ : ByteArray).toList = [43] by rw [ByteArray.toList_eq]]
  simp [binR, intsR, hva, hvb]
theorem bin_sub (na nb : Int) (hva : vokB 1 na ⟨#[]⟩ = true) (hvb : vokB 1 nb ⟨#[]⟩ = true) : binR (⟨#[45]⟩ : ByteArray).toList 1 na ⟨#[]⟩ 1 nb ⟨#[]⟩ = fitR (na - nb) := by
  rw [show (⟨#[45]⟩ : ByteArray).toList = [45] by rw [ByteArray.toList_eq]]
  simp [binR, intsR, hva, hvb]
theorem fit_yes {n : Int} (h0 : -2147483648 ≤ n) (h1 : n ≤ 2147483647) : fitR n = intR n := if_pos ⟨h0, h1⟩
theorem fit_no {n : Int} (h : ¬ (-2147483648 ≤ n ∧ n ≤ 2147483647)) : fitR n = zeroR 4 := if_neg h
theorem add_fit (na nb : Int) (w : World) (hva : vokB 1 na ⟨#[]⟩ = true) (hvb : vokB 1 nb ⟨#[]⟩ = true) (h0 : -2147483648 ≤ na + nb) (h1 : na + nb ≤ 2147483647) :
    Calls Try.prog 15 #[.string ⟨#[43]⟩, .agg #[.int .i64 1, .int .i64 na, .string ⟨#[]⟩], .agg #[.int .i64 1, .int .i64 nb, .string ⟨#[]⟩]] w fun e w' => e = .returned (.tuple #[.agg #[.int .i64 1, .int .i64 (na + nb), .string ⟨#[]⟩], .int .i64 0]) ∧ Below w.heap.size w w' :=
  bin_ints ⟨#[43]⟩ (intR (na + nb)) na nb w hva hvb ((bin_add na nb hva hvb).trans (fit_yes h0 h1))
theorem add_far (na nb : Int) (w : World) (hva : vokB 1 na ⟨#[]⟩ = true) (hvb : vokB 1 nb ⟨#[]⟩ = true) (h : ¬ (-2147483648 ≤ na + nb ∧ na + nb ≤ 2147483647)) :
    Calls Try.prog 15 #[.string ⟨#[43]⟩, .agg #[.int .i64 1, .int .i64 na, .string ⟨#[]⟩], .agg #[.int .i64 1, .int .i64 nb, .string ⟨#[]⟩]] w fun e w' => e = .returned (.tuple #[.agg #[.int .i64 0, .int .i64 0, .string ⟨#[]⟩], .int .i64 4]) ∧ Below w.heap.size w w' :=
  bin_ints ⟨#[43]⟩ (zeroR 4) na nb w hva hvb ((bin_add na nb hva hvb).trans (fit_no h))
theorem sub_back (s na nb : Int) (w : World) (hvs : vokB 1 s ⟨#[]⟩ = true) (hva : vokB 1 na ⟨#[]⟩ = true) (hvb : vokB 1 nb ⟨#[]⟩ = true) (h : s - nb = na) :
    Calls Try.prog 15 #[.string ⟨#[45]⟩, .agg #[.int .i64 1, .int .i64 s, .string ⟨#[]⟩], .agg #[.int .i64 1, .int .i64 nb, .string ⟨#[]⟩]] w fun e w' => e = .returned (.tuple #[.agg #[.int .i64 1, .int .i64 na, .string ⟨#[]⟩], .int .i64 0]) ∧ Below w.heap.size w w' :=
  bin_ints ⟨#[45]⟩ (intR na) s nb w hvs hvb ((bin_sub s nb hvs hvb).trans (by rw [h]; exact fit_yes (vok_one hva).1 (vok_one hva).2.1))
theorem wpList_append_behind (w : World) {ops : Array Oper} {rest : List Oper} {o : Oper} {a : Act} {Q : Exit → Act → World → Prop} (hgd : o.guard = none) (s x : Operand)
    (ho : o.op = .call { callee := .builtin .append, args := #[s, x], argTypes := #[22, 22] }) (q : Nat) (p : Option Addr) (len cap : Nat) (hs : a.eval s = .slice (some ⟨q, 0, none⟩) 1 1) (hx : a.eval x = .slice p len cap)
    (hq : w.cell? ⟨q, 0, none⟩ = some (.int .u8 9)) (hrow : ByteRow w p len) (hlen : len ≤ 1048576)
    (h : ∀ p' cap' w', ByteRow w' p' (1 + len) → Below w.heap.size w w' → wpList Try.prog ops Q rest (a.put o.dst (.slice p' (1 + len) cap')) w') : wpList Try.prog ops Q (o :: rest) a w := by
  obtain ⟨v', w', p', cap', hr, rfl, h1, h2⟩ := append_behind o.type q p len cap w hq hrow hlen
  exact wpList_append_eq w hgd s x 22 ho _ _ hs hx hr (h p' cap' w' h1 h2)

end Go.Proofs.Ytpncohkbdaoceaa
