/- The law on bounds, and the operations on numbers that it and its kin ask for. -/
import Derived.Test.YtpncohkbdaoceaaDoorBuiltin2
import Derived.Test.YtpncohkbdaoceaaDoorBinary2
import Derived.Test.YtpncohkbdaoceaaDoorAtWalk
namespace Go.Proofs.YtpncohkbdaoceaaDoor
open Go.RowKit
set_option linter.unusedVariables false

theorem tl (l : List UInt8) : (⟨l.toArray⟩ : ByteArray).toList = l := by rw [ByteArray.toList_eq]
theorem vok_iv {n : Int} (h1 : -2147483648 ≤ n) (h2 : n ≤ 2147483647) : vokB 1 n ⟨#[]⟩ = true := (okV_iv h1 h2).1
theorem e_max : (⟨#[]⟩ : ByteArray).size ≤ maxLen := Nat.zero_le _
theorem fit_in {n : Int} (h1 : -2147483648 ≤ n) (h2 : n ≤ 2147483647) : fitR n = intR n := if_pos ⟨h1, h2⟩
def inB (n : Int) : Prop := -2147483648 ≤ n ∧ n ≤ 2147483647

theorem bin_int (op : ByteArray) (a b : Int) (w : World) (ho : op.size ≤ 65536) (hop : isOp op.toList) (ha : inB a) (hb : inB b) :
    Calls Tryd.prog 13 #[.string op, .agg #[.int .i64 1, .int .i64 a, .string ⟨#[]⟩], .agg #[.int .i64 1, .int .i64 b, .string ⟨#[]⟩]] w fun e w' => e = .returned (.tuple #[.agg #[.int .i64 (intsR op.toList a b).k, .int .i64 (intsR op.toList a b).n, .string (intsR op.toList a b).t], .int .i64 (intsR op.toList a b).c]) ∧ Below w.heap.size w w' := by
  have va := vok_iv ha.1 ha.2
  have vb := vok_iv hb.1 hb.2
  have hh := hide hop
  rcases hop with h | h | h | h | h | h
  · exact Binary_int_lt op a _ b _ w ho e_max e_max va vb hh ha.1 ha.2 hb.1 hb.2 h
  · exact Binary_int_add op a _ b _ w ho e_max e_max va vb hh ha.1 ha.2 hb.1 hb.2 h
  · exact Binary_int_sub op a _ b _ w ho e_max e_max va vb hh ha.1 ha.2 hb.1 hb.2 h
  · exact Binary_int_mul op a _ b _ w ho e_max e_max va vb hh ha.1 ha.2 hb.1 hb.2 h
  · exact Binary_int_quo op a _ b _ w ho e_max e_max va vb hh ha.1 ha.2 hb.1 hb.2 h
  · exact Binary_int_rem op a _ b _ w ho e_max e_max va vb hh ha.1 ha.2 hb.1 hb.2 h

theorem bin_add (a b c : Int) (w : World) (ha : inB a) (hb : inB b) (hc : inB c) (e : a + b = c) :
    Calls Tryd.prog 13 #[.string ⟨#[43]⟩, .agg #[.int .i64 1, .int .i64 a, .string ⟨#[]⟩], .agg #[.int .i64 1, .int .i64 b, .string ⟨#[]⟩]] w fun e w' => e = .returned (.tuple #[.agg #[.int .i64 1, .int .i64 (c), .string ⟨#[]⟩], .int .i64 0]) ∧ Below w.heap.size w w' := by
  have := bin_int ⟨#[43]⟩ a b w (by decide) (by rw [tl [43]]; unfold isOp; decide) ha hb
  rw [show intsR (⟨#[43]⟩ : ByteArray).toList a b = intR c by rw [tl [43]]; unfold intsR; rw [if_neg (by decide), if_pos rfl, e]; exact fit_in hc.1 hc.2] at this
  exact this
theorem bin_lt (a b : Int) (p : Bool) (q : Int) (w : World) (ha : inB a) (hb : inB b) (e : decide (a < b) = p) (eq : bitI p = q) :
    Calls Tryd.prog 13 #[.string ⟨#[60]⟩, .agg #[.int .i64 1, .int .i64 a, .string ⟨#[]⟩], .agg #[.int .i64 1, .int .i64 b, .string ⟨#[]⟩]] w fun e w' => e = .returned (.tuple #[.agg #[.int .i64 2, .int .i64 (q), .string ⟨#[]⟩], .int .i64 0]) ∧ Below w.heap.size w w' := by
  have := bin_int ⟨#[60]⟩ a b w (by decide) (by rw [tl [60]]; unfold isOp; decide) ha hb
  rw [show intsR (⟨#[60]⟩ : ByteArray).toList a b = boolR p by rw [tl [60]]; unfold intsR; rw [if_pos rfl, e]] at this
  subst eq
  exact this
theorem un_neg (a c : Int) (w : World) (ha : inB a) (hc : inB c) (e : -a = c) :
    Calls Tryd.prog 14 #[.string ⟨#[45]⟩, .agg #[.int .i64 1, .int .i64 a, .string ⟨#[]⟩]] w fun e w' => e = .returned (.tuple #[.agg #[.int .i64 1, .int .i64 (c), .string ⟨#[]⟩], .int .i64 0]) ∧ Below w.heap.size w w' := by
  have := Unary_neg ⟨#[45]⟩ a ⟨#[]⟩ w (by decide) e_max (vok_iv ha.1 ha.2) (tl [45]) ha.1 ha.2
  rw [e, fit_in hc.1 hc.2] at this
  exact this
theorem bi_max (x z m : Int) (b cap : Nat) (w : World) (hx : inB x) (hz : inB z) (e : max x z = m) (hA : ArgsAt w b [iv x, iv z]) :
    Calls Tryd.prog 11 #[.string ⟨#[109, 97, 120]⟩, .slice (some ⟨b, 0, none⟩) 2 cap] w fun e w' => e = .returned (.tuple #[.agg #[.int .i64 1, .int .i64 (m), .string ⟨#[]⟩], .int .i64 0]) ∧ Below w.heap.size w w' := by
  have := Builtin_max ⟨#[109, 97, 120]⟩ x z b cap w (tl _) (by decide) hx.1 hx.2 hz.1 hz.2 hA
  rw [e] at this
  exact this
theorem bi_min (x z m : Int) (b cap : Nat) (w : World) (hx : inB x) (hz : inB z) (e : min x z = m) (hA : ArgsAt w b [iv x, iv z]) :
    Calls Tryd.prog 11 #[.string ⟨#[109, 105, 110]⟩, .slice (some ⟨b, 0, none⟩) 2 cap] w fun e w' => e = .returned (.tuple #[.agg #[.int .i64 1, .int .i64 (m), .string ⟨#[]⟩], .int .i64 0]) ∧ Below w.heap.size w w' := by
  have := Builtin_min ⟨#[109, 105, 110]⟩ x z b cap w (tl _) (by decide) hx.1 hx.2 hz.1 hz.2 hA
  rw [e] at this
  exact this
theorem bi_one (x : Int) (b cap : Nat) (w : World) (hx : inB x) (hA : ArgsAt w b [iv x]) :
    Calls Tryd.prog 11 #[.string ⟨#[109, 97, 120]⟩, .slice (some ⟨b, 0, none⟩) 1 cap] w fun e w' => e = .returned (.tuple #[.agg #[.int .i64 0, .int .i64 (0), .string ⟨#[]⟩], .int .i64 14]) ∧ Below w.heap.size w w' := Builtin_maxone ⟨#[109, 97, 120]⟩ x b cap w (tl _) (by decide) hx.1 hx.2 hA
theorem bi_abs (x m : Int) (b cap : Nat) (w : World) (hx : inB x) (hm : inB m) (e : max x (-x) = m) (hA : ArgsAt w b [iv x]) :
    Calls Tryd.prog 11 #[.string ⟨#[97, 98, 115]⟩, .slice (some ⟨b, 0, none⟩) 1 cap] w fun e w' => e = .returned (.tuple #[.agg #[.int .i64 1, .int .i64 (m), .string ⟨#[]⟩], .int .i64 0]) ∧ Below w.heap.size w w' := by
  have := Builtin_abs ⟨#[97, 98, 115]⟩ x b cap w (tl _) (by decide) hx.1 hx.2 hA
  rw [e, fit_in hm.1 hm.2] at this
  exact this
theorem args1 {w : World} {b : Nat} {x : Int} (h0 : w.cell? ⟨b, 0, none⟩ = some (.int .i64 1)) (h1 : w.cell? ⟨b, 1, none⟩ = some (.int .i64 x)) (h2 : w.cell? ⟨b, 2, none⟩ = some (.string ⟨#[]⟩)) : ArgsAt w b [iv x] := fun i hi => by
  obtain rfl : i = 0 := by simp at hi; omega
  exact ⟨h0, h1, h2⟩
theorem args2 {w : World} {b : Nat} {x z : Int} (h0 : w.cell? ⟨b, 0, none⟩ = some (.int .i64 1)) (h1 : w.cell? ⟨b, 1, none⟩ = some (.int .i64 x)) (h2 : w.cell? ⟨b, 2, none⟩ = some (.string ⟨#[]⟩))
    (h3 : w.cell? ⟨b, 3, none⟩ = some (.int .i64 1)) (h4 : w.cell? ⟨b, 4, none⟩ = some (.int .i64 z)) (h5 : w.cell? ⟨b, 5, none⟩ = some (.string ⟨#[]⟩)) : ArgsAt w b [iv x, iv z] := fun i hi => by
  obtain rfl | rfl : i = 0 ∨ i = 1 := by simp at hi; omega
  · exact ⟨h0, h1, h2⟩
  · exact ⟨h3, h4, h5⟩

end Go.Proofs.YtpncohkbdaoceaaDoor
