/- The law on division. -/
import Derived.Test.YtpncohkbdaoceaaDoorBounds1
namespace Go.Proofs.YtpncohkbdaoceaaDoor
open Go.RowKit
set_option linter.unusedVariables false

theorem wrap_in {n : Int} (h : inB n) : wrap64 n = n := by obtain ⟨h1, h2⟩ := h; unfold wrap64; omega
theorem bin_mul (a b c : Int) (w : World) (ha : inB a) (hb : inB b) (hc : inB c) (e : a * b = c) :
    Calls Tryd.prog 13 #[.string ⟨#[42]⟩, .agg #[.int .i64 1, .int .i64 a, .string ⟨#[]⟩], .agg #[.int .i64 1, .int .i64 b, .string ⟨#[]⟩]] w fun e w' => e = .returned (.tuple #[.agg #[.int .i64 1, .int .i64 c, .string ⟨#[]⟩], .int .i64 0]) ∧ Below w.heap.size w w' := by
  have := bin_int ⟨#[42]⟩ a b w (by decide) (by rw [tl [42]]; unfold isOp; decide) ha hb
  rw [show intsR (⟨#[42]⟩ : ByteArray).toList a b = intR c by rw [tl [42]]; unfold intsR; rw [if_neg (by decide), if_neg (by decide), if_neg (by decide), if_pos rfl, e]; exact fit_in hc.1 hc.2] at this
  exact this
theorem bin_rem (a b c : Int) (w : World) (ha : inB a) (hb : inB b) (hc : inB c) (h0 : ¬ b = 0) (e : a.tmod b = c) :
    Calls Tryd.prog 13 #[.string ⟨#[37]⟩, .agg #[.int .i64 1, .int .i64 a, .string ⟨#[]⟩], .agg #[.int .i64 1, .int .i64 b, .string ⟨#[]⟩]] w fun e w' => e = .returned (.tuple #[.agg #[.int .i64 1, .int .i64 c, .string ⟨#[]⟩], .int .i64 0]) ∧ Below w.heap.size w w' := by
  have := bin_int ⟨#[37]⟩ a b w (by decide) (by rw [tl [37]]; unfold isOp; decide) ha hb
  rw [show intsR (⟨#[37]⟩ : ByteArray).toList a b = intR c by rw [tl [37]]; unfold intsR; rw [if_neg (by decide), if_neg (by decide), if_neg (by decide), if_neg (by decide), if_neg h0, if_pos rfl, e]; exact fit_in hc.1 hc.2] at this
  exact this
theorem bin_quo (a b c : Int) (w : World) (ha : inB a) (hb : inB b) (hc : inB c) (h0 : ¬ b = 0) (hm : a.tmod b = 0) (e : a.tdiv b = c) :
    Calls Tryd.prog 13 #[.string ⟨#[47]⟩, .agg #[.int .i64 1, .int .i64 a, .string ⟨#[]⟩], .agg #[.int .i64 1, .int .i64 b, .string ⟨#[]⟩]] w fun e w' => e = .returned (.tuple #[.agg #[.int .i64 1, .int .i64 c, .string ⟨#[]⟩], .int .i64 0]) ∧ Below w.heap.size w w' := by
  have := bin_int ⟨#[47]⟩ a b w (by decide) (by rw [tl [47]]; unfold isOp; decide) ha hb
  rw [show intsR (⟨#[47]⟩ : ByteArray).toList a b = intR c by rw [tl [47]]; unfold intsR; rw [if_neg (by decide), if_neg (by decide), if_neg (by decide), if_neg (by decide), if_neg h0, if_neg (by decide), if_pos hm, e, wrap_in hc]; exact fit_in hc.1 hc.2] at this
  exact this
theorem bin_part (a b : Int) (w : World) (ha : inB a) (hb : inB b) (h : b = 0 ∨ ¬ a.tmod b = 0) :
    Calls Tryd.prog 13 #[.string ⟨#[47]⟩, .agg #[.int .i64 1, .int .i64 a, .string ⟨#[]⟩], .agg #[.int .i64 1, .int .i64 b, .string ⟨#[]⟩]] w fun e w' => e = .returned (.tuple #[.agg #[.int .i64 0, .int .i64 0, .string ⟨#[]⟩], .int .i64 4]) ∧ Below w.heap.size w w' := by
  have := bin_int ⟨#[47]⟩ a b w (by decide) (by rw [tl [47]]; unfold isOp; decide) ha hb
  rw [show intsR (⟨#[47]⟩ : ByteArray).toList a b = zeroR 4 by
    rw [tl [47]]; unfold intsR; rw [if_neg (by decide), if_neg (by decide), if_neg (by decide), if_neg (by decide)]
    by_cases h0 : b = 0
    · rw [if_pos h0]
    · rw [if_neg h0, if_neg (by decide), if_neg (h.resolve_left h0)]] at this
  exact this
theorem inB_two {n : Int} (h1 : -60000 ≤ n) (h2 : n ≤ 60000) : inB n := ⟨by omega, by omega⟩
theorem mul_small (a b : Int) (ha1 : -15000 ≤ a) (ha2 : a ≤ 15000) (hb1 : -30001 ≤ b) (hb2 : b ≤ 30001) : inB (a * b) := by
  have h1 : a.natAbs ≤ 15000 := by omega
  have h2 : b.natAbs ≤ 30001 := by omega
  have h3 : (a * b).natAbs ≤ 15000 * 30001 := by rw [Int.natAbs_mul]; exact Nat.mul_le_mul h1 h2
  exact ⟨by omega, by omega⟩
theorem tmod_abs (a b : Int) (h0 : ¬ b = 0) : max (a.tmod b) (-(a.tmod b)) < max b (-b) := by
  have h1 : (a.tmod b).natAbs < b.natAbs := by rw [Int.natAbs_tmod]; exact Nat.mod_lt _ (by omega)
  omega

end Go.Proofs.YtpncohkbdaoceaaDoor
