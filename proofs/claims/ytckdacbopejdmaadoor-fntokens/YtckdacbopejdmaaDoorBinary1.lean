/- Operations with two operands, their parts: on texts and on numbers. -/
import Derived.Test.YtckdacbopejdmaaDoorUnary2
namespace Go.Proofs.YtckdacbopejdmaaDoor
open Go.RowKit
set_option linter.unusedVariables false

def intsR (l : List UInt8) (a b : Int) : Res :=
  if l = [60] then boolR (decide (a < b))
  else if l = [43] then fitR (a + b)
  else if l = [45] then fitR (a - b)
  else if l = [42] then fitR (a * b)
  else if b = 0 then zeroR 4
  else if l = [37] then fitR (a.tmod b)
  else if a.tmod b = 0 then fitR (wrap64 (a.tdiv b))
  else zeroR 4
def textsR (l : List UInt8) (s t : ByteArray) : Res :=
  if l = [60] then boolR (Op.bytesLess s.toList t.toList)
  else if 60 < s.size + t.size then zeroR 10
  else textR (s ++ t)
def eqV (ka na : Int) (ta : ByteArray) (kb nb : Int) (tb : ByteArray) : Bool := (ka == kb) && (na == nb) && (ta.toList == tb.toList)
def isOp (l : List UInt8) : Prop := l = [60] ∨ l = [43] ∨ l = [45] ∨ l = [42] ∨ l = [47] ∨ l = [37]
def binR (l : List UInt8) (ka na : Int) (ta : ByteArray) (kb nb : Int) (tb : ByteArray) : Res :=
  if 65536 < l.length then zeroR 2
  else if vokB ka na ta = false then zeroR 1
  else if vokB kb nb tb = false then zeroR 1
  else if l = [61, 61] then boolR (eqV ka na ta kb nb tb)
  else if (l = [60] ∨ l = [43]) ∧ ka = 3 ∧ kb = 3 then textsR l ta tb
  else if l = [60] ∨ l = [43] ∨ l = [45] ∨ l = [42] ∨ l = [47] ∨ l = [37] then (if ka = 1 ∧ kb = 1 then intsR l na nb else zeroR 8)
  else zeroR 3

theorem mul_lo (a b : Int) (ha1 : -2147483648 ≤ a) (ha2 : a ≤ 2147483647) (hb1 : -2147483648 ≤ b) (hb2 : b ≤ 2147483647) : -4611686018427387904 ≤ a * b ∧ a * b ≤ 4611686018427387904 := by
  have h1 : a.natAbs ≤ 2147483648 := by omega
  have h2 : b.natAbs ≤ 2147483648 := by omega
  have h3 : (a * b).natAbs ≤ 2147483648 * 2147483648 := by rw [Int.natAbs_mul]; exact Nat.mul_le_mul h1 h2
  omega
theorem tmod_bd (a b : Int) (ha1 : -2147483648 ≤ a) (ha2 : a ≤ 2147483647) : -2147483648 ≤ a.tmod b ∧ a.tmod b ≤ 2147483647 := by
  rcases Int.le_total 0 a with h | h
  · have h1 := Int.tmod_nonneg b h
    have h2 : (a.tmod b).natAbs ≤ a.natAbs := by rw [Int.natAbs_tmod]; exact Nat.mod_le _ _
    omega
  · have h2 : (a.tmod b).natAbs ≤ a.natAbs := by rw [Int.natAbs_tmod]; exact Nat.mod_le _ _
    have h3 : a.tmod b ≤ 0 := by
      have := Int.tmod_nonneg b (show 0 ≤ -a by omega)
      rw [Int.neg_tmod] at this
      omega
    omega

theorem l01Text_any (t : ByteArray) (w : World) :
    Calls Tryd.prog 66 #[.string t] w fun e w' => e = .returned (.agg #[.int .i64 3, .int .i64 0, .string t]) ∧ Below w.heap.size w w' := by
  go_enter Tryd.func66, Tryd.ntmps66
  go_wp2
  exact bodyPost_ret (v := .agg #[.int .i64 3, .int .i64 0, .string t]) (by simp [results, Tryd.results66, go_sem]) rfl ⟨rfl, nx_alloc _ _⟩
theorem textValue_agg (t : ByteArray) (w : World) :
    Calls Tryd.prog 47 #[.string t] w fun e w' => e = .returned (.agg #[.int .i64 3, .int .i64 0, .string t]) ∧ Below w.heap.size w w' := textValue_any t w

end Go.Proofs.YtckdacbopejdmaaDoor
