/- Connections measured, copied, held against each other, marked. -/
import Derived.Test.YthfoabcmgiiadaaGreatDoorConnW1
import Derived.Laws.Rows
namespace Go.Proofs.YthfoabcmgiiadaaGreatDoor
open Go.RowKit Go.Joins
set_option linter.unusedVariables false

/-- a connection as a value: v is its row of slots -/
def cnV (c : CN) (v : Value) : Value := .agg #[.bool c.o, .bool c.e, .string c.i, v, .int .i64 c.n]
/-- what came in is not too great -/
structure SmallC (c : CN) : Prop where
  i : c.i.size ≤ 1048576
  s : c.s.length ≤ 1048576
  t : ∀ x ∈ c.s, x.t.size ≤ 1048576
  n0 : -9223372036854775808 ≤ c.n
  n1 : c.n ≤ 9223372036854775807
  q : ∀ x ∈ c.s, -9223372036854775808 ≤ x.q ∧ x.q ≤ 9223372036854775807
/-- a connection in a block -/
structure ConnIn (w : World) (b : Nat) (c : CN) (v : Value) : Prop where
  h : b < w.heap.size
  c0 : w.cell? ⟨b, 0, none⟩ = some (.bool c.o)
  c1 : w.cell? ⟨b, 1, none⟩ = some (.bool c.e)
  c2 : w.cell? ⟨b, 2, none⟩ = some (.string c.i)
  c3 : w.cell? ⟨b, 3, none⟩ = some v
  c4 : w.cell? ⟨b, 4, none⟩ = some (.int .i64 c.n)
theorem ConnIn.below {w w' : World} {B b : Nat} {c : CN} {v : Value} (h : ConnIn w b c v) (hb : Below B w w') (hB : b < B) : ConnIn w' b c v :=
  ⟨by have := hb.size; have := h.h; omega, by rw [hb.cell (p := ⟨b, 0, none⟩) hB]; exact h.c0, by rw [hb.cell (p := ⟨b, 1, none⟩) hB]; exact h.c1, by rw [hb.cell (p := ⟨b, 2, none⟩) hB]; exact h.c2, by rw [hb.cell (p := ⟨b, 3, none⟩) hB]; exact h.c3, by rw [hb.cell (p := ⟨b, 4, none⟩) hB]; exact h.c4⟩
theorem ConnIn.later {w w' : World} {b : Nat} {c : CN} {v : Value} (h : ConnIn w b c v) (hb : Below w.heap.size w w') : ConnIn w' b c v := h.below hb h.h
theorem ConnIn.new (w : World) (c : CN) (v : Value) (t : TypeId) (n : Nat) (hn : w.heap.size = n) : ConnIn (w.alloc (.cells #[.bool c.o, .bool c.e, .string c.i, v, .int .i64 c.n] t)) n c v := by
  subst hn
  exact ⟨by simp, by simp, by simp, by simp, by simp, by simp⟩


theorem heap3 (w : World) (a b c : Obj) : (((w.alloc a).alloc b).alloc c).heap[w.heap.size + 1]? = some b := by
  show (((w.heap.push a).push b).push c)[w.heap.size + 1]? = some b
  rw [Array.getElem?_push, if_neg (by simp), Array.getElem?_push, if_pos (by simp)]





end Go.Proofs.YthfoabcmgiiadaaGreatDoor
