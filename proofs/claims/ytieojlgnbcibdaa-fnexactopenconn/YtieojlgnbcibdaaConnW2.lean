/- Connections measured, copied, held against each other, marked. -/
import Derived.Test.YtieojlgnbcibdaaConnW1
import Derived.Laws.Rows
namespace Go.Proofs.Ytieojlgnbcibdaa
open Go.RowKit Go.Joins
set_option linter.unusedVariables false

/-- a connection as a value: v is its row of slots -/
def cnV (c : CN) (v : Value) : Value := .agg #[.bool c.o, .bool c.e, .string c.i, v, .int .i64 c.n]
/-- what came in is not too great -/
structure SmallC (c : CN) : Prop where
  i : c.i.size ≤ 1048576
  s : c.s.length ≤ 1048576
  t : ∀ x ∈ c.s, x.t.size ≤ 1048576
  n0 : -9223372036854775808 ≤ c.n
  n1 : c.n ≤ 9223372036854775807
  q : ∀ x ∈ c.s, -9223372036854775808 ≤ x.q ∧ x.q ≤ 9223372036854775807
/-- a connection in a block -/
structure ConnIn (w : World) (b : Nat) (c : CN) (v : Value) : Prop where
  h : b < w.heap.size
  c0 : w.cell? ⟨b, 0, none⟩ = some (.bool c.o)
  c1 : w.cell? ⟨b, 1, none⟩ = some (.bool c.e)
  c2 : w.cell? ⟨b, 2, none⟩ = some (.string c.i)
  c3 : w.cell? ⟨b, 3, none⟩ = some v
  c4 : w.cell? ⟨b, 4, none⟩ = some (.int .i64 c.n)
theorem ConnIn.below {w w' : World} {B b : Nat} {c : CN} {v : Value} (h : ConnIn w b c v) (hb : Below B w w') (hB : b < B) : ConnIn w' b c v :=
  ⟨by have := hb.size; have := h.h; omega, by rw [hb.cell (p := ⟨b, 0, none⟩) hB]; exact h.c0, by rw [hb.cell (p := ⟨b, 1, none⟩) hB]; exact h.c1, by rw [hb.cell (p := ⟨b, 2, none⟩) hB]; exact h.c2, by rw [hb.cell (p := ⟨b, 3, none⟩) hB]; exact h.c3, by rw [hb.cell (p := ⟨b, 4, none⟩) hB]; exact h.c4⟩
theorem ConnIn.later {w w' : World} {b : Nat} {c : CN} {v : Value} (h : ConnIn w b c v) (hb : Below w.heap.size w w') : ConnIn w' b c v := h.below hb h.h
theorem ConnIn.new (w : World) (c : CN) (v : Value) (t : TypeId) (n : Nat) (hn : w.heap.size = n) : ConnIn (w.alloc (.cells #[.bool c.o, .bool c.e, .string c.i, v, .int .i64 c.n] t)) n c v := by
  subst hn
  exact ⟨by simp, by simp, by simp, by simp, by simp, by simp⟩


theorem heap3 (w : World) (a b c : Obj) : (((w.alloc a).alloc b).alloc c).heap[w.heap.size + 1]? = some b := by
  show (((w.heap.push a).push b).push c)[w.heap.size + 1]? = some b
  rw [Array.getElem?_push, if_neg (by simp), Array.getElem?_push, if_pos (by simp)]


set_option maxHeartbeats 2000000 in
theorem eqConn_same (c : CN) (v u : Value) (w : World) (hl : c.s.length ≤ 1048576) (hv : RowSl w v c.s) (hu : RowSl w u c.s) :
    Calls Try.prog 6 #[cnV c v, cnV c u] w fun e w' => e = .returned (.bool true) ∧ Below w.heap.size w w' := by
  obtain ⟨a, cap, rfl, ha⟩ := hv.slice
  obtain ⟨a', cap', rfl, ha'⟩ := hu.slice
  have HC := hide (fun (w' : World) (hb : Below w.heap.size w w') => eqSlotS_same a a' c.s cap cap' w' hl (ha.later hb) (ha'.later hb))
  obtain ⟨o, e, i, s, n⟩ := c
  dsimp only [cnV] at *
  clear ha ha' hv hu
  go_enter Try.func6, Try.ntmps6
  go_wp2_with fail
  refine (unhide HC _ (qx_al (qx_alloc _ _))).mono ?_
  rintro ex w1 ⟨rfl, hb1⟩
  obtain ⟨hc1, hf1⟩ := qcell hb1
  have hz1 := hb1.size
  simp at hz1
  have d1 : w.heap.size < w1.heap.size := by omega
  have d2 : w.heap.size + 1 < w1.heap.size := by omega
  go_wp2
  go_ret
  exact ⟨rfl, qx_trans (qx_al (qx_alloc _ _)) hb1⟩

set_option maxHeartbeats 1000000 in
theorem markConn_any (base : Nat) (c : CN) (v : Value) (w : World) (hown : SlBuf w base v c.s) (hbase : base ≤ w.heap.size) (hl : c.s.length ≤ 1048576) :
    Calls Try.prog 7 #[cnV c v, .int .i64 1] w fun e w' => e = .returned (.int .i64 (1 + 3 * (c.s.length : Int))) ∧ SlBuf w' base v (kmarkL c.s.length) ∧ Below base w w' := by
  have HC := hide (fun o => markSlotS_any base v c.s (w.alloc o) (hown.later (qx_alloc _ _)) (by simp; omega) hl)
  obtain ⟨a, cap, rfl⟩ := hown.slice
  obtain ⟨o, e, i, s, n⟩ := c
  dsimp only [cnV] at *
  clear hown
  go_enter Try.func7, Try.ntmps7
  go_wp2_with fail
  refine (unhide HC _).mono ?_
  rintro ex w1 ⟨rfl, hbuf, hb1⟩
  have HB := hide hbuf
  clear hbuf
  go_wp2
  go_ret
  exact ⟨rfl, unhide HB, ((Below.refl _ _).alloc hbase _).trans hb1⟩

set_option maxHeartbeats 1000000 in
theorem heldConn_any (base : Nat) (c : CN) (k : Nat) (v : Value) (w : World) (hown : SlBuf w base v (kmarkL k)) (hl : k ≤ 1048576) :
    Calls Try.prog 8 #[cnV c v, .int .i64 1] w fun e w' => e = .returned (.int .i64 (1 + 3 * (k : Int))) ∧ Below w.heap.size w w' := by
  have HC := hide (fun o => heldSlotS_any base v k (w.alloc o) (hown.later (qx_alloc _ _)) hl)
  obtain ⟨a, cap, rfl⟩ := hown.slice
  rw [kmarkL_len] at *
  obtain ⟨o, e, i, s, n⟩ := c
  dsimp only [cnV] at *
  clear hown
  go_enter Try.func8, Try.ntmps8
  go_wp2_with fail
  refine (unhide HC _).mono ?_
  rintro ex w1 ⟨rfl, hb1⟩
  go_wp2
  go_ret
  exact ⟨rfl, qx_trans (qx_alloc _ _) hb1⟩

end Go.Proofs.Ytieojlgnbcibdaa
