/- Slots and connections measured, copied, held against each other, marked: the law's helpers. -/
import Derived.Test.YthfoabcmgiiadaaGreatDoorConnMem
import Derived.Deep.RegionHeld3
namespace Go.Proofs.YthfoabcmgiiadaaGreatDoor
open Go.RowKit Go.Joins
set_option linter.unusedVariables false





/-- the row that is made, filled up to k -/
def SFilled (w : World) (g : Nat) (vs : List SL) (k : Nat) : Prop := ∃ cs : Array Value, w.heap[g]? = some (.cells cs 66 (0, 0)) ∧ cs.size = vs.length * 3 ∧ ∀ i (h : i < vs.length), i < k → cs[i * 3]? = some (.int .i64 vs[i].q) ∧ cs[i * 3 + 1]? = some (.bool vs[i].r) ∧ cs[i * 3 + 2]? = some (.string vs[i].t)
theorem SFilled.later {w w' : World} {g : Nat} {vs : List SL} {k : Nat} (h : SFilled w g vs k) (hb : Below w.heap.size w w') (hg : g < w.heap.size) : SFilled w' g vs k := by
  obtain ⟨cs, h1, h2, h3⟩ := h
  exact ⟨cs, by rw [hb.block g hg]; exact h1, h2, h3⟩
theorem SFilled.cells {w : World} {g : Nat} {vs : List SL} {k : Nat} (h : SFilled w g vs k) (i : Nat) (hi : i < vs.length * 3) : ∃ v, w.cell? ⟨g, i, none⟩ = some v := by
  obtain ⟨cs, h1, h2, h3⟩ := h
  refine ⟨cs[i]'(by omega), ?_⟩
  rw [cell_of_block h1 i, Array.getElem?_eq_getElem (by omega)]
theorem SFilled.free {w : World} {g : Nat} {vs : List SL} {k : Nat} (h : SFilled w g vs k) (i : Nat) : w.frozen? ⟨g, i, none⟩ = false := by
  obtain ⟨cs, h1, h2, h3⟩ := h
  exact unfrozen_of_block h1 i
theorem SFilled.set {w : World} {g : Nat} {vs : List SL} {k : Nat} (h : SFilled w g vs k) (hk : k < vs.length) :
    SFilled (((w.setCell ⟨g, k * 3, none⟩ (.int .i64 vs[k].q)).setCell ⟨g, k * 3 + 1, none⟩ (.bool vs[k].r)).setCell ⟨g, k * 3 + 2, none⟩ (.string vs[k].t)) g vs (k + 1) := by
  obtain ⟨cs, h1, h2, h3⟩ := h
  refine ⟨_, block_setCell (block_setCell (block_setCell h1 _) _) _, by simp [h2], fun i hi hik => ?_⟩
  by_cases e : i = k
  · subst e
    refine ⟨?_, ?_, ?_⟩
    all_goals simp [Array.getElem?_setIfInBounds, h2]
    all_goals omega
  · obtain ⟨c0, c1, c2⟩ := h3 i hi (by omega)
    refine ⟨?_, ?_, ?_⟩
    · rw [Array.getElem?_setIfInBounds_ne (by omega), Array.getElem?_setIfInBounds_ne (by omega), Array.getElem?_setIfInBounds_ne (by omega), c0]
    · rw [Array.getElem?_setIfInBounds_ne (by omega), Array.getElem?_setIfInBounds_ne (by omega), Array.getElem?_setIfInBounds_ne (by omega), c1]
    · rw [Array.getElem?_setIfInBounds_ne (by omega), Array.getElem?_setIfInBounds_ne (by omega), Array.getElem?_setIfInBounds_ne (by omega), c2]
theorem SFilled.buf {w : World} {g base : Nat} {vs : List SL} (h : SFilled w g vs vs.length) (hg : base ≤ g) (hl : vs.length ≤ 1048576) : SlBuf w base (.slice (some ⟨g, 0, none⟩) vs.length vs.length) vs := by
  obtain ⟨cs, h1, h2, h3⟩ := h
  refine ⟨slCells_len vs, .inr ⟨g, vs.length, cs, rfl, hg, h1, Nat.le_refl _, by unfold maxLen; omega, h2, ?_⟩⟩
  rw [List.take_of_length_le (by rw [Array.length_toList]; omega)]
  apply List.ext_getElem?
  intro j
  by_cases hj : j < vs.length * 3
  · have hi : j / 3 < vs.length := by omega
    obtain ⟨c0, c1, c2⟩ := h3 (j / 3) hi hi
    obtain ⟨g0, g1, g2⟩ := slCells_get vs (j / 3) hi
    rw [Array.getElem?_toList]
    obtain h | h | h : j % 3 = 0 ∨ j % 3 = 1 ∨ j % 3 = 2 := by omega
    · rw [show j = j / 3 * 3 by omega, g0, c0]
    · rw [show j = j / 3 * 3 + 1 by omega, g1, c1]
    · rw [show j = j / 3 * 3 + 2 by omega, g2, c2]
  · rw [List.getElem?_eq_none (by rw [Array.length_toList]; omega), List.getElem?_eq_none (by rw [slCells_len]; omega)]

set_option maxRecDepth 100000 in
theorem smade3 (n : Nat) (w : World) (hn : n ≤ 1048576) : (Instr.makeSlice 23 (.int .i64 (n : Int)) (.int .i64 (n : Int))).run Tryz.prog w = .ok (.slice (some ⟨w.heap.size, 0, none⟩) n n) (w.alloc (.cells (madeCells #[.int .i64 0, .bool false, .string ⟨#[]⟩] (n * 3)) 66)) := by
  have h := run_make (P := Tryz.prog) w 23 66 _ (.agg #[.int .i64 0, .bool false, .string ⟨#[]⟩]) Tryz.underlying23 rfl rfl .i64 .i64 (n : Int) (n : Int) (by omega) (Int.le_refl _) (by show (32 : Int) * (n : Int) ≤ 281474976710656; omega) (by omega)
  simp only [Int.toNat_natCast] at h
  exact h






end Go.Proofs.YthfoabcmgiiadaaGreatDoor
