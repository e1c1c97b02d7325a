/- The specification's reading of a request. -/
import Derived.Test.YteliakbopldceaaGreatDoorWireW5
import Derived.Test.YteliakbopldceaaGreatDoorWireL3
import Derived.Lib.SmallJoins
namespace Go.Proofs.YteliakbopldceaaGreatDoor
open Go.RowKit Go.Shelf Go.Joins
set_option linter.unusedVariables false

/-- an answer of a read -/
def rrV (r : RR) : Value := .tuple #[.agg #[.string r.p, .bool r.c], .int .i64 r.n, .int .i64 r.e]

/-- a request of one's own in two cells -/
def ReqAt (w : World) (b : Nat) (p : ByteArray) (c : Bool) : Prop := w.cell? ⟨b, 0, none⟩ = some (.string p) ∧ w.cell? ⟨b, 1, none⟩ = some (.bool c) ∧ w.frozen? ⟨b, 0, none⟩ = false ∧ w.frozen? ⟨b, 1, none⟩ = false ∧ b < w.heap.size
theorem ReqAt.later {w w' : World} {b : Nat} {p : ByteArray} {c : Bool} (h : ReqAt w b p c) (hb : Below w.heap.size w w') : ReqAt w' b p c := by
  obtain ⟨h0, h1, h2, h3, h4⟩ := h
  exact ⟨cell_later hb h0, cell_later hb h1, by rw [(qcell hb).2 _ _ h4]; exact h2, by rw [(qcell hb).2 _ _ h4]; exact h3, Nat.lt_of_lt_of_le h4 hb.size⟩

theorem ReqAt.below {w w' : World} {B b : Nat} {p : ByteArray} {c : Bool} (h : ReqAt w b p c) (hb : Below B w w') (hB : b < B) : ReqAt w' b p c := by
  obtain ⟨h0, h1, h2, h3, h4⟩ := h
  exact ⟨by rw [hb.cell (p := ⟨b, 0, none⟩) hB]; exact h0, by rw [hb.cell (p := ⟨b, 1, none⟩) hB]; exact h1, by rw [hb.frozen (p := ⟨b, 0, none⟩) hB]; exact h2, by rw [hb.frozen (p := ⟨b, 1, none⟩) hB]; exact h3, Nat.lt_of_lt_of_le h4 hb.size⟩
theorem ReqAt.new (w : World) (p : ByteArray) (c : Bool) (n : Nat) (hn : w.heap.size = n) (t : TypeId) : ReqAt (w.alloc (.cells #[.string p, .bool c] t)) n p c := by
  subst hn
  refine ⟨by simp, by simp, ?_, ?_, by simp⟩
  · exact unfrozen_of_block (g := w.heap.size) (cs := #[.string p, .bool c]) (t := t) (by show (w.heap.push _)[w.heap.size]? = _; simp) 0
  · exact unfrozen_of_block (g := w.heap.size) (cs := #[.string p, .bool c]) (t := t) (by show (w.heap.push _)[w.heap.size]? = _; simp) 1
theorem ReqAt.shut {w : World} {b : Nat} {p : ByteArray} {c : Bool} (h : ReqAt w b p c) : ReqAt (w.setCell ⟨b, 1, none⟩ (.bool true)) b p true := by
  obtain ⟨h0, h1, h2, h3, h4⟩ := h
  refine ⟨?_, World.cell?_setCell_same _ _ _ h1, ?_, ?_, by simpa using h4⟩
  · rw [World.cell?_setCell_other _ _ _ _ (by simp)]; exact h0
  · simpa using h2
  · simpa using h3

theorem req_text {N : ByteArray} {L : List UInt8} (h : N = ⟨L.toArray⟩) : N.toList = L ∧ (N.toList == L) = true ∧ (N.toList != L) = false := by
  subst h
  rw [ByteArray.toList_eq]
  simp


end Go.Proofs.YteliakbopldceaaGreatDoor
