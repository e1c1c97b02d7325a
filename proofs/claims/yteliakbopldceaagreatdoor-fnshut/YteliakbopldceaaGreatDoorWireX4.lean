/- Requests that are drawn are read back: the law. -/
import Derived.Test.YteliakbopldceaaGreatDoorWireX2
import Derived.Test.YteliakbopldceaaGreatDoorWireX3
import Derived.Test.YteliakbopldceaaGreatDoorWireP
import Derived.Test.YteliakbopldceaaGreatDoorSrcWalk
import Derived.Test.YteliakbopldceaaGreatDoorAtWalk
import Derived.Test.YteliakbopldceaaGreatDoorRowOf
namespace Go.Proofs.YteliakbopldceaaGreatDoor
open Go.RowKit Go.Shelf Go.Joins
set_option linter.unusedVariables false

theorem row_blockW {w : World} {a : Option Addr} {len : Nat} (h : ByteRow w a len) (h0 : 0 < len) : ∀ x, a = some x → x.block < w.heap.size := fun x hx => by
  obtain ⟨b, off, c, h1, h2, _⟩ := h 0 h0
  rw [h1] at hx
  cases hx
  exact World.block_lt_of_cell? _ _ h2

theorem only_trans_below {B g : Nat} {w w1 w2 : World} (h : Below B w w1) (ho : OnlyAt g w1 w2) (hB : B ≤ g) : Below B w w2 := h.trans (only_below ho hB)
theorem SrcAt.other {w w' : World} {g : Nat} {a : Option Addr} {len cap : Nat} {n seed : Int} (h : SrcAt w g a len cap n seed) (hb : Below w.heap.size w w') (hg : g < w.heap.size) : SrcAt w' g a len cap n seed := by
  obtain ⟨hc, hf⟩ := qcell hb
  exact ⟨by rw [hc g 0 hg]; exact h.c0, by rw [hc g 1 hg]; exact h.c1, by rw [hc g 2 hg]; exact h.c2, by rw [hf g 1 hg]; exact h.z1, by rw [hf g 2 hg]; exact h.z2, h.s0, h.s1, h.a0, h.a1⟩



end Go.Proofs.YteliakbopldceaaGreatDoor
