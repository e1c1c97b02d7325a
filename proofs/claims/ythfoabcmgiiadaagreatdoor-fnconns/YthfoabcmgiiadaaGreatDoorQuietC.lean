/- A region that draws its order, whose own operations read and whose callees make new memory alone: one walk, in the order of the text, in the class of the worlds that are later than a given one. -/
import Derived.Test.YthfoabcmgiiadaaGreatDoorWireMem
import Derived.BigQuiet
import Derived.Deep.QuietTactic
namespace Go.Proofs.YthfoabcmgiiadaaGreatDoor
open Go.RowKit
set_option linter.unusedVariables false

/-- a world in which all that was there is as it was -/
def LaterW (W : World) : Type := { x : World // Below W.heap.size W x }
def LaterW.w {W : World} (n : LaterW W) : World := n.1
theorem LaterW.b {W : World} (n : LaterW W) : Below W.heap.size W n.w := n.2
theorem LaterW.some (W : World) : Nonempty (LaterW W) := ⟨⟨W, Below.refl _ _⟩⟩
theorem wp_region_later {P : Program} {id : Nat} {Q : Exit → Act → World → Prop} {a : Act} {w : World} {l : List Oper} (hm : P.follows .mixedOrders = true) (hB : Region.lexB .any l.toArray = true)
    (h : wpQuiet P l.toArray (fun x => ∃ n : LaterW w, x = n.w) (fun a' => ∀ x, (∃ n : LaterW w, x = n.w) → Q .normal a' x) l a) : (Code.region id l.toArray true).wp P Q a w :=
  wp_region_quiet (C := fun x => ∃ n : LaterW w, x = n.w) hm hB ⟨⟨w.drew, qx_drew (Below.refl _ _)⟩, rfl⟩ (by simpa using h)
theorem Calls.later {P : Program} {f : FuncId} {args : Array Value} {W : World} {n : LaterW W} {v : Value}
    (h : Calls P f args n.w fun e w' => e = .returned v ∧ Below n.w.heap.size n.w w') : Calls P f args n.w fun e w'' => e = .returned v ∧ ∃ m : LaterW W, w'' = m.w :=
  h.mono fun _ w' ⟨he, hb⟩ => ⟨he, ⟨w', qx_trans n.b hb⟩, rfl⟩
theorem later_all {W : World} {p : World → Prop} (h : ∀ y, Below W.heap.size W y → p y) : ∀ x, (∃ n : LaterW W, x = n.w) → p x := fun x ⟨n, e⟩ => e ▸ h n.w n.b

end Go.Proofs.YthfoabcmgiiadaaGreatDoor
