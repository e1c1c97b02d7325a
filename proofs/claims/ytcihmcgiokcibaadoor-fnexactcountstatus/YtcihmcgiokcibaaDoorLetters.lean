/- The tests of letters and digits, of the code and of the specification: each answers what the plain function 'letB' or 'digB' says, and leaves the world as it was. -/
import Derived.Test.YtcihmcgiokcibaaDoorRows
import Derived.WalkKit
import Derived.WalkSpells
import Derived.WalkLawsBesides
namespace Go.Proofs.YtcihmcgiokcibaaDoor
open Go.RowKit

/-- a letter, by its number -/
def letB (c : Int) : Bool := (decide (97 ≤ c) && decide (c ≤ 122)) || (decide (65 ≤ c) && decide (c ≤ 90)) || decide (c = 95)
/-- a digit, by its number -/
def digB (c : Int) : Bool := decide (48 ≤ c) && decide (c ≤ 57)

/-- a fact kept from the walk's rewriting -/
theorem hide {p : Prop} (h : p) : Hid p := h
theorem unhide {p : Prop} (h : Hid p) : p := h
theorem ret_bool {a b : Bool} (h : a = b) : Ending.returned (.bool a) = .returned (.bool b) := by rw [h]





end Go.Proofs.YtcihmcgiokcibaaDoor
