/- Closed facts on the program and small laws for the frames of the tied cards. -/
import Derived.Test.YtcihmcgiokcibaaDoorRows
import Derived.WalkKit
import Derived.ProofKit
import Derived.LaidMore
import Derived.OpenShut
import Derived.ShutString
import Derived.ChangeOld
import Derived.Below
import Derived.Stop.Joined
import Derived.WalkSmall
import Derived.Lib.SmallJoins
namespace Go.Proofs.YtcihmcgiokcibaaDoor
open Go.RowKit

theorem own : ownKnob Tryd.prog.godebug = none := by kernel_rfl
theorem laidOut : laidOutB Tryd.prog = true := by kernel_rfl

/-- a slice of integers that came in: nil, or a row of cells -/
def IsRow (k : IntKind) (w : World) (a : Option Addr) (len cap : Nat) (zs : List Int) : Prop :=
  (a = none ∧ len = 0 ∧ cap = 0 ∧ zs = []) ∨
  ∃ x, a = some x ∧ len ≤ cap ∧ cap ≤ maxLen ∧ zs.length = cap ∧ (∀ i, i < zs.length → w.cell? (x.add i) = some (.int k (zs.getD i 0))) ∧ ∀ n ∈ zs, (Lit.int k n).wf = true

theorem var_heap {P : Program} {w : World} {n : String} {g : Nat} {cs : Array Value} (hg : P.globalNamed n = some g) (h : w.var? P n = some cs) : ∃ t fr, w.heap[g]? = some (.cells cs t fr) := by
  simp only [World.var?, hg, Option.bind_some] at h
  split at h
  · rename_i cs' t fr e
    simp at h
    subst h
    exact ⟨t, fr, e⟩
  · simp at h
theorem var_lt {P : Program} {w : World} {n : String} {g : Nat} {cs : Array Value} (hg : P.globalNamed n = some g) (h : w.var? P n = some cs) : g < w.heap.size := by
  obtain ⟨t, fr, e⟩ := var_heap hg h
  exact (Array.getElem?_eq_some_iff.1 e).1
theorem var_below {P : Program} {w w' : World} {n : String} {g : Nat} {cs : Array Value} (hb : Below w.heap.size w w') (hg : P.globalNamed n = some g) (hl : g < w.heap.size) (h : w.var? P n = some cs) : w'.var? P n = some cs :=
  var?_below hb hg hl h

end Go.Proofs.YtcihmcgiokcibaaDoor
