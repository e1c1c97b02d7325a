/-
  No cell of these rows narrows 'for every input' (looked for: loops, veiled, ifaces, maps, wideKeys, modest, calm, conditions, laid).
  DERIVED. THE GIVEN ROWS OF THIS SEAT. 3 by the template 'for every input the law returns true; each argument reads behind the call as it read before'; 0 by the template 'total and deterministic' (their statements: YtacklokojchopaaTotals.lean).
  GIVEN WITH THE SEED: the statements are not yours to turn. If you find one false, say at which input.
  Laid BY PROGRAM, IN A SANDBOX (cutbox-rows.mjs): the forced cells as the released guide's own fill.sh prints them over the translation 63fab8fb2a9a1e9c… (all of the seat's roots in one cut). By AI agents, Wed Nov 11 2026. No macro, syntax, notation, axiom, sorry.
-/
import Derived.Test.YtacklokojchopaaChecked
import GoSem.Claim
import GoSem.ClaimJoined
import GoSem.ClaimMapViews
import Derived.JoinedTies
import Derived.KernelRfl
namespace Go.Proofs.Ytacklokojchopaa
/- THE CELL 'sum', in the pinned program and in every row, IS THE sha256 OF THE DUMP (.gsa) THAT YtacklokojchopaaProg.lean LOADS. Nothing in Lean hashes anything: it is a label: what it is worth is what the hold of that sum in a sandbox is worth. -/
noncomputable def Try.pinned : Pinned := { name := "ytacklokojchopaa", sum := "63fab8fb2a9a1e9c537fa7d0b78af09b5d3aed416ff0e4167eca02c5edb5c35f", checked := Try.checked }
namespace Rows
def none {H : Type} : Left H := { results := [], args := [] }

/-- 'laws.FnExactRequestText': WHATEVER THE INPUT: true; the input reads as it did. -/
def fnExactRequestTextSpec : ChangeSpec := { name := "fnExactRequestText", fn := fun _ => fun
  | [d] => { results := [.lit (.bool true)], args := [d] }
  | _ => none }
def fnExactRequestTextRow : OpenClaim := { program := "ytacklokojchopaa", sum := "63fab8fb2a9a1e9c537fa7d0b78af09b5d3aed416ff0e4167eca02c5edb5c35f", func := "loop.example/g00370/laws.FnExactRequestText", spec := "fnExactRequestText", inPlace := ["internal/abi.NoEscape", "internal/bytealg.MakeNoZero"], apart := false }
def FnExactRequestTextSaid : Prop := fnExactRequestTextRow.holds Try.pinned (OpenSpec.ofChange fnExactRequestTextSpec)

/-- ITS FALSE NEIGHBOUR: 'it returns false'. Refute it at one input. -/
def fnExactRequestTextWrong : ChangeSpec := { name := "fnExactRequestText", fn := fun _ => fun
  | [d] => { results := [.lit (.bool false)], args := [d] }
  | _ => none }
def FnExactRequestTextWrongFalsely : Prop := fnExactRequestTextRow.holds Try.pinned (OpenSpec.ofChange fnExactRequestTextWrong)

/-- 'laws.FnExactStatusWord': WHATEVER THE INPUT: true; the input reads as it did. -/
def fnExactStatusWordSpec : ChangeSpec := { name := "fnExactStatusWord", fn := fun _ => fun
  | [d] => { results := [.lit (.bool true)], args := [d] }
  | _ => none }
def fnExactStatusWordRow : OpenClaim := { program := "ytacklokojchopaa", sum := "63fab8fb2a9a1e9c537fa7d0b78af09b5d3aed416ff0e4167eca02c5edb5c35f", func := "loop.example/g00370/laws.FnExactStatusWord", spec := "fnExactStatusWord", apart := false }
def FnExactStatusWordSaid : Prop := fnExactStatusWordRow.holds Try.pinned (OpenSpec.ofChange fnExactStatusWordSpec)

/-- ITS FALSE NEIGHBOUR: 'it returns false'. Refute it at one input. -/
def fnExactStatusWordWrong : ChangeSpec := { name := "fnExactStatusWord", fn := fun _ => fun
  | [d] => { results := [.lit (.bool false)], args := [d] }
  | _ => none }
def FnExactStatusWordWrongFalsely : Prop := fnExactStatusWordRow.holds Try.pinned (OpenSpec.ofChange fnExactStatusWordWrong)

/-- 'laws.FnExactSplitPath': WHATEVER THE INPUT: true; the input reads as it did. -/
def fnExactSplitPathSpec : ChangeSpec := { name := "fnExactSplitPath", fn := fun _ => fun
  | [d] => { results := [.lit (.bool true)], args := [d] }
  | _ => none }
def fnExactSplitPathRow : OpenClaim := { program := "ytacklokojchopaa", sum := "63fab8fb2a9a1e9c537fa7d0b78af09b5d3aed416ff0e4167eca02c5edb5c35f", func := "loop.example/g00370/laws.FnExactSplitPath", spec := "fnExactSplitPath", inPlace := ["internal/bytealg.IndexByteString", "internal/bytealg.IndexString"], named := ["internal/bytealg.MaxLen"], apart := false }
def FnExactSplitPathSaid : Prop := fnExactSplitPathRow.holds Try.pinned (OpenSpec.ofChange fnExactSplitPathSpec)

/-- ITS FALSE NEIGHBOUR: 'it returns false'. Refute it at one input. -/
def fnExactSplitPathWrong : ChangeSpec := { name := "fnExactSplitPath", fn := fun _ => fun
  | [d] => { results := [.lit (.bool false)], args := [d] }
  | _ => none }
def FnExactSplitPathWrongFalsely : Prop := fnExactSplitPathRow.holds Try.pinned (OpenSpec.ofChange fnExactSplitPathWrong)

/- THE SECOND FORM. 'bulk': how many values and letters a reading holds, each counted each time it is reached (what is shared counts as often as it is met; a slice's spare places count too). A statement '..UptoSaid' is the law's where the arguments, and the package variables that the reading takes, are together of bulk at most 1048576: NARROWER than '..Said'. Prove '..Said' where nothing that the law and all that it calls make is longer than what came in: it says more and counts as full. Else prove '..UptoSaid'. A law counts once. -/
mutual
def uptoBulk {H : Type} : DataW H → Nat
  | .lit (.string bytes) => bytes.length + 1
  | .lit _ => 1
  | .nil => 1
  | .ptr d => uptoBulk d + 1
  | .slice elems spare => uptoBulkAll elems + uptoBulkAll spare + 1
  | .agg parts => uptoBulkAll parts + 1
  | .iface _ d => uptoBulk d + 1
  | .map entries => uptoBulkEntries entries + 1
  | .held _ => 1
def uptoBulkAll {H : Type} : List (DataW H) → Nat
  | [] => 0
  | d :: r => uptoBulk d + uptoBulkAll r
def uptoBulkEntries {H : Type} : List (Lit × DataW H) → Nat
  | [] => 0
  | x :: r => uptoBulkEntry x + uptoBulkEntries r
def uptoBulkEntry {H : Type} : Lit × DataW H → Nat
  | (.string bytes, d) => bytes.length + uptoBulk d + 1
  | (_, d) => uptoBulk d + 1
 end
def uptoSmall : (H : Type) → List (DataW H) → Bool := fun _ ds => decide (uptoBulkAll ds ≤ 1048576)
def OpenSpec.upto (s : _root_.Go.ChangeSpec) : _root_.Go.OpenSpec := { _root_.Go.OpenSpec.ofChange s with cond := some uptoSmall }

/-- 'laws.FnExactRequestText', WHERE WHAT IT READS IS OF BULK AT MOST 1048576: true; the input reads as it did. -/
def fnExactRequestTextUptoRow : OpenClaim := { program := "ytacklokojchopaa", sum := "63fab8fb2a9a1e9c537fa7d0b78af09b5d3aed416ff0e4167eca02c5edb5c35f", func := "loop.example/g00370/laws.FnExactRequestText", spec := "fnExactRequestText", inPlace := ["internal/abi.NoEscape", "internal/bytealg.MakeNoZero"], apart := false, narrowed := true }
def FnExactRequestTextUptoSaid : Prop := fnExactRequestTextUptoRow.holds Try.pinned (OpenSpec.upto fnExactRequestTextSpec)

/-- 'laws.FnExactStatusWord', WHERE WHAT IT READS IS OF BULK AT MOST 1048576: true; the input reads as it did. -/
def fnExactStatusWordUptoRow : OpenClaim := { program := "ytacklokojchopaa", sum := "63fab8fb2a9a1e9c537fa7d0b78af09b5d3aed416ff0e4167eca02c5edb5c35f", func := "loop.example/g00370/laws.FnExactStatusWord", spec := "fnExactStatusWord", apart := false, narrowed := true }
def FnExactStatusWordUptoSaid : Prop := fnExactStatusWordUptoRow.holds Try.pinned (OpenSpec.upto fnExactStatusWordSpec)

/-- 'laws.FnExactSplitPath', WHERE WHAT IT READS IS OF BULK AT MOST 1048576: true; the input reads as it did. -/
def fnExactSplitPathUptoRow : OpenClaim := { program := "ytacklokojchopaa", sum := "63fab8fb2a9a1e9c537fa7d0b78af09b5d3aed416ff0e4167eca02c5edb5c35f", func := "loop.example/g00370/laws.FnExactSplitPath", spec := "fnExactSplitPath", inPlace := ["internal/bytealg.IndexByteString", "internal/bytealg.IndexString"], named := ["internal/bytealg.MaxLen"], apart := false, narrowed := true }
def FnExactSplitPathUptoSaid : Prop := fnExactSplitPathUptoRow.holds Try.pinned (OpenSpec.upto fnExactSplitPathSpec)

end Rows
end Go.Proofs.Ytacklokojchopaa
