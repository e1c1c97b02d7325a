/-
  NARROWER THAN 'FOR EVERY INPUT', by the rows' own cells (each row's printed sentence says how): FnTree: laid · FnExactTreeOK: laid · FnExactTreeText: laid · FnExactTreeDepth: laid · FnExactCountKind: laid · FnExactParentOf: laid · FnExactSizeOf: laid · FnExactPathTo: laid · FnExactFuncsOf: laid · FnExactScopeAt: laid · FnExactUsesOf: laid · FnExactCallsOf: laid · FnExactComes: laid.
  DERIVED. THE GIVEN ROWS OF THIS SEAT. 13 by the template 'for every input the law returns true; each argument reads behind the call as it read before'; 0 by the template 'total and deterministic' (their statements: YtbipgmikgokfpaaDoorTotals.lean).
  GIVEN WITH THE SEED: the statements are not yours to turn. If you find one false, say at which input.
  Laid BY PROGRAM, IN A SANDBOX (cutbox-rows.mjs): the forced cells as the released guide's own fill.sh prints them over the translation 3c1b14ccfe1b689d… (all of the seat's roots in one cut). By AI agents, Wed Nov 11 2026. No macro, syntax, notation, axiom, sorry.
-/
import Derived.Test.YtbipgmikgokfpaaDoorChecked
import GoSem.Claim
import GoSem.ClaimJoined
import GoSem.ClaimMapViews
import Derived.JoinedTies
import Derived.KernelRfl
namespace Go.Proofs.YtbipgmikgokfpaaDoor
/- THE CELL 'sum', in the pinned program and in every row, IS THE sha256 OF THE DUMP (.gsa) THAT YtbipgmikgokfpaaDoorProg.lean LOADS. Nothing in Lean hashes anything: it is a label: what it is worth is what the hold of that sum in a sandbox is worth. -/
noncomputable def Tryd.pinned : Pinned := { name := "ytbipgmikgokfpaadoor", sum := "3c1b14ccfe1b689d3c8546b71e00ce2d2c1baff631c06678b710e97d07590b46", checked := Tryd.checked }
namespace Rows
def none {H : Type} : Left H := { results := [], args := [] }

/- WHAT THE LISTED PACKAGE-LEVEL VARIABLES READ AS WHEN THE CALL BEGINS. Each datum BY PROGRAM (the guide's laid-datum.mjs) off the statement by which the dump's own 'gosem.cut.vars' lays the variable. In a bare row this is a premise. The card (YtbipgmikgokfpaaDoorCards.lean) ties it to the program's text. -/
def laid_loop_example_g00370_impl_sourceWords {H : Type} : DataW H := .agg [.lit (.string [108, 101, 116]), .lit (.string [105, 102]), .lit (.string [101, 108, 115, 101]), .lit (.string [119, 104, 105, 108, 101]), .lit (.string [114, 101, 116, 117, 114, 110]), .lit (.string [116, 104, 114, 111, 119]), .lit (.string [116, 114, 121]), .lit (.string [99, 97, 116, 99, 104]), .lit (.string [102, 117, 110, 99, 116, 105, 111, 110]), .lit (.string [116, 114, 117, 101]), .lit (.string [102, 97, 108, 115, 101]), .lit (.string [110, 117, 108, 108])]
def laid_math_bits_deBruijn32tab {H : Type} : DataW H := .agg [.lit (.int .u8 0), .lit (.int .u8 1), .lit (.int .u8 28), .lit (.int .u8 2), .lit (.int .u8 29), .lit (.int .u8 14), .lit (.int .u8 24), .lit (.int .u8 3), .lit (.int .u8 30), .lit (.int .u8 22), .lit (.int .u8 20), .lit (.int .u8 15), .lit (.int .u8 25), .lit (.int .u8 17), .lit (.int .u8 4), .lit (.int .u8 8), .lit (.int .u8 31), .lit (.int .u8 27), .lit (.int .u8 13), .lit (.int .u8 23), .lit (.int .u8 21), .lit (.int .u8 19), .lit (.int .u8 16), .lit (.int .u8 7), .lit (.int .u8 26), .lit (.int .u8 12), .lit (.int .u8 18), .lit (.int .u8 6), .lit (.int .u8 11), .lit (.int .u8 5), .lit (.int .u8 10), .lit (.int .u8 9)]
def laid_math_bits_deBruijn64tab {H : Type} : DataW H := .agg [.lit (.int .u8 0), .lit (.int .u8 1), .lit (.int .u8 56), .lit (.int .u8 2), .lit (.int .u8 57), .lit (.int .u8 49), .lit (.int .u8 28), .lit (.int .u8 3), .lit (.int .u8 61), .lit (.int .u8 58), .lit (.int .u8 42), .lit (.int .u8 50), .lit (.int .u8 38), .lit (.int .u8 29), .lit (.int .u8 17), .lit (.int .u8 4), .lit (.int .u8 62), .lit (.int .u8 47), .lit (.int .u8 59), .lit (.int .u8 36), .lit (.int .u8 45), .lit (.int .u8 43), .lit (.int .u8 51), .lit (.int .u8 22), .lit (.int .u8 53), .lit (.int .u8 39), .lit (.int .u8 33), .lit (.int .u8 30), .lit (.int .u8 24), .lit (.int .u8 18), .lit (.int .u8 12), .lit (.int .u8 5), .lit (.int .u8 63), .lit (.int .u8 55), .lit (.int .u8 48), .lit (.int .u8 27), .lit (.int .u8 60), .lit (.int .u8 41), .lit (.int .u8 37), .lit (.int .u8 16), .lit (.int .u8 46), .lit (.int .u8 35), .lit (.int .u8 44), .lit (.int .u8 21), .lit (.int .u8 52), .lit (.int .u8 32), .lit (.int .u8 23), .lit (.int .u8 11), .lit (.int .u8 54), .lit (.int .u8 26), .lit (.int .u8 40), .lit (.int .u8 15), .lit (.int .u8 34), .lit (.int .u8 20), .lit (.int .u8 31), .lit (.int .u8 10), .lit (.int .u8 25), .lit (.int .u8 14), .lit (.int .u8 19), .lit (.int .u8 9), .lit (.int .u8 13), .lit (.int .u8 8), .lit (.int .u8 7), .lit (.int .u8 6)]
def laid_internal_strconv_uint64pow10 {H : Type} : DataW H := .agg [.lit (.int .u64 1), .lit (.int .u64 10), .lit (.int .u64 100), .lit (.int .u64 1000), .lit (.int .u64 10000), .lit (.int .u64 100000), .lit (.int .u64 1000000), .lit (.int .u64 10000000), .lit (.int .u64 100000000), .lit (.int .u64 1000000000), .lit (.int .u64 10000000000), .lit (.int .u64 100000000000), .lit (.int .u64 1000000000000), .lit (.int .u64 10000000000000), .lit (.int .u64 100000000000000), .lit (.int .u64 1000000000000000), .lit (.int .u64 10000000000000000), .lit (.int .u64 100000000000000000), .lit (.int .u64 1000000000000000000), .lit (.int .u64 10000000000000000000)]

/-- 'laws.FnTree': WHATEVER THE INPUT: true; the input reads as it did. -/
def fnTreeSpec : ChangeSpec := { name := "fnTree", vars := ["loop.example/g00370/impl.sourceWords"], fn := fun _ => fun
  | [d1, d2, g1] => { results := [.lit (.bool true)], args := [d1, d2], vars := [g1] }
  | _ => none }
def fnTreeRow : OpenClaim := { program := "ytbipgmikgokfpaadoor", sum := "3c1b14ccfe1b689d3c8546b71e00ce2d2c1baff631c06678b710e97d07590b46", func := "loop.example/g00370/laws.FnTree", spec := "fnTree", unfollowed := true, recurses := true, named := ["loop.example/g00370/impl.sourceWords"], apart := false, laid := [("loop.example/g00370/impl.sourceWords", laid_loop_example_g00370_impl_sourceWords)] }
def FnTreeSaid : Prop := fnTreeRow.holds Tryd.pinned (OpenSpec.ofChange fnTreeSpec)

/-- ITS FALSE NEIGHBOUR: 'it returns false'. Refute it at one input. -/
def fnTreeWrong : ChangeSpec := { name := "fnTree", vars := ["loop.example/g00370/impl.sourceWords"], fn := fun _ => fun
  | [d1, d2, g1] => { results := [.lit (.bool false)], args := [d1, d2], vars := [g1] }
  | _ => none }
def FnTreeWrongFalsely : Prop := fnTreeRow.holds Tryd.pinned (OpenSpec.ofChange fnTreeWrong)

/-- 'laws.FnExactTreeOK': WHATEVER THE INPUT: true; the input reads as it did. -/
def fnExactTreeOKSpec : ChangeSpec := { name := "fnExactTreeOK", vars := ["loop.example/g00370/impl.sourceWords"], fn := fun _ => fun
  | [d, g1] => { results := [.lit (.bool true)], args := [d], vars := [g1] }
  | _ => none }
def fnExactTreeOKRow : OpenClaim := { program := "ytbipgmikgokfpaadoor", sum := "3c1b14ccfe1b689d3c8546b71e00ce2d2c1baff631c06678b710e97d07590b46", func := "loop.example/g00370/laws.FnExactTreeOK", spec := "fnExactTreeOK", unfollowed := true, recurses := true, named := ["loop.example/g00370/impl.sourceWords"], apart := false, laid := [("loop.example/g00370/impl.sourceWords", laid_loop_example_g00370_impl_sourceWords)] }
def FnExactTreeOKSaid : Prop := fnExactTreeOKRow.holds Tryd.pinned (OpenSpec.ofChange fnExactTreeOKSpec)

/-- ITS FALSE NEIGHBOUR: 'it returns false'. Refute it at one input. -/
def fnExactTreeOKWrong : ChangeSpec := { name := "fnExactTreeOK", vars := ["loop.example/g00370/impl.sourceWords"], fn := fun _ => fun
  | [d, g1] => { results := [.lit (.bool false)], args := [d], vars := [g1] }
  | _ => none }
def FnExactTreeOKWrongFalsely : Prop := fnExactTreeOKRow.holds Tryd.pinned (OpenSpec.ofChange fnExactTreeOKWrong)

/-- 'laws.FnExactTreeText': WHATEVER THE INPUT: true; the input reads as it did. -/
def fnExactTreeTextSpec : ChangeSpec := { name := "fnExactTreeText", vars := ["loop.example/g00370/impl.sourceWords"], fn := fun _ => fun
  | [d, g1] => { results := [.lit (.bool true)], args := [d], vars := [g1] }
  | _ => none }
def fnExactTreeTextRow : OpenClaim := { program := "ytbipgmikgokfpaadoor", sum := "3c1b14ccfe1b689d3c8546b71e00ce2d2c1baff631c06678b710e97d07590b46", func := "loop.example/g00370/laws.FnExactTreeText", spec := "fnExactTreeText", inPlace := ["internal/abi.NoEscape", "internal/bytealg.MakeNoZero"], unfollowed := true, recurses := true, named := ["loop.example/g00370/impl.sourceWords", "internal/strconv.uint64pow10", "math/bits.deBruijn32tab", "math/bits.deBruijn64tab"], apart := false, laid := [("math/bits.deBruijn32tab", laid_math_bits_deBruijn32tab), ("math/bits.deBruijn64tab", laid_math_bits_deBruijn64tab), ("internal/strconv.uint64pow10", laid_internal_strconv_uint64pow10), ("loop.example/g00370/impl.sourceWords", laid_loop_example_g00370_impl_sourceWords)] }
def FnExactTreeTextSaid : Prop := fnExactTreeTextRow.holds Tryd.pinned (OpenSpec.ofChange fnExactTreeTextSpec)

/-- ITS FALSE NEIGHBOUR: 'it returns false'. Refute it at one input. -/
def fnExactTreeTextWrong : ChangeSpec := { name := "fnExactTreeText", vars := ["loop.example/g00370/impl.sourceWords"], fn := fun _ => fun
  | [d, g1] => { results := [.lit (.bool false)], args := [d], vars := [g1] }
  | _ => none }
def FnExactTreeTextWrongFalsely : Prop := fnExactTreeTextRow.holds Tryd.pinned (OpenSpec.ofChange fnExactTreeTextWrong)

/-- 'laws.FnExactTreeDepth': WHATEVER THE INPUT: true; the input reads as it did. -/
def fnExactTreeDepthSpec : ChangeSpec := { name := "fnExactTreeDepth", vars := ["loop.example/g00370/impl.sourceWords"], fn := fun _ => fun
  | [d, g1] => { results := [.lit (.bool true)], args := [d], vars := [g1] }
  | _ => none }
def fnExactTreeDepthRow : OpenClaim := { program := "ytbipgmikgokfpaadoor", sum := "3c1b14ccfe1b689d3c8546b71e00ce2d2c1baff631c06678b710e97d07590b46", func := "loop.example/g00370/laws.FnExactTreeDepth", spec := "fnExactTreeDepth", unfollowed := true, recurses := true, named := ["loop.example/g00370/impl.sourceWords"], apart := false, laid := [("loop.example/g00370/impl.sourceWords", laid_loop_example_g00370_impl_sourceWords)] }
def FnExactTreeDepthSaid : Prop := fnExactTreeDepthRow.holds Tryd.pinned (OpenSpec.ofChange fnExactTreeDepthSpec)

/-- ITS FALSE NEIGHBOUR: 'it returns false'. Refute it at one input. -/
def fnExactTreeDepthWrong : ChangeSpec := { name := "fnExactTreeDepth", vars := ["loop.example/g00370/impl.sourceWords"], fn := fun _ => fun
  | [d, g1] => { results := [.lit (.bool false)], args := [d], vars := [g1] }
  | _ => none }
def FnExactTreeDepthWrongFalsely : Prop := fnExactTreeDepthRow.holds Tryd.pinned (OpenSpec.ofChange fnExactTreeDepthWrong)

/-- 'laws.FnExactCountKind': WHATEVER THE INPUT: true; the input reads as it did. -/
def fnExactCountKindSpec : ChangeSpec := { name := "fnExactCountKind", vars := ["loop.example/g00370/impl.sourceWords"], fn := fun _ => fun
  | [d1, d2, g1] => { results := [.lit (.bool true)], args := [d1, d2], vars := [g1] }
  | _ => none }
def fnExactCountKindRow : OpenClaim := { program := "ytbipgmikgokfpaadoor", sum := "3c1b14ccfe1b689d3c8546b71e00ce2d2c1baff631c06678b710e97d07590b46", func := "loop.example/g00370/laws.FnExactCountKind", spec := "fnExactCountKind", unfollowed := true, recurses := true, named := ["loop.example/g00370/impl.sourceWords"], apart := false, laid := [("loop.example/g00370/impl.sourceWords", laid_loop_example_g00370_impl_sourceWords)] }
def FnExactCountKindSaid : Prop := fnExactCountKindRow.holds Tryd.pinned (OpenSpec.ofChange fnExactCountKindSpec)

/-- ITS FALSE NEIGHBOUR: 'it returns false'. Refute it at one input. -/
def fnExactCountKindWrong : ChangeSpec := { name := "fnExactCountKind", vars := ["loop.example/g00370/impl.sourceWords"], fn := fun _ => fun
  | [d1, d2, g1] => { results := [.lit (.bool false)], args := [d1, d2], vars := [g1] }
  | _ => none }
def FnExactCountKindWrongFalsely : Prop := fnExactCountKindRow.holds Tryd.pinned (OpenSpec.ofChange fnExactCountKindWrong)

/-- 'laws.FnExactParentOf': WHATEVER THE INPUT: true; the input reads as it did. -/
def fnExactParentOfSpec : ChangeSpec := { name := "fnExactParentOf", vars := ["loop.example/g00370/impl.sourceWords"], fn := fun _ => fun
  | [d1, d2, g1] => { results := [.lit (.bool true)], args := [d1, d2], vars := [g1] }
  | _ => none }
def fnExactParentOfRow : OpenClaim := { program := "ytbipgmikgokfpaadoor", sum := "3c1b14ccfe1b689d3c8546b71e00ce2d2c1baff631c06678b710e97d07590b46", func := "loop.example/g00370/laws.FnExactParentOf", spec := "fnExactParentOf", unfollowed := true, recurses := true, named := ["loop.example/g00370/impl.sourceWords"], apart := false, laid := [("loop.example/g00370/impl.sourceWords", laid_loop_example_g00370_impl_sourceWords)] }
def FnExactParentOfSaid : Prop := fnExactParentOfRow.holds Tryd.pinned (OpenSpec.ofChange fnExactParentOfSpec)

/-- ITS FALSE NEIGHBOUR: 'it returns false'. Refute it at one input. -/
def fnExactParentOfWrong : ChangeSpec := { name := "fnExactParentOf", vars := ["loop.example/g00370/impl.sourceWords"], fn := fun _ => fun
  | [d1, d2, g1] => { results := [.lit (.bool false)], args := [d1, d2], vars := [g1] }
  | _ => none }
def FnExactParentOfWrongFalsely : Prop := fnExactParentOfRow.holds Tryd.pinned (OpenSpec.ofChange fnExactParentOfWrong)

/-- 'laws.FnExactSizeOf': WHATEVER THE INPUT: true; the input reads as it did. -/
def fnExactSizeOfSpec : ChangeSpec := { name := "fnExactSizeOf", vars := ["loop.example/g00370/impl.sourceWords"], fn := fun _ => fun
  | [d1, d2, g1] => { results := [.lit (.bool true)], args := [d1, d2], vars := [g1] }
  | _ => none }
def fnExactSizeOfRow : OpenClaim := { program := "ytbipgmikgokfpaadoor", sum := "3c1b14ccfe1b689d3c8546b71e00ce2d2c1baff631c06678b710e97d07590b46", func := "loop.example/g00370/laws.FnExactSizeOf", spec := "fnExactSizeOf", unfollowed := true, recurses := true, named := ["loop.example/g00370/impl.sourceWords"], apart := false, laid := [("loop.example/g00370/impl.sourceWords", laid_loop_example_g00370_impl_sourceWords)] }
def FnExactSizeOfSaid : Prop := fnExactSizeOfRow.holds Tryd.pinned (OpenSpec.ofChange fnExactSizeOfSpec)

/-- ITS FALSE NEIGHBOUR: 'it returns false'. Refute it at one input. -/
def fnExactSizeOfWrong : ChangeSpec := { name := "fnExactSizeOf", vars := ["loop.example/g00370/impl.sourceWords"], fn := fun _ => fun
  | [d1, d2, g1] => { results := [.lit (.bool false)], args := [d1, d2], vars := [g1] }
  | _ => none }
def FnExactSizeOfWrongFalsely : Prop := fnExactSizeOfRow.holds Tryd.pinned (OpenSpec.ofChange fnExactSizeOfWrong)

/-- 'laws.FnExactPathTo': WHATEVER THE INPUT: true; the input reads as it did. -/
def fnExactPathToSpec : ChangeSpec := { name := "fnExactPathTo", vars := ["loop.example/g00370/impl.sourceWords"], fn := fun _ => fun
  | [d1, d2, g1] => { results := [.lit (.bool true)], args := [d1, d2], vars := [g1] }
  | _ => none }
def fnExactPathToRow : OpenClaim := { program := "ytbipgmikgokfpaadoor", sum := "3c1b14ccfe1b689d3c8546b71e00ce2d2c1baff631c06678b710e97d07590b46", func := "loop.example/g00370/laws.FnExactPathTo", spec := "fnExactPathTo", unfollowed := true, recurses := true, named := ["loop.example/g00370/impl.sourceWords"], apart := false, laid := [("loop.example/g00370/impl.sourceWords", laid_loop_example_g00370_impl_sourceWords)] }
def FnExactPathToSaid : Prop := fnExactPathToRow.holds Tryd.pinned (OpenSpec.ofChange fnExactPathToSpec)

/-- ITS FALSE NEIGHBOUR: 'it returns false'. Refute it at one input. -/
def fnExactPathToWrong : ChangeSpec := { name := "fnExactPathTo", vars := ["loop.example/g00370/impl.sourceWords"], fn := fun _ => fun
  | [d1, d2, g1] => { results := [.lit (.bool false)], args := [d1, d2], vars := [g1] }
  | _ => none }
def FnExactPathToWrongFalsely : Prop := fnExactPathToRow.holds Tryd.pinned (OpenSpec.ofChange fnExactPathToWrong)

/-- 'laws.FnExactFuncsOf': WHATEVER THE INPUT: true; the input reads as it did. -/
def fnExactFuncsOfSpec : ChangeSpec := { name := "fnExactFuncsOf", vars := ["loop.example/g00370/impl.sourceWords"], fn := fun _ => fun
  | [d, g1] => { results := [.lit (.bool true)], args := [d], vars := [g1] }
  | _ => none }
def fnExactFuncsOfRow : OpenClaim := { program := "ytbipgmikgokfpaadoor", sum := "3c1b14ccfe1b689d3c8546b71e00ce2d2c1baff631c06678b710e97d07590b46", func := "loop.example/g00370/laws.FnExactFuncsOf", spec := "fnExactFuncsOf", unfollowed := true, recurses := true, named := ["loop.example/g00370/impl.sourceWords"], apart := false, laid := [("loop.example/g00370/impl.sourceWords", laid_loop_example_g00370_impl_sourceWords)] }
def FnExactFuncsOfSaid : Prop := fnExactFuncsOfRow.holds Tryd.pinned (OpenSpec.ofChange fnExactFuncsOfSpec)

/-- ITS FALSE NEIGHBOUR: 'it returns false'. Refute it at one input. -/
def fnExactFuncsOfWrong : ChangeSpec := { name := "fnExactFuncsOf", vars := ["loop.example/g00370/impl.sourceWords"], fn := fun _ => fun
  | [d, g1] => { results := [.lit (.bool false)], args := [d], vars := [g1] }
  | _ => none }
def FnExactFuncsOfWrongFalsely : Prop := fnExactFuncsOfRow.holds Tryd.pinned (OpenSpec.ofChange fnExactFuncsOfWrong)

/-- 'laws.FnExactScopeAt': WHATEVER THE INPUT: true; the input reads as it did. -/
def fnExactScopeAtSpec : ChangeSpec := { name := "fnExactScopeAt", vars := ["loop.example/g00370/impl.sourceWords"], fn := fun _ => fun
  | [d1, d2, g1] => { results := [.lit (.bool true)], args := [d1, d2], vars := [g1] }
  | _ => none }
def fnExactScopeAtRow : OpenClaim := { program := "ytbipgmikgokfpaadoor", sum := "3c1b14ccfe1b689d3c8546b71e00ce2d2c1baff631c06678b710e97d07590b46", func := "loop.example/g00370/laws.FnExactScopeAt", spec := "fnExactScopeAt", unfollowed := true, recurses := true, named := ["loop.example/g00370/impl.sourceWords"], apart := false, laid := [("loop.example/g00370/impl.sourceWords", laid_loop_example_g00370_impl_sourceWords)] }
def FnExactScopeAtSaid : Prop := fnExactScopeAtRow.holds Tryd.pinned (OpenSpec.ofChange fnExactScopeAtSpec)

/-- ITS FALSE NEIGHBOUR: 'it returns false'. Refute it at one input. -/
def fnExactScopeAtWrong : ChangeSpec := { name := "fnExactScopeAt", vars := ["loop.example/g00370/impl.sourceWords"], fn := fun _ => fun
  | [d1, d2, g1] => { results := [.lit (.bool false)], args := [d1, d2], vars := [g1] }
  | _ => none }
def FnExactScopeAtWrongFalsely : Prop := fnExactScopeAtRow.holds Tryd.pinned (OpenSpec.ofChange fnExactScopeAtWrong)

/-- 'laws.FnExactUsesOf': WHATEVER THE INPUT: true; the input reads as it did. -/
def fnExactUsesOfSpec : ChangeSpec := { name := "fnExactUsesOf", vars := ["loop.example/g00370/impl.sourceWords"], fn := fun _ => fun
  | [d1, d2, g1] => { results := [.lit (.bool true)], args := [d1, d2], vars := [g1] }
  | _ => none }
def fnExactUsesOfRow : OpenClaim := { program := "ytbipgmikgokfpaadoor", sum := "3c1b14ccfe1b689d3c8546b71e00ce2d2c1baff631c06678b710e97d07590b46", func := "loop.example/g00370/laws.FnExactUsesOf", spec := "fnExactUsesOf", unfollowed := true, recurses := true, named := ["loop.example/g00370/impl.sourceWords"], apart := false, laid := [("loop.example/g00370/impl.sourceWords", laid_loop_example_g00370_impl_sourceWords)] }
def FnExactUsesOfSaid : Prop := fnExactUsesOfRow.holds Tryd.pinned (OpenSpec.ofChange fnExactUsesOfSpec)

/-- ITS FALSE NEIGHBOUR: 'it returns false'. Refute it at one input. -/
def fnExactUsesOfWrong : ChangeSpec := { name := "fnExactUsesOf", vars := ["loop.example/g00370/impl.sourceWords"], fn := fun _ => fun
  | [d1, d2, g1] => { results := [.lit (.bool false)], args := [d1, d2], vars := [g1] }
  | _ => none }
def FnExactUsesOfWrongFalsely : Prop := fnExactUsesOfRow.holds Tryd.pinned (OpenSpec.ofChange fnExactUsesOfWrong)

/-- 'laws.FnExactCallsOf': WHATEVER THE INPUT: true; the input reads as it did. -/
def fnExactCallsOfSpec : ChangeSpec := { name := "fnExactCallsOf", vars := ["loop.example/g00370/impl.sourceWords"], fn := fun _ => fun
  | [d1, d2, g1] => { results := [.lit (.bool true)], args := [d1, d2], vars := [g1] }
  | _ => none }
def fnExactCallsOfRow : OpenClaim := { program := "ytbipgmikgokfpaadoor", sum := "3c1b14ccfe1b689d3c8546b71e00ce2d2c1baff631c06678b710e97d07590b46", func := "loop.example/g00370/laws.FnExactCallsOf", spec := "fnExactCallsOf", unfollowed := true, recurses := true, named := ["loop.example/g00370/impl.sourceWords"], apart := false, laid := [("loop.example/g00370/impl.sourceWords", laid_loop_example_g00370_impl_sourceWords)] }
def FnExactCallsOfSaid : Prop := fnExactCallsOfRow.holds Tryd.pinned (OpenSpec.ofChange fnExactCallsOfSpec)

/-- ITS FALSE NEIGHBOUR: 'it returns false'. Refute it at one input. -/
def fnExactCallsOfWrong : ChangeSpec := { name := "fnExactCallsOf", vars := ["loop.example/g00370/impl.sourceWords"], fn := fun _ => fun
  | [d1, d2, g1] => { results := [.lit (.bool false)], args := [d1, d2], vars := [g1] }
  | _ => none }
def FnExactCallsOfWrongFalsely : Prop := fnExactCallsOfRow.holds Tryd.pinned (OpenSpec.ofChange fnExactCallsOfWrong)

/-- 'laws.FnExactComes': WHATEVER THE INPUT: true; the input reads as it did. -/
def fnExactComesSpec : ChangeSpec := { name := "fnExactComes", vars := ["loop.example/g00370/impl.sourceWords"], fn := fun _ => fun
  | [d1, d2, d3, g1] => { results := [.lit (.bool true)], args := [d1, d2, d3], vars := [g1] }
  | _ => none }
def fnExactComesRow : OpenClaim := { program := "ytbipgmikgokfpaadoor", sum := "3c1b14ccfe1b689d3c8546b71e00ce2d2c1baff631c06678b710e97d07590b46", func := "loop.example/g00370/laws.FnExactComes", spec := "fnExactComes", unfollowed := true, recurses := true, named := ["loop.example/g00370/impl.sourceWords"], apart := false, laid := [("loop.example/g00370/impl.sourceWords", laid_loop_example_g00370_impl_sourceWords)] }
def FnExactComesSaid : Prop := fnExactComesRow.holds Tryd.pinned (OpenSpec.ofChange fnExactComesSpec)

/-- ITS FALSE NEIGHBOUR: 'it returns false'. Refute it at one input. -/
def fnExactComesWrong : ChangeSpec := { name := "fnExactComes", vars := ["loop.example/g00370/impl.sourceWords"], fn := fun _ => fun
  | [d1, d2, d3, g1] => { results := [.lit (.bool false)], args := [d1, d2, d3], vars := [g1] }
  | _ => none }
def FnExactComesWrongFalsely : Prop := fnExactComesRow.holds Tryd.pinned (OpenSpec.ofChange fnExactComesWrong)

/- THE SECOND FORM. 'bulk': how many values and letters a reading holds, each counted each time it is reached (what is shared counts as often as it is met; a slice's spare places count too). A statement '..UptoSaid' is the law's where the arguments, and the package variables that the reading takes, are together of bulk at most 1048576: NARROWER than '..Said'. Prove '..Said' where nothing that the law and all that it calls make is longer than what came in: it says more and counts as full. Else prove '..UptoSaid'. A law counts once. -/
mutual
def uptoBulk {H : Type} : DataW H → Nat
  | .lit (.string bytes) => bytes.length + 1
  | .lit _ => 1
  | .nil => 1
  | .ptr d => uptoBulk d + 1
  | .slice elems spare => uptoBulkAll elems + uptoBulkAll spare + 1
  | .agg parts => uptoBulkAll parts + 1
  | .iface _ d => uptoBulk d + 1
  | .map entries => uptoBulkEntries entries + 1
  | .held _ => 1
def uptoBulkAll {H : Type} : List (DataW H) → Nat
  | [] => 0
  | d :: r => uptoBulk d + uptoBulkAll r
def uptoBulkEntries {H : Type} : List (Lit × DataW H) → Nat
  | [] => 0
  | x :: r => uptoBulkEntry x + uptoBulkEntries r
def uptoBulkEntry {H : Type} : Lit × DataW H → Nat
  | (.string bytes, d) => bytes.length + uptoBulk d + 1
  | (_, d) => uptoBulk d + 1
 end
def uptoSmall : (H : Type) → List (DataW H) → Bool := fun _ ds => decide (uptoBulkAll ds ≤ 1048576)
def OpenSpec.upto (s : _root_.Go.ChangeSpec) : _root_.Go.OpenSpec := { _root_.Go.OpenSpec.ofChange s with cond := some uptoSmall }

/-- 'laws.FnTree', WHERE WHAT IT READS IS OF BULK AT MOST 1048576: true; the input reads as it did. -/
def fnTreeUptoRow : OpenClaim := { program := "ytbipgmikgokfpaadoor", sum := "3c1b14ccfe1b689d3c8546b71e00ce2d2c1baff631c06678b710e97d07590b46", func := "loop.example/g00370/laws.FnTree", spec := "fnTree", unfollowed := true, recurses := true, named := ["loop.example/g00370/impl.sourceWords"], apart := false, laid := [("loop.example/g00370/impl.sourceWords", laid_loop_example_g00370_impl_sourceWords)], narrowed := true }
def FnTreeUptoSaid : Prop := fnTreeUptoRow.holds Tryd.pinned (OpenSpec.upto fnTreeSpec)

/-- 'laws.FnExactTreeOK', WHERE WHAT IT READS IS OF BULK AT MOST 1048576: true; the input reads as it did. -/
def fnExactTreeOKUptoRow : OpenClaim := { program := "ytbipgmikgokfpaadoor", sum := "3c1b14ccfe1b689d3c8546b71e00ce2d2c1baff631c06678b710e97d07590b46", func := "loop.example/g00370/laws.FnExactTreeOK", spec := "fnExactTreeOK", unfollowed := true, recurses := true, named := ["loop.example/g00370/impl.sourceWords"], apart := false, laid := [("loop.example/g00370/impl.sourceWords", laid_loop_example_g00370_impl_sourceWords)], narrowed := true }
def FnExactTreeOKUptoSaid : Prop := fnExactTreeOKUptoRow.holds Tryd.pinned (OpenSpec.upto fnExactTreeOKSpec)

/-- 'laws.FnExactTreeText', WHERE WHAT IT READS IS OF BULK AT MOST 1048576: true; the input reads as it did. -/
def fnExactTreeTextUptoRow : OpenClaim := { program := "ytbipgmikgokfpaadoor", sum := "3c1b14ccfe1b689d3c8546b71e00ce2d2c1baff631c06678b710e97d07590b46", func := "loop.example/g00370/laws.FnExactTreeText", spec := "fnExactTreeText", inPlace := ["internal/abi.NoEscape", "internal/bytealg.MakeNoZero"], unfollowed := true, recurses := true, named := ["loop.example/g00370/impl.sourceWords", "internal/strconv.uint64pow10", "math/bits.deBruijn32tab", "math/bits.deBruijn64tab"], apart := false, laid := [("math/bits.deBruijn32tab", laid_math_bits_deBruijn32tab), ("math/bits.deBruijn64tab", laid_math_bits_deBruijn64tab), ("internal/strconv.uint64pow10", laid_internal_strconv_uint64pow10), ("loop.example/g00370/impl.sourceWords", laid_loop_example_g00370_impl_sourceWords)], narrowed := true }
def FnExactTreeTextUptoSaid : Prop := fnExactTreeTextUptoRow.holds Tryd.pinned (OpenSpec.upto fnExactTreeTextSpec)

/-- 'laws.FnExactTreeDepth', WHERE WHAT IT READS IS OF BULK AT MOST 1048576: true; the input reads as it did. -/
def fnExactTreeDepthUptoRow : OpenClaim := { program := "ytbipgmikgokfpaadoor", sum := "3c1b14ccfe1b689d3c8546b71e00ce2d2c1baff631c06678b710e97d07590b46", func := "loop.example/g00370/laws.FnExactTreeDepth", spec := "fnExactTreeDepth", unfollowed := true, recurses := true, named := ["loop.example/g00370/impl.sourceWords"], apart := false, laid := [("loop.example/g00370/impl.sourceWords", laid_loop_example_g00370_impl_sourceWords)], narrowed := true }
def FnExactTreeDepthUptoSaid : Prop := fnExactTreeDepthUptoRow.holds Tryd.pinned (OpenSpec.upto fnExactTreeDepthSpec)

/-- 'laws.FnExactCountKind', WHERE WHAT IT READS IS OF BULK AT MOST 1048576: true; the input reads as it did. -/
def fnExactCountKindUptoRow : OpenClaim := { program := "ytbipgmikgokfpaadoor", sum := "3c1b14ccfe1b689d3c8546b71e00ce2d2c1baff631c06678b710e97d07590b46", func := "loop.example/g00370/laws.FnExactCountKind", spec := "fnExactCountKind", unfollowed := true, recurses := true, named := ["loop.example/g00370/impl.sourceWords"], apart := false, laid := [("loop.example/g00370/impl.sourceWords", laid_loop_example_g00370_impl_sourceWords)], narrowed := true }
def FnExactCountKindUptoSaid : Prop := fnExactCountKindUptoRow.holds Tryd.pinned (OpenSpec.upto fnExactCountKindSpec)

/-- 'laws.FnExactParentOf', WHERE WHAT IT READS IS OF BULK AT MOST 1048576: true; the input reads as it did. -/
def fnExactParentOfUptoRow : OpenClaim := { program := "ytbipgmikgokfpaadoor", sum := "3c1b14ccfe1b689d3c8546b71e00ce2d2c1baff631c06678b710e97d07590b46", func := "loop.example/g00370/laws.FnExactParentOf", spec := "fnExactParentOf", unfollowed := true, recurses := true, named := ["loop.example/g00370/impl.sourceWords"], apart := false, laid := [("loop.example/g00370/impl.sourceWords", laid_loop_example_g00370_impl_sourceWords)], narrowed := true }
def FnExactParentOfUptoSaid : Prop := fnExactParentOfUptoRow.holds Tryd.pinned (OpenSpec.upto fnExactParentOfSpec)

/-- 'laws.FnExactSizeOf', WHERE WHAT IT READS IS OF BULK AT MOST 1048576: true; the input reads as it did. -/
def fnExactSizeOfUptoRow : OpenClaim := { program := "ytbipgmikgokfpaadoor", sum := "3c1b14ccfe1b689d3c8546b71e00ce2d2c1baff631c06678b710e97d07590b46", func := "loop.example/g00370/laws.FnExactSizeOf", spec := "fnExactSizeOf", unfollowed := true, recurses := true, named := ["loop.example/g00370/impl.sourceWords"], apart := false, laid := [("loop.example/g00370/impl.sourceWords", laid_loop_example_g00370_impl_sourceWords)], narrowed := true }
def FnExactSizeOfUptoSaid : Prop := fnExactSizeOfUptoRow.holds Tryd.pinned (OpenSpec.upto fnExactSizeOfSpec)

/-- 'laws.FnExactPathTo', WHERE WHAT IT READS IS OF BULK AT MOST 1048576: true; the input reads as it did. -/
def fnExactPathToUptoRow : OpenClaim := { program := "ytbipgmikgokfpaadoor", sum := "3c1b14ccfe1b689d3c8546b71e00ce2d2c1baff631c06678b710e97d07590b46", func := "loop.example/g00370/laws.FnExactPathTo", spec := "fnExactPathTo", unfollowed := true, recurses := true, named := ["loop.example/g00370/impl.sourceWords"], apart := false, laid := [("loop.example/g00370/impl.sourceWords", laid_loop_example_g00370_impl_sourceWords)], narrowed := true }
def FnExactPathToUptoSaid : Prop := fnExactPathToUptoRow.holds Tryd.pinned (OpenSpec.upto fnExactPathToSpec)

/-- 'laws.FnExactFuncsOf', WHERE WHAT IT READS IS OF BULK AT MOST 1048576: true; the input reads as it did. -/
def fnExactFuncsOfUptoRow : OpenClaim := { program := "ytbipgmikgokfpaadoor", sum := "3c1b14ccfe1b689d3c8546b71e00ce2d2c1baff631c06678b710e97d07590b46", func := "loop.example/g00370/laws.FnExactFuncsOf", spec := "fnExactFuncsOf", unfollowed := true, recurses := true, named := ["loop.example/g00370/impl.sourceWords"], apart := false, laid := [("loop.example/g00370/impl.sourceWords", laid_loop_example_g00370_impl_sourceWords)], narrowed := true }
def FnExactFuncsOfUptoSaid : Prop := fnExactFuncsOfUptoRow.holds Tryd.pinned (OpenSpec.upto fnExactFuncsOfSpec)

/-- 'laws.FnExactScopeAt', WHERE WHAT IT READS IS OF BULK AT MOST 1048576: true; the input reads as it did. -/
def fnExactScopeAtUptoRow : OpenClaim := { program := "ytbipgmikgokfpaadoor", sum := "3c1b14ccfe1b689d3c8546b71e00ce2d2c1baff631c06678b710e97d07590b46", func := "loop.example/g00370/laws.FnExactScopeAt", spec := "fnExactScopeAt", unfollowed := true, recurses := true, named := ["loop.example/g00370/impl.sourceWords"], apart := false, laid := [("loop.example/g00370/impl.sourceWords", laid_loop_example_g00370_impl_sourceWords)], narrowed := true }
def FnExactScopeAtUptoSaid : Prop := fnExactScopeAtUptoRow.holds Tryd.pinned (OpenSpec.upto fnExactScopeAtSpec)

/-- 'laws.FnExactUsesOf', WHERE WHAT IT READS IS OF BULK AT MOST 1048576: true; the input reads as it did. -/
def fnExactUsesOfUptoRow : OpenClaim := { program := "ytbipgmikgokfpaadoor", sum := "3c1b14ccfe1b689d3c8546b71e00ce2d2c1baff631c06678b710e97d07590b46", func := "loop.example/g00370/laws.FnExactUsesOf", spec := "fnExactUsesOf", unfollowed := true, recurses := true, named := ["loop.example/g00370/impl.sourceWords"], apart := false, laid := [("loop.example/g00370/impl.sourceWords", laid_loop_example_g00370_impl_sourceWords)], narrowed := true }
def FnExactUsesOfUptoSaid : Prop := fnExactUsesOfUptoRow.holds Tryd.pinned (OpenSpec.upto fnExactUsesOfSpec)

/-- 'laws.FnExactCallsOf', WHERE WHAT IT READS IS OF BULK AT MOST 1048576: true; the input reads as it did. -/
def fnExactCallsOfUptoRow : OpenClaim := { program := "ytbipgmikgokfpaadoor", sum := "3c1b14ccfe1b689d3c8546b71e00ce2d2c1baff631c06678b710e97d07590b46", func := "loop.example/g00370/laws.FnExactCallsOf", spec := "fnExactCallsOf", unfollowed := true, recurses := true, named := ["loop.example/g00370/impl.sourceWords"], apart := false, laid := [("loop.example/g00370/impl.sourceWords", laid_loop_example_g00370_impl_sourceWords)], narrowed := true }
def FnExactCallsOfUptoSaid : Prop := fnExactCallsOfUptoRow.holds Tryd.pinned (OpenSpec.upto fnExactCallsOfSpec)

/-- 'laws.FnExactComes', WHERE WHAT IT READS IS OF BULK AT MOST 1048576: true; the input reads as it did. -/
def fnExactComesUptoRow : OpenClaim := { program := "ytbipgmikgokfpaadoor", sum := "3c1b14ccfe1b689d3c8546b71e00ce2d2c1baff631c06678b710e97d07590b46", func := "loop.example/g00370/laws.FnExactComes", spec := "fnExactComes", unfollowed := true, recurses := true, named := ["loop.example/g00370/impl.sourceWords"], apart := false, laid := [("loop.example/g00370/impl.sourceWords", laid_loop_example_g00370_impl_sourceWords)], narrowed := true }
def FnExactComesUptoSaid : Prop := fnExactComesUptoRow.holds Tryd.pinned (OpenSpec.upto fnExactComesSpec)

end Rows
end Go.Proofs.YtbipgmikgokfpaaDoor
