/-
  NARROWER THAN 'FOR EVERY INPUT', by the rows' own cells (each row's printed sentence says how): FnTree: laid · FnExactParseSource: laid · FnExactTreeOK: laid · FnExactTreeText: laid · FnExactTreeDepth: laid · FnExactCountKind: laid · FnExactParentOf: laid · FnExactSizeOf: laid · FnExactPathTo: laid.
  DERIVED. THE GIVEN ROWS OF THIS SEAT. 9 by the template 'for every input the law returns true; each argument reads behind the call as it read before'; 0 by the template 'total and deterministic' (their statements: YtfhjmmkpmjemoaaDoorTotals.lean).
  GIVEN WITH THE SEED: the statements are not yours to turn. If you find one false, say at which input.
  Laid BY PROGRAM, IN A SANDBOX (cutbox-rows.mjs): the forced cells as the released guide's own fill.sh prints them over the translation 9a243f3e5c90b3e5… (all of the seat's roots in one cut). By AI agents, Wed Nov 11 2026. No macro, syntax, notation, axiom, sorry.
-/
import Derived.Test.YtfhjmmkpmjemoaaDoorChecked
import GoSem.Claim
import GoSem.ClaimJoined
import GoSem.ClaimMapViews
import Derived.JoinedTies
import Derived.KernelRfl
namespace Go.Proofs.YtfhjmmkpmjemoaaDoor
/- THE CELL 'sum', in the pinned program and in every row, IS THE sha256 OF THE DUMP (.gsa) THAT YtfhjmmkpmjemoaaDoorProg.lean LOADS. Nothing in Lean hashes anything: it is a label: what it is worth is what the hold of that sum in a sandbox is worth. -/
noncomputable def Tryd.pinned : Pinned := { name := "ytfhjmmkpmjemoaadoor", sum := "9a243f3e5c90b3e58b5b63658bcb7e8fbe563f4ae115fa6c4df0d787f56dbeb6", checked := Tryd.checked }
namespace Rows
def none {H : Type} : Left H := { results := [], args := [] }

/- WHAT THE LISTED PACKAGE-LEVEL VARIABLES READ AS WHEN THE CALL BEGINS. Each datum BY PROGRAM (the guide's laid-datum.mjs) off the statement by which the dump's own 'gosem.cut.vars' lays the variable. In a bare row this is a premise. The card (YtfhjmmkpmjemoaaDoorCards.lean) ties it to the program's text. -/
def laid_loop_example_g00370_impl_sourceWords {H : Type} : DataW H := .agg [.lit (.string [108, 101, 116]), .lit (.string [105, 102]), .lit (.string [101, 108, 115, 101]), .lit (.string [119, 104, 105, 108, 101]), .lit (.string [114, 101, 116, 117, 114, 110]), .lit (.string [116, 104, 114, 111, 119]), .lit (.string [116, 114, 121]), .lit (.string [99, 97, 116, 99, 104]), .lit (.string [102, 117, 110, 99, 116, 105, 111, 110]), .lit (.string [116, 114, 117, 101]), .lit (.string [102, 97, 108, 115, 101]), .lit (.string [110, 117, 108, 108])]
def laid_loop_example_g00370_impl_sourceSigns {H : Type} : DataW H := .agg [.lit (.string [61, 61]), .lit (.string [38, 38]), .lit (.string [124, 124]), .lit (.string [43]), .lit (.string [45]), .lit (.string [42]), .lit (.string [47]), .lit (.string [37]), .lit (.string [60]), .lit (.string [61]), .lit (.string [33]), .lit (.string [40]), .lit (.string [41]), .lit (.string [123]), .lit (.string [125]), .lit (.string [44]), .lit (.string [59])]
def laid_math_bits_deBruijn32tab {H : Type} : DataW H := .agg [.lit (.int .u8 0), .lit (.int .u8 1), .lit (.int .u8 28), .lit (.int .u8 2), .lit (.int .u8 29), .lit (.int .u8 14), .lit (.int .u8 24), .lit (.int .u8 3), .lit (.int .u8 30), .lit (.int .u8 22), .lit (.int .u8 20), .lit (.int .u8 15), .lit (.int .u8 25), .lit (.int .u8 17), .lit (.int .u8 4), .lit (.int .u8 8), .lit (.int .u8 31), .lit (.int .u8 27), .lit (.int .u8 13), .lit (.int .u8 23), .lit (.int .u8 21), .lit (.int .u8 19), .lit (.int .u8 16), .lit (.int .u8 7), .lit (.int .u8 26), .lit (.int .u8 12), .lit (.int .u8 18), .lit (.int .u8 6), .lit (.int .u8 11), .lit (.int .u8 5), .lit (.int .u8 10), .lit (.int .u8 9)]
def laid_math_bits_deBruijn64tab {H : Type} : DataW H := .agg [.lit (.int .u8 0), .lit (.int .u8 1), .lit (.int .u8 56), .lit (.int .u8 2), .lit (.int .u8 57), .lit (.int .u8 49), .lit (.int .u8 28), .lit (.int .u8 3), .lit (.int .u8 61), .lit (.int .u8 58), .lit (.int .u8 42), .lit (.int .u8 50), .lit (.int .u8 38), .lit (.int .u8 29), .lit (.int .u8 17), .lit (.int .u8 4), .lit (.int .u8 62), .lit (.int .u8 47), .lit (.int .u8 59), .lit (.int .u8 36), .lit (.int .u8 45), .lit (.int .u8 43), .lit (.int .u8 51), .lit (.int .u8 22), .lit (.int .u8 53), .lit (.int .u8 39), .lit (.int .u8 33), .lit (.int .u8 30), .lit (.int .u8 24), .lit (.int .u8 18), .lit (.int .u8 12), .lit (.int .u8 5), .lit (.int .u8 63), .lit (.int .u8 55), .lit (.int .u8 48), .lit (.int .u8 27), .lit (.int .u8 60), .lit (.int .u8 41), .lit (.int .u8 37), .lit (.int .u8 16), .lit (.int .u8 46), .lit (.int .u8 35), .lit (.int .u8 44), .lit (.int .u8 21), .lit (.int .u8 52), .lit (.int .u8 32), .lit (.int .u8 23), .lit (.int .u8 11), .lit (.int .u8 54), .lit (.int .u8 26), .lit (.int .u8 40), .lit (.int .u8 15), .lit (.int .u8 34), .lit (.int .u8 20), .lit (.int .u8 31), .lit (.int .u8 10), .lit (.int .u8 25), .lit (.int .u8 14), .lit (.int .u8 19), .lit (.int .u8 9), .lit (.int .u8 13), .lit (.int .u8 8), .lit (.int .u8 7), .lit (.int .u8 6)]
def laid_internal_strconv_uint64pow10 {H : Type} : DataW H := .agg [.lit (.int .u64 1), .lit (.int .u64 10), .lit (.int .u64 100), .lit (.int .u64 1000), .lit (.int .u64 10000), .lit (.int .u64 100000), .lit (.int .u64 1000000), .lit (.int .u64 10000000), .lit (.int .u64 100000000), .lit (.int .u64 1000000000), .lit (.int .u64 10000000000), .lit (.int .u64 100000000000), .lit (.int .u64 1000000000000), .lit (.int .u64 10000000000000), .lit (.int .u64 100000000000000), .lit (.int .u64 1000000000000000), .lit (.int .u64 10000000000000000), .lit (.int .u64 100000000000000000), .lit (.int .u64 1000000000000000000), .lit (.int .u64 10000000000000000000)]

/-- 'laws.FnTree': WHATEVER THE INPUT: true; the input reads as it did. -/
def fnTreeSpec : ChangeSpec := { name := "fnTree", vars := ["loop.example/g00370/impl.sourceWords"], fn := fun _ => fun
  | [d1, d2, g1] => { results := [.lit (.bool true)], args := [d1, d2], vars := [g1] }
  | _ => none }
def fnTreeRow : OpenClaim := { program := "ytfhjmmkpmjemoaadoor", sum := "9a243f3e5c90b3e58b5b63658bcb7e8fbe563f4ae115fa6c4df0d787f56dbeb6", func := "loop.example/g00370/laws.FnTree", spec := "fnTree", unfollowed := true, recurses := true, named := ["loop.example/g00370/impl.sourceWords"], apart := false, laid := [("loop.example/g00370/impl.sourceWords", laid_loop_example_g00370_impl_sourceWords)] }
def FnTreeSaid : Prop := fnTreeRow.holds Tryd.pinned (OpenSpec.ofChange fnTreeSpec)

/-- ITS FALSE NEIGHBOUR: 'it returns false'. Refute it at one input. -/
def fnTreeWrong : ChangeSpec := { name := "fnTree", vars := ["loop.example/g00370/impl.sourceWords"], fn := fun _ => fun
  | [d1, d2, g1] => { results := [.lit (.bool false)], args := [d1, d2], vars := [g1] }
  | _ => none }
def FnTreeWrongFalsely : Prop := fnTreeRow.holds Tryd.pinned (OpenSpec.ofChange fnTreeWrong)

/-- 'laws.FnExactParseSource': WHATEVER THE INPUT: true; the input reads as it did. -/
def fnExactParseSourceSpec : ChangeSpec := { name := "fnExactParseSource", vars := ["loop.example/g00370/impl.sourceWords", "loop.example/g00370/impl.sourceSigns"], fn := fun _ => fun
  | [d, g1, g2] => { results := [.lit (.bool true)], args := [d], vars := [g1, g2] }
  | _ => none }
def fnExactParseSourceRow : OpenClaim := { program := "ytfhjmmkpmjemoaadoor", sum := "9a243f3e5c90b3e58b5b63658bcb7e8fbe563f4ae115fa6c4df0d787f56dbeb6", func := "loop.example/g00370/laws.FnExactParseSource", spec := "fnExactParseSource", unfollowed := true, recurses := true, named := ["loop.example/g00370/impl.sourceWords", "loop.example/g00370/impl.sourceSigns"], apart := false, laid := [("loop.example/g00370/impl.sourceWords", laid_loop_example_g00370_impl_sourceWords), ("loop.example/g00370/impl.sourceSigns", laid_loop_example_g00370_impl_sourceSigns)] }
def FnExactParseSourceSaid : Prop := fnExactParseSourceRow.holds Tryd.pinned (OpenSpec.ofChange fnExactParseSourceSpec)

/-- ITS FALSE NEIGHBOUR: 'it returns false'. Refute it at one input. -/
def fnExactParseSourceWrong : ChangeSpec := { name := "fnExactParseSource", vars := ["loop.example/g00370/impl.sourceWords", "loop.example/g00370/impl.sourceSigns"], fn := fun _ => fun
  | [d, g1, g2] => { results := [.lit (.bool false)], args := [d], vars := [g1, g2] }
  | _ => none }
def FnExactParseSourceWrongFalsely : Prop := fnExactParseSourceRow.holds Tryd.pinned (OpenSpec.ofChange fnExactParseSourceWrong)

/-- 'laws.FnExactTreeOK': WHATEVER THE INPUT: true; the input reads as it did. -/
def fnExactTreeOKSpec : ChangeSpec := { name := "fnExactTreeOK", vars := ["loop.example/g00370/impl.sourceWords"], fn := fun _ => fun
  | [d, g1] => { results := [.lit (.bool true)], args := [d], vars := [g1] }
  | _ => none }
def fnExactTreeOKRow : OpenClaim := { program := "ytfhjmmkpmjemoaadoor", sum := "9a243f3e5c90b3e58b5b63658bcb7e8fbe563f4ae115fa6c4df0d787f56dbeb6", func := "loop.example/g00370/laws.FnExactTreeOK", spec := "fnExactTreeOK", unfollowed := true, recurses := true, named := ["loop.example/g00370/impl.sourceWords"], apart := false, laid := [("loop.example/g00370/impl.sourceWords", laid_loop_example_g00370_impl_sourceWords)] }
def FnExactTreeOKSaid : Prop := fnExactTreeOKRow.holds Tryd.pinned (OpenSpec.ofChange fnExactTreeOKSpec)

/-- ITS FALSE NEIGHBOUR: 'it returns false'. Refute it at one input. -/
def fnExactTreeOKWrong : ChangeSpec := { name := "fnExactTreeOK", vars := ["loop.example/g00370/impl.sourceWords"], fn := fun _ => fun
  | [d, g1] => { results := [.lit (.bool false)], args := [d], vars := [g1] }
  | _ => none }
def FnExactTreeOKWrongFalsely : Prop := fnExactTreeOKRow.holds Tryd.pinned (OpenSpec.ofChange fnExactTreeOKWrong)

/-- 'laws.FnExactTreeText': WHATEVER THE INPUT: true; the input reads as it did. -/
def fnExactTreeTextSpec : ChangeSpec := { name := "fnExactTreeText", vars := ["loop.example/g00370/impl.sourceWords"], fn := fun _ => fun
  | [d, g1] => { results := [.lit (.bool true)], args := [d], vars := [g1] }
  | _ => none }
def fnExactTreeTextRow : OpenClaim := { program := "ytfhjmmkpmjemoaadoor", sum := "9a243f3e5c90b3e58b5b63658bcb7e8fbe563f4ae115fa6c4df0d787f56dbeb6", func := "loop.example/g00370/laws.FnExactTreeText", spec := "fnExactTreeText", inPlace := ["internal/abi.NoEscape", "internal/bytealg.MakeNoZero"], unfollowed := true, recurses := true, named := ["loop.example/g00370/impl.sourceWords", "internal/strconv.uint64pow10", "math/bits.deBruijn32tab", "math/bits.deBruijn64tab"], apart := false, laid := [("math/bits.deBruijn32tab", laid_math_bits_deBruijn32tab), ("math/bits.deBruijn64tab", laid_math_bits_deBruijn64tab), ("internal/strconv.uint64pow10", laid_internal_strconv_uint64pow10), ("loop.example/g00370/impl.sourceWords", laid_loop_example_g00370_impl_sourceWords)] }
def FnExactTreeTextSaid : Prop := fnExactTreeTextRow.holds Tryd.pinned (OpenSpec.ofChange fnExactTreeTextSpec)

/-- ITS FALSE NEIGHBOUR: 'it returns false'. Refute it at one input. -/
def fnExactTreeTextWrong : ChangeSpec := { name := "fnExactTreeText", vars := ["loop.example/g00370/impl.sourceWords"], fn := fun _ => fun
  | [d, g1] => { results := [.lit (.bool false)], args := [d], vars := [g1] }
  | _ => none }
def FnExactTreeTextWrongFalsely : Prop := fnExactTreeTextRow.holds Tryd.pinned (OpenSpec.ofChange fnExactTreeTextWrong)

/-- 'laws.FnExactTreeDepth': WHATEVER THE INPUT: true; the input reads as it did. -/
def fnExactTreeDepthSpec : ChangeSpec := { name := "fnExactTreeDepth", vars := ["loop.example/g00370/impl.sourceWords"], fn := fun _ => fun
  | [d, g1] => { results := [.lit (.bool true)], args := [d], vars := [g1] }
  | _ => none }
def fnExactTreeDepthRow : OpenClaim := { program := "ytfhjmmkpmjemoaadoor", sum := "9a243f3e5c90b3e58b5b63658bcb7e8fbe563f4ae115fa6c4df0d787f56dbeb6", func := "loop.example/g00370/laws.FnExactTreeDepth", spec := "fnExactTreeDepth", unfollowed := true, recurses := true, named := ["loop.example/g00370/impl.sourceWords"], apart := false, laid := [("loop.example/g00370/impl.sourceWords", laid_loop_example_g00370_impl_sourceWords)] }
def FnExactTreeDepthSaid : Prop := fnExactTreeDepthRow.holds Tryd.pinned (OpenSpec.ofChange fnExactTreeDepthSpec)

/-- ITS FALSE NEIGHBOUR: 'it returns false'. Refute it at one input. -/
def fnExactTreeDepthWrong : ChangeSpec := { name := "fnExactTreeDepth", vars := ["loop.example/g00370/impl.sourceWords"], fn := fun _ => fun
  | [d, g1] => { results := [.lit (.bool false)], args := [d], vars := [g1] }
  | _ => none }
def FnExactTreeDepthWrongFalsely : Prop := fnExactTreeDepthRow.holds Tryd.pinned (OpenSpec.ofChange fnExactTreeDepthWrong)

/-- 'laws.FnExactCountKind': WHATEVER THE INPUT: true; the input reads as it did. -/
def fnExactCountKindSpec : ChangeSpec := { name := "fnExactCountKind", vars := ["loop.example/g00370/impl.sourceWords"], fn := fun _ => fun
  | [d1, d2, g1] => { results := [.lit (.bool true)], args := [d1, d2], vars := [g1] }
  | _ => none }
def fnExactCountKindRow : OpenClaim := { program := "ytfhjmmkpmjemoaadoor", sum := "9a243f3e5c90b3e58b5b63658bcb7e8fbe563f4ae115fa6c4df0d787f56dbeb6", func := "loop.example/g00370/laws.FnExactCountKind", spec := "fnExactCountKind", unfollowed := true, recurses := true, named := ["loop.example/g00370/impl.sourceWords"], apart := false, laid := [("loop.example/g00370/impl.sourceWords", laid_loop_example_g00370_impl_sourceWords)] }
def FnExactCountKindSaid : Prop := fnExactCountKindRow.holds Tryd.pinned (OpenSpec.ofChange fnExactCountKindSpec)

/-- ITS FALSE NEIGHBOUR: 'it returns false'. Refute it at one input. -/
def fnExactCountKindWrong : ChangeSpec := { name := "fnExactCountKind", vars := ["loop.example/g00370/impl.sourceWords"], fn := fun _ => fun
  | [d1, d2, g1] => { results := [.lit (.bool false)], args := [d1, d2], vars := [g1] }
  | _ => none }
def FnExactCountKindWrongFalsely : Prop := fnExactCountKindRow.holds Tryd.pinned (OpenSpec.ofChange fnExactCountKindWrong)

/-- 'laws.FnExactParentOf': WHATEVER THE INPUT: true; the input reads as it did. -/
def fnExactParentOfSpec : ChangeSpec := { name := "fnExactParentOf", vars := ["loop.example/g00370/impl.sourceWords"], fn := fun _ => fun
  | [d1, d2, g1] => { results := [.lit (.bool true)], args := [d1, d2], vars := [g1] }
  | _ => none }
def fnExactParentOfRow : OpenClaim := { program := "ytfhjmmkpmjemoaadoor", sum := "9a243f3e5c90b3e58b5b63658bcb7e8fbe563f4ae115fa6c4df0d787f56dbeb6", func := "loop.example/g00370/laws.FnExactParentOf", spec := "fnExactParentOf", unfollowed := true, recurses := true, named := ["loop.example/g00370/impl.sourceWords"], apart := false, laid := [("loop.example/g00370/impl.sourceWords", laid_loop_example_g00370_impl_sourceWords)] }
def FnExactParentOfSaid : Prop := fnExactParentOfRow.holds Tryd.pinned (OpenSpec.ofChange fnExactParentOfSpec)

/-- ITS FALSE NEIGHBOUR: 'it returns false'. Refute it at one input. -/
def fnExactParentOfWrong : ChangeSpec := { name := "fnExactParentOf", vars := ["loop.example/g00370/impl.sourceWords"], fn := fun _ => fun
  | [d1, d2, g1] => { results := [.lit (.bool false)], args := [d1, d2], vars := [g1] }
  | _ => none }
def FnExactParentOfWrongFalsely : Prop := fnExactParentOfRow.holds Tryd.pinned (OpenSpec.ofChange fnExactParentOfWrong)

/-- 'laws.FnExactSizeOf': WHATEVER THE INPUT: true; the input reads as it did. -/
def fnExactSizeOfSpec : ChangeSpec := { name := "fnExactSizeOf", vars := ["loop.example/g00370/impl.sourceWords"], fn := fun _ => fun
  | [d1, d2, g1] => { results := [.lit (.bool true)], args := [d1, d2], vars := [g1] }
  | _ => none }
def fnExactSizeOfRow : OpenClaim := { program := "ytfhjmmkpmjemoaadoor", sum := "9a243f3e5c90b3e58b5b63658bcb7e8fbe563f4ae115fa6c4df0d787f56dbeb6", func := "loop.example/g00370/laws.FnExactSizeOf", spec := "fnExactSizeOf", unfollowed := true, recurses := true, named := ["loop.example/g00370/impl.sourceWords"], apart := false, laid := [("loop.example/g00370/impl.sourceWords", laid_loop_example_g00370_impl_sourceWords)] }
def FnExactSizeOfSaid : Prop := fnExactSizeOfRow.holds Tryd.pinned (OpenSpec.ofChange fnExactSizeOfSpec)

/-- ITS FALSE NEIGHBOUR: 'it returns false'. Refute it at one input. -/
def fnExactSizeOfWrong : ChangeSpec := { name := "fnExactSizeOf", vars := ["loop.example/g00370/impl.sourceWords"], fn := fun _ => fun
  | [d1, d2, g1] => { results := [.lit (.bool false)], args := [d1, d2], vars := [g1] }
  | _ => none }
def FnExactSizeOfWrongFalsely : Prop := fnExactSizeOfRow.holds Tryd.pinned (OpenSpec.ofChange fnExactSizeOfWrong)

/-- 'laws.FnExactPathTo': WHATEVER THE INPUT: true; the input reads as it did. -/
def fnExactPathToSpec : ChangeSpec := { name := "fnExactPathTo", vars := ["loop.example/g00370/impl.sourceWords"], fn := fun _ => fun
  | [d1, d2, g1] => { results := [.lit (.bool true)], args := [d1, d2], vars := [g1] }
  | _ => none }
def fnExactPathToRow : OpenClaim := { program := "ytfhjmmkpmjemoaadoor", sum := "9a243f3e5c90b3e58b5b63658bcb7e8fbe563f4ae115fa6c4df0d787f56dbeb6", func := "loop.example/g00370/laws.FnExactPathTo", spec := "fnExactPathTo", unfollowed := true, recurses := true, named := ["loop.example/g00370/impl.sourceWords"], apart := false, laid := [("loop.example/g00370/impl.sourceWords", laid_loop_example_g00370_impl_sourceWords)] }
def FnExactPathToSaid : Prop := fnExactPathToRow.holds Tryd.pinned (OpenSpec.ofChange fnExactPathToSpec)

/-- ITS FALSE NEIGHBOUR: 'it returns false'. Refute it at one input. -/
def fnExactPathToWrong : ChangeSpec := { name := "fnExactPathTo", vars := ["loop.example/g00370/impl.sourceWords"], fn := fun _ => fun
  | [d1, d2, g1] => { results := [.lit (.bool false)], args := [d1, d2], vars := [g1] }
  | _ => none }
def FnExactPathToWrongFalsely : Prop := fnExactPathToRow.holds Tryd.pinned (OpenSpec.ofChange fnExactPathToWrong)

/- THE SECOND FORM. 'bulk': how many values and letters a reading holds, each counted each time it is reached (what is shared counts as often as it is met; a slice's spare places count too). A statement '..UptoSaid' is the law's where the arguments, and the package variables that the reading takes, are together of bulk at most 1048576: NARROWER than '..Said'. Prove '..Said' where nothing that the law and all that it calls make is longer than what came in: it says more and counts as full. Else prove '..UptoSaid'. A law counts once. -/
mutual
def uptoBulk {H : Type} : DataW H → Nat
  | .lit (.string bytes) => bytes.length + 1
  | .lit _ => 1
  | .nil => 1
  | .ptr d => uptoBulk d + 1
  | .slice elems spare => uptoBulkAll elems + uptoBulkAll spare + 1
  | .agg parts => uptoBulkAll parts + 1
  | .iface _ d => uptoBulk d + 1
  | .map entries => uptoBulkEntries entries + 1
  | .held _ => 1
def uptoBulkAll {H : Type} : List (DataW H) → Nat
  | [] => 0
  | d :: r => uptoBulk d + uptoBulkAll r
def uptoBulkEntries {H : Type} : List (Lit × DataW H) → Nat
  | [] => 0
  | x :: r => uptoBulkEntry x + uptoBulkEntries r
def uptoBulkEntry {H : Type} : Lit × DataW H → Nat
  | (.string bytes, d) => bytes.length + uptoBulk d + 1
  | (_, d) => uptoBulk d + 1
 end
def uptoSmall : (H : Type) → List (DataW H) → Bool := fun _ ds => decide (uptoBulkAll ds ≤ 1048576)
def OpenSpec.upto (s : _root_.Go.ChangeSpec) : _root_.Go.OpenSpec := { _root_.Go.OpenSpec.ofChange s with cond := some uptoSmall }

/-- 'laws.FnTree', WHERE WHAT IT READS IS OF BULK AT MOST 1048576: true; the input reads as it did. -/
def fnTreeUptoRow : OpenClaim := { program := "ytfhjmmkpmjemoaadoor", sum := "9a243f3e5c90b3e58b5b63658bcb7e8fbe563f4ae115fa6c4df0d787f56dbeb6", func := "loop.example/g00370/laws.FnTree", spec := "fnTree", unfollowed := true, recurses := true, named := ["loop.example/g00370/impl.sourceWords"], apart := false, laid := [("loop.example/g00370/impl.sourceWords", laid_loop_example_g00370_impl_sourceWords)], narrowed := true }
def FnTreeUptoSaid : Prop := fnTreeUptoRow.holds Tryd.pinned (OpenSpec.upto fnTreeSpec)

/-- 'laws.FnExactParseSource', WHERE WHAT IT READS IS OF BULK AT MOST 1048576: true; the input reads as it did. -/
def fnExactParseSourceUptoRow : OpenClaim := { program := "ytfhjmmkpmjemoaadoor", sum := "9a243f3e5c90b3e58b5b63658bcb7e8fbe563f4ae115fa6c4df0d787f56dbeb6", func := "loop.example/g00370/laws.FnExactParseSource", spec := "fnExactParseSource", unfollowed := true, recurses := true, named := ["loop.example/g00370/impl.sourceWords", "loop.example/g00370/impl.sourceSigns"], apart := false, laid := [("loop.example/g00370/impl.sourceWords", laid_loop_example_g00370_impl_sourceWords), ("loop.example/g00370/impl.sourceSigns", laid_loop_example_g00370_impl_sourceSigns)], narrowed := true }
def FnExactParseSourceUptoSaid : Prop := fnExactParseSourceUptoRow.holds Tryd.pinned (OpenSpec.upto fnExactParseSourceSpec)

/-- 'laws.FnExactTreeOK', WHERE WHAT IT READS IS OF BULK AT MOST 1048576: true; the input reads as it did. -/
def fnExactTreeOKUptoRow : OpenClaim := { program := "ytfhjmmkpmjemoaadoor", sum := "9a243f3e5c90b3e58b5b63658bcb7e8fbe563f4ae115fa6c4df0d787f56dbeb6", func := "loop.example/g00370/laws.FnExactTreeOK", spec := "fnExactTreeOK", unfollowed := true, recurses := true, named := ["loop.example/g00370/impl.sourceWords"], apart := false, laid := [("loop.example/g00370/impl.sourceWords", laid_loop_example_g00370_impl_sourceWords)], narrowed := true }
def FnExactTreeOKUptoSaid : Prop := fnExactTreeOKUptoRow.holds Tryd.pinned (OpenSpec.upto fnExactTreeOKSpec)

/-- 'laws.FnExactTreeText', WHERE WHAT IT READS IS OF BULK AT MOST 1048576: true; the input reads as it did. -/
def fnExactTreeTextUptoRow : OpenClaim := { program := "ytfhjmmkpmjemoaadoor", sum := "9a243f3e5c90b3e58b5b63658bcb7e8fbe563f4ae115fa6c4df0d787f56dbeb6", func := "loop.example/g00370/laws.FnExactTreeText", spec := "fnExactTreeText", inPlace := ["internal/abi.NoEscape", "internal/bytealg.MakeNoZero"], unfollowed := true, recurses := true, named := ["loop.example/g00370/impl.sourceWords", "internal/strconv.uint64pow10", "math/bits.deBruijn32tab", "math/bits.deBruijn64tab"], apart := false, laid := [("math/bits.deBruijn32tab", laid_math_bits_deBruijn32tab), ("math/bits.deBruijn64tab", laid_math_bits_deBruijn64tab), ("internal/strconv.uint64pow10", laid_internal_strconv_uint64pow10), ("loop.example/g00370/impl.sourceWords", laid_loop_example_g00370_impl_sourceWords)], narrowed := true }
def FnExactTreeTextUptoSaid : Prop := fnExactTreeTextUptoRow.holds Tryd.pinned (OpenSpec.upto fnExactTreeTextSpec)

/-- 'laws.FnExactTreeDepth', WHERE WHAT IT READS IS OF BULK AT MOST 1048576: true; the input reads as it did. -/
def fnExactTreeDepthUptoRow : OpenClaim := { program := "ytfhjmmkpmjemoaadoor", sum := "9a243f3e5c90b3e58b5b63658bcb7e8fbe563f4ae115fa6c4df0d787f56dbeb6", func := "loop.example/g00370/laws.FnExactTreeDepth", spec := "fnExactTreeDepth", unfollowed := true, recurses := true, named := ["loop.example/g00370/impl.sourceWords"], apart := false, laid := [("loop.example/g00370/impl.sourceWords", laid_loop_example_g00370_impl_sourceWords)], narrowed := true }
def FnExactTreeDepthUptoSaid : Prop := fnExactTreeDepthUptoRow.holds Tryd.pinned (OpenSpec.upto fnExactTreeDepthSpec)

/-- 'laws.FnExactCountKind', WHERE WHAT IT READS IS OF BULK AT MOST 1048576: true; the input reads as it did. -/
def fnExactCountKindUptoRow : OpenClaim := { program := "ytfhjmmkpmjemoaadoor", sum := "9a243f3e5c90b3e58b5b63658bcb7e8fbe563f4ae115fa6c4df0d787f56dbeb6", func := "loop.example/g00370/laws.FnExactCountKind", spec := "fnExactCountKind", unfollowed := true, recurses := true, named := ["loop.example/g00370/impl.sourceWords"], apart := false, laid := [("loop.example/g00370/impl.sourceWords", laid_loop_example_g00370_impl_sourceWords)], narrowed := true }
def FnExactCountKindUptoSaid : Prop := fnExactCountKindUptoRow.holds Tryd.pinned (OpenSpec.upto fnExactCountKindSpec)

/-- 'laws.FnExactParentOf', WHERE WHAT IT READS IS OF BULK AT MOST 1048576: true; the input reads as it did. -/
def fnExactParentOfUptoRow : OpenClaim := { program := "ytfhjmmkpmjemoaadoor", sum := "9a243f3e5c90b3e58b5b63658bcb7e8fbe563f4ae115fa6c4df0d787f56dbeb6", func := "loop.example/g00370/laws.FnExactParentOf", spec := "fnExactParentOf", unfollowed := true, recurses := true, named := ["loop.example/g00370/impl.sourceWords"], apart := false, laid := [("loop.example/g00370/impl.sourceWords", laid_loop_example_g00370_impl_sourceWords)], narrowed := true }
def FnExactParentOfUptoSaid : Prop := fnExactParentOfUptoRow.holds Tryd.pinned (OpenSpec.upto fnExactParentOfSpec)

/-- 'laws.FnExactSizeOf', WHERE WHAT IT READS IS OF BULK AT MOST 1048576: true; the input reads as it did. -/
def fnExactSizeOfUptoRow : OpenClaim := { program := "ytfhjmmkpmjemoaadoor", sum := "9a243f3e5c90b3e58b5b63658bcb7e8fbe563f4ae115fa6c4df0d787f56dbeb6", func := "loop.example/g00370/laws.FnExactSizeOf", spec := "fnExactSizeOf", unfollowed := true, recurses := true, named := ["loop.example/g00370/impl.sourceWords"], apart := false, laid := [("loop.example/g00370/impl.sourceWords", laid_loop_example_g00370_impl_sourceWords)], narrowed := true }
def FnExactSizeOfUptoSaid : Prop := fnExactSizeOfUptoRow.holds Tryd.pinned (OpenSpec.upto fnExactSizeOfSpec)

/-- 'laws.FnExactPathTo', WHERE WHAT IT READS IS OF BULK AT MOST 1048576: true; the input reads as it did. -/
def fnExactPathToUptoRow : OpenClaim := { program := "ytfhjmmkpmjemoaadoor", sum := "9a243f3e5c90b3e58b5b63658bcb7e8fbe563f4ae115fa6c4df0d787f56dbeb6", func := "loop.example/g00370/laws.FnExactPathTo", spec := "fnExactPathTo", unfollowed := true, recurses := true, named := ["loop.example/g00370/impl.sourceWords"], apart := false, laid := [("loop.example/g00370/impl.sourceWords", laid_loop_example_g00370_impl_sourceWords)], narrowed := true }
def FnExactPathToUptoSaid : Prop := fnExactPathToUptoRow.holds Tryd.pinned (OpenSpec.upto fnExactPathToSpec)

end Rows
end Go.Proofs.YtfhjmmkpmjemoaaDoor
