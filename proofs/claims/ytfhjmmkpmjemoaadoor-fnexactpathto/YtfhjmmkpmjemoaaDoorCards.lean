/-
  DERIVED. GIVEN WITH THE SEED: THE CARDS: each row of YtfhjmmkpmjemoaaDoorRows.lean that lists a variable, with what it lists TIED to the program's text (the seventh form; the later family's looks); each row that meets fmt, with fmt's text TOLD by the authors' own Lean function (tested against real Go, not proved from fmt's source: count such statements apart). THE CARD IS WHAT COUNTS. Prove the row's statement (the work); the ties are given (YtfhjmmkpmjemoaaDoorTie.lean); close each card by the builder's one call (the guide's Derived/Test/ToyasCard.lean, 'card_holds'). Laid BY PROGRAM, IN A SANDBOX (cutbox-door.mjs). By AI agents, Wed Nov 11 2026. No macro, syntax, notation, axiom, sorry.
-/
import Derived.Test.YtfhjmmkpmjemoaaDoorRows
import GoSem.ClaimSeven
namespace Go.Proofs.YtfhjmmkpmjemoaaDoor
namespace Rows

/-- THE TIED CARD OF 'laws.FnTree'. -/
def fnTreeCard : Claim7 := { stood := { row := fnTreeRow, standIns := [], harness := (true, "abe9c8bbdfdacb372d9181b7558202a1e783613615a3219d15b9d100bf698dec"), looks := false }, kinds := [], alts := [], laidByText := true, laidKinds := [.data], laidTests := true, laidLooks := .later }
def FnTreeCardSaid : Prop := Claim7.holds Tryd.pinned (.plain (OpenSpec.ofChange fnTreeSpec)) fnTreeCard

/-- THE TIED CARD OF 'laws.FnExactParseSource'. -/
def fnExactParseSourceCard : Claim7 := { stood := { row := fnExactParseSourceRow, standIns := [], harness := (true, "abe9c8bbdfdacb372d9181b7558202a1e783613615a3219d15b9d100bf698dec"), looks := false }, kinds := [], alts := [], laidByText := true, laidKinds := [.data, .data], laidTests := true, laidLooks := .later }
def FnExactParseSourceCardSaid : Prop := Claim7.holds Tryd.pinned (.plain (OpenSpec.ofChange fnExactParseSourceSpec)) fnExactParseSourceCard

/-- THE TIED CARD OF 'laws.FnExactTreeOK'. -/
def fnExactTreeOKCard : Claim7 := { stood := { row := fnExactTreeOKRow, standIns := [], harness := (true, "abe9c8bbdfdacb372d9181b7558202a1e783613615a3219d15b9d100bf698dec"), looks := false }, kinds := [], alts := [], laidByText := true, laidKinds := [.data], laidTests := true, laidLooks := .later }
def FnExactTreeOKCardSaid : Prop := Claim7.holds Tryd.pinned (.plain (OpenSpec.ofChange fnExactTreeOKSpec)) fnExactTreeOKCard

/-- THE TIED CARD OF 'laws.FnExactTreeText'. -/
def fnExactTreeTextCard : Claim7 := { stood := { row := fnExactTreeTextRow, standIns := [], harness := (true, "abe9c8bbdfdacb372d9181b7558202a1e783613615a3219d15b9d100bf698dec"), looks := false }, kinds := [], alts := [], laidByText := true, laidKinds := [.data, .data, .data, .data], laidTests := true, laidLooks := .later }
def FnExactTreeTextCardSaid : Prop := Claim7.holds Tryd.pinned (.plain (OpenSpec.ofChange fnExactTreeTextSpec)) fnExactTreeTextCard

/-- THE TIED CARD OF 'laws.FnExactTreeDepth'. -/
def fnExactTreeDepthCard : Claim7 := { stood := { row := fnExactTreeDepthRow, standIns := [], harness := (true, "abe9c8bbdfdacb372d9181b7558202a1e783613615a3219d15b9d100bf698dec"), looks := false }, kinds := [], alts := [], laidByText := true, laidKinds := [.data], laidTests := true, laidLooks := .later }
def FnExactTreeDepthCardSaid : Prop := Claim7.holds Tryd.pinned (.plain (OpenSpec.ofChange fnExactTreeDepthSpec)) fnExactTreeDepthCard

/-- THE TIED CARD OF 'laws.FnExactCountKind'. -/
def fnExactCountKindCard : Claim7 := { stood := { row := fnExactCountKindRow, standIns := [], harness := (true, "abe9c8bbdfdacb372d9181b7558202a1e783613615a3219d15b9d100bf698dec"), looks := false }, kinds := [], alts := [], laidByText := true, laidKinds := [.data], laidTests := true, laidLooks := .later }
def FnExactCountKindCardSaid : Prop := Claim7.holds Tryd.pinned (.plain (OpenSpec.ofChange fnExactCountKindSpec)) fnExactCountKindCard

/-- THE TIED CARD OF 'laws.FnExactParentOf'. -/
def fnExactParentOfCard : Claim7 := { stood := { row := fnExactParentOfRow, standIns := [], harness := (true, "abe9c8bbdfdacb372d9181b7558202a1e783613615a3219d15b9d100bf698dec"), looks := false }, kinds := [], alts := [], laidByText := true, laidKinds := [.data], laidTests := true, laidLooks := .later }
def FnExactParentOfCardSaid : Prop := Claim7.holds Tryd.pinned (.plain (OpenSpec.ofChange fnExactParentOfSpec)) fnExactParentOfCard

/-- THE TIED CARD OF 'laws.FnExactSizeOf'. -/
def fnExactSizeOfCard : Claim7 := { stood := { row := fnExactSizeOfRow, standIns := [], harness := (true, "abe9c8bbdfdacb372d9181b7558202a1e783613615a3219d15b9d100bf698dec"), looks := false }, kinds := [], alts := [], laidByText := true, laidKinds := [.data], laidTests := true, laidLooks := .later }
def FnExactSizeOfCardSaid : Prop := Claim7.holds Tryd.pinned (.plain (OpenSpec.ofChange fnExactSizeOfSpec)) fnExactSizeOfCard

/-- THE TIED CARD OF 'laws.FnExactPathTo'. -/
def fnExactPathToCard : Claim7 := { stood := { row := fnExactPathToRow, standIns := [], harness := (true, "abe9c8bbdfdacb372d9181b7558202a1e783613615a3219d15b9d100bf698dec"), looks := false }, kinds := [], alts := [], laidByText := true, laidKinds := [.data], laidTests := true, laidLooks := .later }
def FnExactPathToCardSaid : Prop := Claim7.holds Tryd.pinned (.plain (OpenSpec.ofChange fnExactPathToSpec)) fnExactPathToCard

/-- THE SECOND FORM's CARD OF 'laws.FnTree'. -/
def fnTreeUptoCard : Claim7 := { stood := { row := fnTreeUptoRow, standIns := [], harness := (true, "abe9c8bbdfdacb372d9181b7558202a1e783613615a3219d15b9d100bf698dec"), looks := false }, kinds := [], alts := [], laidByText := true, laidKinds := [.data], laidTests := true, laidLooks := .later }
def FnTreeUptoCardSaid : Prop := Claim7.holds Tryd.pinned (.plain (OpenSpec.upto fnTreeSpec)) fnTreeUptoCard

/-- THE SECOND FORM's CARD OF 'laws.FnExactParseSource'. -/
def fnExactParseSourceUptoCard : Claim7 := { stood := { row := fnExactParseSourceUptoRow, standIns := [], harness := (true, "abe9c8bbdfdacb372d9181b7558202a1e783613615a3219d15b9d100bf698dec"), looks := false }, kinds := [], alts := [], laidByText := true, laidKinds := [.data, .data], laidTests := true, laidLooks := .later }
def FnExactParseSourceUptoCardSaid : Prop := Claim7.holds Tryd.pinned (.plain (OpenSpec.upto fnExactParseSourceSpec)) fnExactParseSourceUptoCard

/-- THE SECOND FORM's CARD OF 'laws.FnExactTreeOK'. -/
def fnExactTreeOKUptoCard : Claim7 := { stood := { row := fnExactTreeOKUptoRow, standIns := [], harness := (true, "abe9c8bbdfdacb372d9181b7558202a1e783613615a3219d15b9d100bf698dec"), looks := false }, kinds := [], alts := [], laidByText := true, laidKinds := [.data], laidTests := true, laidLooks := .later }
def FnExactTreeOKUptoCardSaid : Prop := Claim7.holds Tryd.pinned (.plain (OpenSpec.upto fnExactTreeOKSpec)) fnExactTreeOKUptoCard

/-- THE SECOND FORM's CARD OF 'laws.FnExactTreeText'. -/
def fnExactTreeTextUptoCard : Claim7 := { stood := { row := fnExactTreeTextUptoRow, standIns := [], harness := (true, "abe9c8bbdfdacb372d9181b7558202a1e783613615a3219d15b9d100bf698dec"), looks := false }, kinds := [], alts := [], laidByText := true, laidKinds := [.data, .data, .data, .data], laidTests := true, laidLooks := .later }
def FnExactTreeTextUptoCardSaid : Prop := Claim7.holds Tryd.pinned (.plain (OpenSpec.upto fnExactTreeTextSpec)) fnExactTreeTextUptoCard

/-- THE SECOND FORM's CARD OF 'laws.FnExactTreeDepth'. -/
def fnExactTreeDepthUptoCard : Claim7 := { stood := { row := fnExactTreeDepthUptoRow, standIns := [], harness := (true, "abe9c8bbdfdacb372d9181b7558202a1e783613615a3219d15b9d100bf698dec"), looks := false }, kinds := [], alts := [], laidByText := true, laidKinds := [.data], laidTests := true, laidLooks := .later }
def FnExactTreeDepthUptoCardSaid : Prop := Claim7.holds Tryd.pinned (.plain (OpenSpec.upto fnExactTreeDepthSpec)) fnExactTreeDepthUptoCard

/-- THE SECOND FORM's CARD OF 'laws.FnExactCountKind'. -/
def fnExactCountKindUptoCard : Claim7 := { stood := { row := fnExactCountKindUptoRow, standIns := [], harness := (true, "abe9c8bbdfdacb372d9181b7558202a1e783613615a3219d15b9d100bf698dec"), looks := false }, kinds := [], alts := [], laidByText := true, laidKinds := [.data], laidTests := true, laidLooks := .later }
def FnExactCountKindUptoCardSaid : Prop := Claim7.holds Tryd.pinned (.plain (OpenSpec.upto fnExactCountKindSpec)) fnExactCountKindUptoCard

/-- THE SECOND FORM's CARD OF 'laws.FnExactParentOf'. -/
def fnExactParentOfUptoCard : Claim7 := { stood := { row := fnExactParentOfUptoRow, standIns := [], harness := (true, "abe9c8bbdfdacb372d9181b7558202a1e783613615a3219d15b9d100bf698dec"), looks := false }, kinds := [], alts := [], laidByText := true, laidKinds := [.data], laidTests := true, laidLooks := .later }
def FnExactParentOfUptoCardSaid : Prop := Claim7.holds Tryd.pinned (.plain (OpenSpec.upto fnExactParentOfSpec)) fnExactParentOfUptoCard

/-- THE SECOND FORM's CARD OF 'laws.FnExactSizeOf'. -/
def fnExactSizeOfUptoCard : Claim7 := { stood := { row := fnExactSizeOfUptoRow, standIns := [], harness := (true, "abe9c8bbdfdacb372d9181b7558202a1e783613615a3219d15b9d100bf698dec"), looks := false }, kinds := [], alts := [], laidByText := true, laidKinds := [.data], laidTests := true, laidLooks := .later }
def FnExactSizeOfUptoCardSaid : Prop := Claim7.holds Tryd.pinned (.plain (OpenSpec.upto fnExactSizeOfSpec)) fnExactSizeOfUptoCard

/-- THE SECOND FORM's CARD OF 'laws.FnExactPathTo'. -/
def fnExactPathToUptoCard : Claim7 := { stood := { row := fnExactPathToUptoRow, standIns := [], harness := (true, "abe9c8bbdfdacb372d9181b7558202a1e783613615a3219d15b9d100bf698dec"), looks := false }, kinds := [], alts := [], laidByText := true, laidKinds := [.data], laidTests := true, laidLooks := .later }
def FnExactPathToUptoCardSaid : Prop := Claim7.holds Tryd.pinned (.plain (OpenSpec.upto fnExactPathToSpec)) fnExactPathToUptoCard
end Rows
end Go.Proofs.YtfhjmmkpmjemoaaDoor
