/-
  DERIVED. GIVEN WITH THE SEED: THE CARDS: each row of YtpfglgfmebjeiaaDoorRows.lean that lists a variable, with what it lists TIED to the program's text (the seventh form; the later family's looks); each row that meets fmt, with fmt's text TOLD by the authors' own Lean function (tested against real Go, not proved from fmt's source: count such statements apart). THE CARD IS WHAT COUNTS. Prove the row's statement (the work); the ties are given (YtpfglgfmebjeiaaDoorTie.lean); close each card by the builder's one call (the guide's Derived/Test/ToyasCard.lean, 'card_holds'). Laid BY PROGRAM, IN A SANDBOX (cutbox-door.mjs). By AI agents, Wed Nov 11 2026. No macro, syntax, notation, axiom, sorry.
-/
import Derived.Test.YtpfglgfmebjeiaaDoorRows
import GoSem.ClaimSeven
namespace Go.Proofs.YtpfglgfmebjeiaaDoor
namespace Rows

/-- THE TIED CARD OF 'laws.FnTree'. -/
def fnTreeCard : Claim7 := { stood := { row := fnTreeRow, standIns := [], harness := (true, "37d7ab8185456a840fdeff8a9c6aa562e4edafb5776bc564a9fce0ea34c0b15a"), looks := false }, kinds := [], alts := [], laidByText := true, laidKinds := [.data], laidTests := true, laidLooks := .later }
def FnTreeCardSaid : Prop := Claim7.holds Tryd.pinned (.plain (OpenSpec.ofChange fnTreeSpec)) fnTreeCard

/-- THE TIED CARD OF 'laws.FnExactTreeText'. -/
def fnExactTreeTextCard : Claim7 := { stood := { row := fnExactTreeTextRow, standIns := [], harness := (true, "37d7ab8185456a840fdeff8a9c6aa562e4edafb5776bc564a9fce0ea34c0b15a"), looks := false }, kinds := [], alts := [], laidByText := true, laidKinds := [.data, .data, .data, .data], laidTests := true, laidLooks := .later }
def FnExactTreeTextCardSaid : Prop := Claim7.holds Tryd.pinned (.plain (OpenSpec.ofChange fnExactTreeTextSpec)) fnExactTreeTextCard

/-- THE TIED CARD OF 'laws.FnExactFuncsOf'. -/
def fnExactFuncsOfCard : Claim7 := { stood := { row := fnExactFuncsOfRow, standIns := [], harness := (true, "37d7ab8185456a840fdeff8a9c6aa562e4edafb5776bc564a9fce0ea34c0b15a"), looks := false }, kinds := [], alts := [], laidByText := true, laidKinds := [.data], laidTests := true, laidLooks := .later }
def FnExactFuncsOfCardSaid : Prop := Claim7.holds Tryd.pinned (.plain (OpenSpec.ofChange fnExactFuncsOfSpec)) fnExactFuncsOfCard

/-- THE TIED CARD OF 'laws.FnExactScopeAt'. -/
def fnExactScopeAtCard : Claim7 := { stood := { row := fnExactScopeAtRow, standIns := [], harness := (true, "37d7ab8185456a840fdeff8a9c6aa562e4edafb5776bc564a9fce0ea34c0b15a"), looks := false }, kinds := [], alts := [], laidByText := true, laidKinds := [.data], laidTests := true, laidLooks := .later }
def FnExactScopeAtCardSaid : Prop := Claim7.holds Tryd.pinned (.plain (OpenSpec.ofChange fnExactScopeAtSpec)) fnExactScopeAtCard

/-- THE TIED CARD OF 'laws.FnExactUsesOf'. -/
def fnExactUsesOfCard : Claim7 := { stood := { row := fnExactUsesOfRow, standIns := [], harness := (true, "37d7ab8185456a840fdeff8a9c6aa562e4edafb5776bc564a9fce0ea34c0b15a"), looks := false }, kinds := [], alts := [], laidByText := true, laidKinds := [.data], laidTests := true, laidLooks := .later }
def FnExactUsesOfCardSaid : Prop := Claim7.holds Tryd.pinned (.plain (OpenSpec.ofChange fnExactUsesOfSpec)) fnExactUsesOfCard

/-- THE TIED CARD OF 'laws.FnExactCallsOf'. -/
def fnExactCallsOfCard : Claim7 := { stood := { row := fnExactCallsOfRow, standIns := [], harness := (true, "37d7ab8185456a840fdeff8a9c6aa562e4edafb5776bc564a9fce0ea34c0b15a"), looks := false }, kinds := [], alts := [], laidByText := true, laidKinds := [.data], laidTests := true, laidLooks := .later }
def FnExactCallsOfCardSaid : Prop := Claim7.holds Tryd.pinned (.plain (OpenSpec.ofChange fnExactCallsOfSpec)) fnExactCallsOfCard

/-- THE TIED CARD OF 'laws.FnExactComes'. -/
def fnExactComesCard : Claim7 := { stood := { row := fnExactComesRow, standIns := [], harness := (true, "37d7ab8185456a840fdeff8a9c6aa562e4edafb5776bc564a9fce0ea34c0b15a"), looks := false }, kinds := [], alts := [], laidByText := true, laidKinds := [.data], laidTests := true, laidLooks := .later }
def FnExactComesCardSaid : Prop := Claim7.holds Tryd.pinned (.plain (OpenSpec.ofChange fnExactComesSpec)) fnExactComesCard

/-- THE SECOND FORM's CARD OF 'laws.FnTree'. -/
def fnTreeUptoCard : Claim7 := { stood := { row := fnTreeUptoRow, standIns := [], harness := (true, "37d7ab8185456a840fdeff8a9c6aa562e4edafb5776bc564a9fce0ea34c0b15a"), looks := false }, kinds := [], alts := [], laidByText := true, laidKinds := [.data], laidTests := true, laidLooks := .later }
def FnTreeUptoCardSaid : Prop := Claim7.holds Tryd.pinned (.plain (OpenSpec.upto fnTreeSpec)) fnTreeUptoCard

/-- THE SECOND FORM's CARD OF 'laws.FnExactTreeText'. -/
def fnExactTreeTextUptoCard : Claim7 := { stood := { row := fnExactTreeTextUptoRow, standIns := [], harness := (true, "37d7ab8185456a840fdeff8a9c6aa562e4edafb5776bc564a9fce0ea34c0b15a"), looks := false }, kinds := [], alts := [], laidByText := true, laidKinds := [.data, .data, .data, .data], laidTests := true, laidLooks := .later }
def FnExactTreeTextUptoCardSaid : Prop := Claim7.holds Tryd.pinned (.plain (OpenSpec.upto fnExactTreeTextSpec)) fnExactTreeTextUptoCard

/-- THE SECOND FORM's CARD OF 'laws.FnExactFuncsOf'. -/
def fnExactFuncsOfUptoCard : Claim7 := { stood := { row := fnExactFuncsOfUptoRow, standIns := [], harness := (true, "37d7ab8185456a840fdeff8a9c6aa562e4edafb5776bc564a9fce0ea34c0b15a"), looks := false }, kinds := [], alts := [], laidByText := true, laidKinds := [.data], laidTests := true, laidLooks := .later }
def FnExactFuncsOfUptoCardSaid : Prop := Claim7.holds Tryd.pinned (.plain (OpenSpec.upto fnExactFuncsOfSpec)) fnExactFuncsOfUptoCard

/-- THE SECOND FORM's CARD OF 'laws.FnExactScopeAt'. -/
def fnExactScopeAtUptoCard : Claim7 := { stood := { row := fnExactScopeAtUptoRow, standIns := [], harness := (true, "37d7ab8185456a840fdeff8a9c6aa562e4edafb5776bc564a9fce0ea34c0b15a"), looks := false }, kinds := [], alts := [], laidByText := true, laidKinds := [.data], laidTests := true, laidLooks := .later }
def FnExactScopeAtUptoCardSaid : Prop := Claim7.holds Tryd.pinned (.plain (OpenSpec.upto fnExactScopeAtSpec)) fnExactScopeAtUptoCard

/-- THE SECOND FORM's CARD OF 'laws.FnExactUsesOf'. -/
def fnExactUsesOfUptoCard : Claim7 := { stood := { row := fnExactUsesOfUptoRow, standIns := [], harness := (true, "37d7ab8185456a840fdeff8a9c6aa562e4edafb5776bc564a9fce0ea34c0b15a"), looks := false }, kinds := [], alts := [], laidByText := true, laidKinds := [.data], laidTests := true, laidLooks := .later }
def FnExactUsesOfUptoCardSaid : Prop := Claim7.holds Tryd.pinned (.plain (OpenSpec.upto fnExactUsesOfSpec)) fnExactUsesOfUptoCard

/-- THE SECOND FORM's CARD OF 'laws.FnExactCallsOf'. -/
def fnExactCallsOfUptoCard : Claim7 := { stood := { row := fnExactCallsOfUptoRow, standIns := [], harness := (true, "37d7ab8185456a840fdeff8a9c6aa562e4edafb5776bc564a9fce0ea34c0b15a"), looks := false }, kinds := [], alts := [], laidByText := true, laidKinds := [.data], laidTests := true, laidLooks := .later }
def FnExactCallsOfUptoCardSaid : Prop := Claim7.holds Tryd.pinned (.plain (OpenSpec.upto fnExactCallsOfSpec)) fnExactCallsOfUptoCard

/-- THE SECOND FORM's CARD OF 'laws.FnExactComes'. -/
def fnExactComesUptoCard : Claim7 := { stood := { row := fnExactComesUptoRow, standIns := [], harness := (true, "37d7ab8185456a840fdeff8a9c6aa562e4edafb5776bc564a9fce0ea34c0b15a"), looks := false }, kinds := [], alts := [], laidByText := true, laidKinds := [.data], laidTests := true, laidLooks := .later }
def FnExactComesUptoCardSaid : Prop := Claim7.holds Tryd.pinned (.plain (OpenSpec.upto fnExactComesSpec)) fnExactComesUptoCard
end Rows
end Go.Proofs.YtpfglgfmebjeiaaDoor
