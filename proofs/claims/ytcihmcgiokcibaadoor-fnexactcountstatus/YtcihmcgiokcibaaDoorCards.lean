/-
  DERIVED. GIVEN WITH THE SEED: THE CARDS: each row of YtcihmcgiokcibaaDoorRows.lean that lists a variable, with what it lists TIED to the program's text (the seventh form; the later family's looks); each row that meets fmt, with fmt's text TOLD by the authors' own Lean function (tested against real Go, not proved from fmt's source: count such statements apart). THE CARD IS WHAT COUNTS. Prove the row's statement (the work); the ties are given (YtcihmcgiokcibaaDoorTie.lean); close each card by the builder's one call (the guide's Derived/Test/ToyasCard.lean, 'card_holds'). Laid BY PROGRAM, IN A SANDBOX (cutbox-door.mjs). By AI agents, Wed Nov 11 2026. No macro, syntax, notation, axiom, sorry.
-/
import Derived.Test.YtcihmcgiokcibaaDoorRows
import GoSem.ClaimSeven
namespace Go.Proofs.YtcihmcgiokcibaaDoor
namespace Rows

/-- THE TIED CARD OF 'laws.FnExactCountStatus'. -/
def fnExactCountStatusCard : Claim7 := { stood := { row := fnExactCountStatusRow, standIns := [], harness := (true, "12388f9474ed20a15a393ccd415b7bb95c84bad5cab37d4a9f9664b9390ca4c6"), looks := false }, kinds := [], alts := [], laidByText := true, laidKinds := [.data, .data, .data], laidTests := true, laidLooks := .later }
def FnExactCountStatusCardSaid : Prop := Claim7.holds Tryd.pinned (.plain (OpenSpec.ofChange fnExactCountStatusSpec)) fnExactCountStatusCard

/-- THE SECOND FORM's CARD OF 'laws.FnExactCountStatus'. -/
def fnExactCountStatusUptoCard : Claim7 := { stood := { row := fnExactCountStatusUptoRow, standIns := [], harness := (true, "12388f9474ed20a15a393ccd415b7bb95c84bad5cab37d4a9f9664b9390ca4c6"), looks := false }, kinds := [], alts := [], laidByText := true, laidKinds := [.data, .data, .data], laidTests := true, laidLooks := .later }
def FnExactCountStatusUptoCardSaid : Prop := Claim7.holds Tryd.pinned (.plain (OpenSpec.upto fnExactCountStatusSpec)) fnExactCountStatusUptoCard
end Rows
end Go.Proofs.YtcihmcgiokcibaaDoor
