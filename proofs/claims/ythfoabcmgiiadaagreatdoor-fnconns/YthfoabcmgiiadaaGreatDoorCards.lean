/-
  DERIVED. GIVEN WITH THE SEED: THE CARDS: each row of YthfoabcmgiiadaaGreatDoorRows.lean that lists a variable, with what it lists TIED to the program's text (the seventh form; the later family's looks); each row that meets fmt, with fmt's text TOLD by the authors' own Lean function (tested against real Go, not proved from fmt's source: count such statements apart). THE CARD IS WHAT COUNTS. Prove the row's statement (the work); the ties are given (YthfoabcmgiiadaaGreatDoorTie.lean); close each card by the builder's one call (the guide's Derived/Test/ToyasCard.lean, 'card_holds'). Laid BY PROGRAM, IN A SANDBOX (cutbox-door.mjs). By AI agents, Wed Nov 11 2026. No macro, syntax, notation, axiom, sorry.
-/
import Derived.Test.YthfoabcmgiiadaaGreatDoorRows
import GoSem.ClaimSeven
namespace Go.Proofs.YthfoabcmgiiadaaGreatDoor
namespace Rows

/-- THE TIED CARD OF 'laws.FnConns'. -/
def fnConnsCard : Claim7 := { stood := { row := fnConnsRow, standIns := [], harness := (true, "21021751ca0d7e00e43157ab89cf173bb19c5e67902cfe7c03a5ea7f64544171"), looks := false }, kinds := [], alts := [], laidByText := true, laidKinds := [.data, .data, .data, .data, .data, .pinned], laidTests := true, laidLooks := .later }
def FnConnsCardSaid : Prop := Claim7.holds Tryz.pinned (.plain (OpenSpec.ofChange fnConnsSpec)) fnConnsCard

/-- THE TIED CARD OF 'laws.FnPieces'. -/
def fnPiecesCard : Claim7 := { stood := { row := fnPiecesRow, standIns := [], harness := (true, "21021751ca0d7e00e43157ab89cf173bb19c5e67902cfe7c03a5ea7f64544171"), looks := false }, kinds := [], alts := [], laidByText := true, laidKinds := [.data, .data, .data, .data, .data, .pinned], laidTests := true, laidLooks := .later }
def FnPiecesCardSaid : Prop := Claim7.holds Tryz.pinned (.plain (OpenSpec.ofChange fnPiecesSpec)) fnPiecesCard

/-- THE TIED CARD OF 'laws.FnShut'. -/
def fnShutCard : Claim7 := { stood := { row := fnShutRow, standIns := [], harness := (true, "21021751ca0d7e00e43157ab89cf173bb19c5e67902cfe7c03a5ea7f64544171"), looks := false }, kinds := [], alts := [], laidByText := true, laidKinds := [.data, .data, .data, .data, .data, .pinned], laidTests := true, laidLooks := .later }
def FnShutCardSaid : Prop := Claim7.holds Tryz.pinned (.plain (OpenSpec.ofChange fnShutSpec)) fnShutCard

/-- THE SECOND FORM's CARD OF 'laws.FnConns'. -/
def fnConnsUptoCard : Claim7 := { stood := { row := fnConnsUptoRow, standIns := [], harness := (true, "21021751ca0d7e00e43157ab89cf173bb19c5e67902cfe7c03a5ea7f64544171"), looks := false }, kinds := [], alts := [], laidByText := true, laidKinds := [.data, .data, .data, .data, .data, .pinned], laidTests := true, laidLooks := .later }
def FnConnsUptoCardSaid : Prop := Claim7.holds Tryz.pinned (.plain (OpenSpec.upto fnConnsSpec)) fnConnsUptoCard

/-- THE SECOND FORM's CARD OF 'laws.FnPieces'. -/
def fnPiecesUptoCard : Claim7 := { stood := { row := fnPiecesUptoRow, standIns := [], harness := (true, "21021751ca0d7e00e43157ab89cf173bb19c5e67902cfe7c03a5ea7f64544171"), looks := false }, kinds := [], alts := [], laidByText := true, laidKinds := [.data, .data, .data, .data, .data, .pinned], laidTests := true, laidLooks := .later }
def FnPiecesUptoCardSaid : Prop := Claim7.holds Tryz.pinned (.plain (OpenSpec.upto fnPiecesSpec)) fnPiecesUptoCard

/-- THE SECOND FORM's CARD OF 'laws.FnShut'. -/
def fnShutUptoCard : Claim7 := { stood := { row := fnShutUptoRow, standIns := [], harness := (true, "21021751ca0d7e00e43157ab89cf173bb19c5e67902cfe7c03a5ea7f64544171"), looks := false }, kinds := [], alts := [], laidByText := true, laidKinds := [.data, .data, .data, .data, .data, .pinned], laidTests := true, laidLooks := .later }
def FnShutUptoCardSaid : Prop := Claim7.holds Tryz.pinned (.plain (OpenSpec.upto fnShutSpec)) fnShutUptoCard
end Rows
end Go.Proofs.YthfoabcmgiiadaaGreatDoor
