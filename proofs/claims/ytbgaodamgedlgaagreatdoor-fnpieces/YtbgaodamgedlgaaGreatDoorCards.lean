/-
  DERIVED. GIVEN WITH THE SEED: THE CARDS: each row of YtbgaodamgedlgaaGreatDoorRows.lean that lists a variable, with what it lists TIED to the program's text (the seventh form; the later family's looks); each row that meets fmt, with fmt's text TOLD by the authors' own Lean function (tested against real Go, not proved from fmt's source: count such statements apart). THE CARD IS WHAT COUNTS. Prove the row's statement (the work); the ties are given (YtbgaodamgedlgaaGreatDoorTie.lean); close each card by the builder's one call (the guide's Derived/Test/ToyasCard.lean, 'card_holds'). Laid BY PROGRAM, IN A SANDBOX (cutbox-door.mjs). By AI agents, Wed Nov 11 2026. No macro, syntax, notation, axiom, sorry.
-/
import Derived.Test.YtbgaodamgedlgaaGreatDoorRows
import GoSem.ClaimSeven
namespace Go.Proofs.YtbgaodamgedlgaaGreatDoor
namespace Rows

/-- THE TIED CARD OF 'laws.FnConns'. -/
def fnConnsCard : Claim7 := { stood := { row := fnConnsRow, standIns := [], harness := (true, "54843e9ef8ed0d7c3b70bdaf49ca96e848a7e4f2000086d6747f569da5daaf09"), looks := false }, kinds := [], alts := [], laidByText := true, laidKinds := [.data, .data, .data, .data, .data, .pinned], laidTests := true, laidLooks := .later }
def FnConnsCardSaid : Prop := Claim7.holds Tryz.pinned (.plain (OpenSpec.ofChange fnConnsSpec)) fnConnsCard

/-- THE TIED CARD OF 'laws.FnPieces'. -/
def fnPiecesCard : Claim7 := { stood := { row := fnPiecesRow, standIns := [], harness := (true, "54843e9ef8ed0d7c3b70bdaf49ca96e848a7e4f2000086d6747f569da5daaf09"), looks := false }, kinds := [], alts := [], laidByText := true, laidKinds := [.data, .data, .data, .data, .data, .pinned], laidTests := true, laidLooks := .later }
def FnPiecesCardSaid : Prop := Claim7.holds Tryz.pinned (.plain (OpenSpec.ofChange fnPiecesSpec)) fnPiecesCard

/-- THE SECOND FORM's CARD OF 'laws.FnConns'. -/
def fnConnsUptoCard : Claim7 := { stood := { row := fnConnsUptoRow, standIns := [], harness := (true, "54843e9ef8ed0d7c3b70bdaf49ca96e848a7e4f2000086d6747f569da5daaf09"), looks := false }, kinds := [], alts := [], laidByText := true, laidKinds := [.data, .data, .data, .data, .data, .pinned], laidTests := true, laidLooks := .later }
def FnConnsUptoCardSaid : Prop := Claim7.holds Tryz.pinned (.plain (OpenSpec.upto fnConnsSpec)) fnConnsUptoCard

/-- THE SECOND FORM's CARD OF 'laws.FnPieces'. -/
def fnPiecesUptoCard : Claim7 := { stood := { row := fnPiecesUptoRow, standIns := [], harness := (true, "54843e9ef8ed0d7c3b70bdaf49ca96e848a7e4f2000086d6747f569da5daaf09"), looks := false }, kinds := [], alts := [], laidByText := true, laidKinds := [.data, .data, .data, .data, .data, .pinned], laidTests := true, laidLooks := .later }
def FnPiecesUptoCardSaid : Prop := Claim7.holds Tryz.pinned (.plain (OpenSpec.upto fnPiecesSpec)) fnPiecesUptoCard
end Rows
end Go.Proofs.YtbgaodamgedlgaaGreatDoor
