/-
  DERIVED. GIVEN WITH THE SEED: THE CARDS: each row of YtcdjdfmpnfodiaaDoorRows.lean that lists a variable, with what it lists TIED to the program's text (the seventh form; the later family's looks); each row that meets fmt, with fmt's text TOLD by the authors' own Lean function (tested against real Go, not proved from fmt's source: count such statements apart). THE CARD IS WHAT COUNTS. Prove the row's statement (the work); the ties are given (YtcdjdfmpnfodiaaDoorTie.lean); close each card by the builder's one call (the guide's Derived/Test/ToyasCard.lean, 'card_holds'). Laid BY PROGRAM, IN A SANDBOX (cutbox-door.mjs). By AI agents, Wed Nov 11 2026. No macro, syntax, notation, axiom, sorry.
-/
import Derived.Test.YtcdjdfmpnfodiaaDoorRows
import GoSem.ClaimSeven
namespace Go.Proofs.YtcdjdfmpnfodiaaDoor
namespace Rows

/-- THE TIED CARD OF 'laws.FnExactJobReply'. -/
def fnExactJobReplyCard : Claim7 := { stood := { row := fnExactJobReplyRow, standIns := [], harness := (true, "c1ba0d4c200283e20ad64f02635f2e7438071758d04993e67bca223b17293605"), looks := false }, kinds := [], alts := [], laidByText := true, laidKinds := [.data, .data, .data], laidTests := true, laidLooks := .later }
def FnExactJobReplyCardSaid : Prop := Claim7.holds Tryd.pinned (.plain (OpenSpec.ofChange fnExactJobReplySpec)) fnExactJobReplyCard

/-- THE SECOND FORM's CARD OF 'laws.FnExactJobReply'. -/
def fnExactJobReplyUptoCard : Claim7 := { stood := { row := fnExactJobReplyUptoRow, standIns := [], harness := (true, "c1ba0d4c200283e20ad64f02635f2e7438071758d04993e67bca223b17293605"), looks := false }, kinds := [], alts := [], laidByText := true, laidKinds := [.data, .data, .data], laidTests := true, laidLooks := .later }
def FnExactJobReplyUptoCardSaid : Prop := Claim7.holds Tryd.pinned (.plain (OpenSpec.upto fnExactJobReplySpec)) fnExactJobReplyUptoCard
end Rows
end Go.Proofs.YtcdjdfmpnfodiaaDoor
