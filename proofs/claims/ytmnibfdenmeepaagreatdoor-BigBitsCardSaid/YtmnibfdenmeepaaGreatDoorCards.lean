/-
  DERIVED. GIVEN WITH THE SEED: THE CARDS: each row of YtmnibfdenmeepaaGreatDoorRows.lean that lists a variable, with what it lists TIED to the program's text (the seventh form; the later family's looks); each row that meets fmt, with fmt's text TOLD by the authors' own Lean function (tested against real Go, not proved from fmt's source: count such statements apart). THE CARD IS WHAT COUNTS. Prove the row's statement (the work); the ties are given (YtmnibfdenmeepaaGreatDoorTie.lean); close each card by the builder's one call (the guide's Derived/Test/ToyasCard.lean, 'card_holds'). Laid BY PROGRAM, IN A SANDBOX (cutbox-door.mjs). By AI agents, Wed Nov 11 2026. No macro, syntax, notation, axiom, sorry.
-/
import Derived.Test.YtmnibfdenmeepaaGreatDoorRows
import GoSem.ClaimSeven
namespace Go.Proofs.YtmnibfdenmeepaaGreatDoor
namespace Rows

/-- THE TIED CARD OF 'threadbarelaw03.BigBits'. -/
def bigBitsCard : Claim7 := { stood := { row := bigBitsRow, standIns := [], harness := (true, "4c83906c60ce7667ce366ffd03acd2505bfeaab4f4804bc203ef9efd6248d3f1"), looks := false }, kinds := [], alts := [], laidByText := true, laidKinds := [.data, .data, .data], laidTests := true, laidLooks := .later }
def BigBitsCardSaid : Prop := Claim7.holds Tryz.pinned (.plain (OpenSpec.ofChange bigBitsSpec)) bigBitsCard

/-- THE SECOND FORM's CARD OF 'threadbarelaw03.BigBits'. -/
def bigBitsUptoCard : Claim7 := { stood := { row := bigBitsUptoRow, standIns := [], harness := (true, "4c83906c60ce7667ce366ffd03acd2505bfeaab4f4804bc203ef9efd6248d3f1"), looks := false }, kinds := [], alts := [], laidByText := true, laidKinds := [.data, .data, .data], laidTests := true, laidLooks := .later }
def BigBitsUptoCardSaid : Prop := Claim7.holds Tryz.pinned (.plain (OpenSpec.upto bigBitsSpec)) bigBitsUptoCard
end Rows
end Go.Proofs.YtmnibfdenmeepaaGreatDoor
