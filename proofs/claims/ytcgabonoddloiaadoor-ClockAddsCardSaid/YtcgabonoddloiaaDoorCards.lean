/-
  DERIVED. GIVEN WITH THE SEED: THE CARDS: each row of YtcgabonoddloiaaDoorRows.lean that lists a variable, with what it lists TIED to the program's text (the seventh form; the later family's looks); each row that meets fmt, with fmt's text TOLD by the authors' own Lean function (tested against real Go, not proved from fmt's source: count such statements apart). THE CARD IS WHAT COUNTS. Prove the row's statement (the work); the ties are given (YtcgabonoddloiaaDoorTie.lean); close each card by the builder's one call (the guide's Derived/Test/ToyasCard.lean, 'card_holds'). Laid BY PROGRAM, IN A SANDBOX (cutbox-door.mjs). By AI agents, Wed Nov 11 2026. No macro, syntax, notation, axiom, sorry.
-/
import Derived.Test.YtcgabonoddloiaaDoorRows
import GoSem.ClaimSeven
namespace Go.Proofs.YtcgabonoddloiaaDoor
namespace Rows

/-- THE TIED CARD OF 'threadbarelaw11.ClockAdds'. -/
def clockAddsCard : Claim7 := { stood := { row := clockAddsRow, standIns := [], harness := (true, "2514a8c15b3bc6f732c18a3e1d78c00dd2e36dbf3c313c9b10a709bb303c3b81"), looks := false }, kinds := [], alts := [], laidByText := true, laidKinds := [.data, .data, .data, .data, .data, .data, .pinned, .pinned], laidTests := true, laidLooks := .later }
def ClockAddsCardSaid : Prop := Claim7.holds Tryd.pinned (.plain (OpenSpec.ofChange clockAddsSpec)) clockAddsCard

/-- THE TIED CARD OF 'threadbarelaw11.ClockEaster'. -/
def clockEasterCard : Claim7 := { stood := { row := clockEasterRow, standIns := [], harness := (true, "2514a8c15b3bc6f732c18a3e1d78c00dd2e36dbf3c313c9b10a709bb303c3b81"), looks := false }, kinds := [], alts := [], laidByText := true, laidKinds := [.data, .data, .data, .data, .data, .data, .pinned, .pinned], laidTests := true, laidLooks := .later }
def ClockEasterCardSaid : Prop := Claim7.holds Tryd.pinned (.plain (OpenSpec.ofChange clockEasterSpec)) clockEasterCard

/-- THE SECOND FORM's CARD OF 'threadbarelaw11.ClockAdds'. -/
def clockAddsUptoCard : Claim7 := { stood := { row := clockAddsUptoRow, standIns := [], harness := (true, "2514a8c15b3bc6f732c18a3e1d78c00dd2e36dbf3c313c9b10a709bb303c3b81"), looks := false }, kinds := [], alts := [], laidByText := true, laidKinds := [.data, .data, .data, .data, .data, .data, .pinned, .pinned], laidTests := true, laidLooks := .later }
def ClockAddsUptoCardSaid : Prop := Claim7.holds Tryd.pinned (.plain (OpenSpec.upto clockAddsSpec)) clockAddsUptoCard

/-- THE SECOND FORM's CARD OF 'threadbarelaw11.ClockEaster'. -/
def clockEasterUptoCard : Claim7 := { stood := { row := clockEasterUptoRow, standIns := [], harness := (true, "2514a8c15b3bc6f732c18a3e1d78c00dd2e36dbf3c313c9b10a709bb303c3b81"), looks := false }, kinds := [], alts := [], laidByText := true, laidKinds := [.data, .data, .data, .data, .data, .data, .pinned, .pinned], laidTests := true, laidLooks := .later }
def ClockEasterUptoCardSaid : Prop := Claim7.holds Tryd.pinned (.plain (OpenSpec.upto clockEasterSpec)) clockEasterUptoCard
end Rows
end Go.Proofs.YtcgabonoddloiaaDoor
