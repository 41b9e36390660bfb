/-
  DERIVED. GIVEN WITH THE SEED: THE CARDS: each row of YtcgabonoddloiaaGreatDoorRows.lean that lists a variable, with what it lists TIED to the program's text (the seventh form; the later family's looks); each row that meets fmt, with fmt's text TOLD by the authors' own Lean function (tested against real Go, not proved from fmt's source: count such statements apart). THE CARD IS WHAT COUNTS. Prove the row's statement (the work); the ties are given (YtcgabonoddloiaaGreatDoorTie.lean); close each card by the builder's one call (the guide's Derived/Test/ToyasCard.lean, 'card_holds'). Laid BY PROGRAM, IN A SANDBOX (cutbox-door.mjs). By AI agents, Wed Nov 11 2026. No macro, syntax, notation, axiom, sorry.
-/
import Derived.Test.YtcgabonoddloiaaGreatDoorRows
import GoSem.ClaimSeven
namespace Go.Proofs.YtcgabonoddloiaaGreatDoor
namespace Rows

/-- THE TIED CARD OF 'threadbarelaw11.ClockDates'. -/
def clockDatesCard : Claim7 := { stood := { row := clockDatesRow, standIns := [], harness := (true, "8862a9faaf792f4417fbf3e0920ddd10e136778f868b1ac93b8601be7bf6cf68"), looks := false }, kinds := [], alts := [], laidByText := true, laidKinds := [.data, .data, .data, .data, .data, .data, .pinned, .pinned], laidTests := true, laidLooks := .later }
def ClockDatesCardSaid : Prop := Claim7.holds Tryz.pinned (.plain (OpenSpec.ofChange clockDatesSpec)) clockDatesCard

/-- THE TIED CARD OF 'threadbarelaw11.ClockWeeks'. -/
def clockWeeksCard : Claim7 := { stood := { row := clockWeeksRow, standIns := [], harness := (true, "8862a9faaf792f4417fbf3e0920ddd10e136778f868b1ac93b8601be7bf6cf68"), looks := false }, kinds := [], alts := [], laidByText := true, laidKinds := [.data, .data, .data, .data, .data, .data, .pinned, .pinned], laidTests := true, laidLooks := .later }
def ClockWeeksCardSaid : Prop := Claim7.holds Tryz.pinned (.plain (OpenSpec.ofChange clockWeeksSpec)) clockWeeksCard

/-- THE TIED CARD OF 'threadbarelaw11.ClockUnits'. -/
def clockUnitsCard : Claim7 := { stood := { row := clockUnitsRow, standIns := [], harness := (true, "8862a9faaf792f4417fbf3e0920ddd10e136778f868b1ac93b8601be7bf6cf68"), looks := false }, kinds := [], alts := [], laidByText := true, laidKinds := [.data, .data, .data, .data, .data, .data, .pinned, .pinned], laidTests := true, laidLooks := .later }
def ClockUnitsCardSaid : Prop := Claim7.holds Tryz.pinned (.plain (OpenSpec.ofChange clockUnitsSpec)) clockUnitsCard

/-- THE TIED CARD OF 'threadbarelaw11.ClockWrites'. -/
def clockWritesCard : Claim7 := { stood := { row := clockWritesRow, standIns := [], harness := (true, "8862a9faaf792f4417fbf3e0920ddd10e136778f868b1ac93b8601be7bf6cf68"), looks := false }, kinds := [], alts := [], laidByText := true, laidKinds := [.data, .data, .data, .data, .data, .data, .pinned, .pinned], laidTests := true, laidLooks := .later }
def ClockWritesCardSaid : Prop := Claim7.holds Tryz.pinned (.plain (OpenSpec.ofChange clockWritesSpec)) clockWritesCard

/-- THE SECOND FORM's CARD OF 'threadbarelaw11.ClockDates'. -/
def clockDatesUptoCard : Claim7 := { stood := { row := clockDatesUptoRow, standIns := [], harness := (true, "8862a9faaf792f4417fbf3e0920ddd10e136778f868b1ac93b8601be7bf6cf68"), looks := false }, kinds := [], alts := [], laidByText := true, laidKinds := [.data, .data, .data, .data, .data, .data, .pinned, .pinned], laidTests := true, laidLooks := .later }
def ClockDatesUptoCardSaid : Prop := Claim7.holds Tryz.pinned (.plain (OpenSpec.upto clockDatesSpec)) clockDatesUptoCard

/-- THE SECOND FORM's CARD OF 'threadbarelaw11.ClockWeeks'. -/
def clockWeeksUptoCard : Claim7 := { stood := { row := clockWeeksUptoRow, standIns := [], harness := (true, "8862a9faaf792f4417fbf3e0920ddd10e136778f868b1ac93b8601be7bf6cf68"), looks := false }, kinds := [], alts := [], laidByText := true, laidKinds := [.data, .data, .data, .data, .data, .data, .pinned, .pinned], laidTests := true, laidLooks := .later }
def ClockWeeksUptoCardSaid : Prop := Claim7.holds Tryz.pinned (.plain (OpenSpec.upto clockWeeksSpec)) clockWeeksUptoCard

/-- THE SECOND FORM's CARD OF 'threadbarelaw11.ClockUnits'. -/
def clockUnitsUptoCard : Claim7 := { stood := { row := clockUnitsUptoRow, standIns := [], harness := (true, "8862a9faaf792f4417fbf3e0920ddd10e136778f868b1ac93b8601be7bf6cf68"), looks := false }, kinds := [], alts := [], laidByText := true, laidKinds := [.data, .data, .data, .data, .data, .data, .pinned, .pinned], laidTests := true, laidLooks := .later }
def ClockUnitsUptoCardSaid : Prop := Claim7.holds Tryz.pinned (.plain (OpenSpec.upto clockUnitsSpec)) clockUnitsUptoCard

/-- THE SECOND FORM's CARD OF 'threadbarelaw11.ClockWrites'. -/
def clockWritesUptoCard : Claim7 := { stood := { row := clockWritesUptoRow, standIns := [], harness := (true, "8862a9faaf792f4417fbf3e0920ddd10e136778f868b1ac93b8601be7bf6cf68"), looks := false }, kinds := [], alts := [], laidByText := true, laidKinds := [.data, .data, .data, .data, .data, .data, .pinned, .pinned], laidTests := true, laidLooks := .later }
def ClockWritesUptoCardSaid : Prop := Claim7.holds Tryz.pinned (.plain (OpenSpec.upto clockWritesSpec)) clockWritesUptoCard
end Rows
end Go.Proofs.YtcgabonoddloiaaGreatDoor
