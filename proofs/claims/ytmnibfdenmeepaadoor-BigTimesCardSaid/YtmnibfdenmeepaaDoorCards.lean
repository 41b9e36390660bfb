/-
  DERIVED. GIVEN WITH THE SEED: THE CARDS: each row of YtmnibfdenmeepaaDoorRows.lean that lists a variable, with what it lists TIED to the program's text (the seventh form; the later family's looks); each row that meets fmt, with fmt's text TOLD by the authors' own Lean function (tested against real Go, not proved from fmt's source: count such statements apart). THE CARD IS WHAT COUNTS. Prove the row's statement (the work); the ties are given (YtmnibfdenmeepaaDoorTie.lean); close each card by the builder's one call (the guide's Derived/Test/ToyasCard.lean, 'card_holds'). Laid BY PROGRAM, IN A SANDBOX (cutbox-door.mjs). By AI agents, Wed Nov 11 2026. No macro, syntax, notation, axiom, sorry.
-/
import Derived.Test.YtmnibfdenmeepaaDoorRows
import GoSem.ClaimSeven
namespace Go.Proofs.YtmnibfdenmeepaaDoor
namespace Rows

/-- THE TIED CARD OF 'threadbarelaw03.BigAdds'. -/
def bigAddsCard : Claim7 := { stood := { row := bigAddsRow, standIns := [], harness := (true, "2f5f23860222ded6c66b691840363bffb3de70379f3cb420486306cb56b149fb"), looks := false }, kinds := [], alts := [], laidByText := true, laidKinds := [.data, .data, .data], laidTests := true, laidLooks := .later }
def BigAddsCardSaid : Prop := Claim7.holds Tryd.pinned (.plain (OpenSpec.ofChange bigAddsSpec)) bigAddsCard

/-- THE TIED CARD OF 'threadbarelaw03.BigTimes'. -/
def bigTimesCard : Claim7 := { stood := { row := bigTimesRow, standIns := [], harness := (true, "2f5f23860222ded6c66b691840363bffb3de70379f3cb420486306cb56b149fb"), looks := false }, kinds := [], alts := [], laidByText := true, laidKinds := [.data, .data, .data], laidTests := true, laidLooks := .later }
def BigTimesCardSaid : Prop := Claim7.holds Tryd.pinned (.plain (OpenSpec.ofChange bigTimesSpec)) bigTimesCard

/-- THE TIED CARD OF 'threadbarelaw03.BigSigns'. -/
def bigSignsCard : Claim7 := { stood := { row := bigSignsRow, standIns := [], harness := (true, "2f5f23860222ded6c66b691840363bffb3de70379f3cb420486306cb56b149fb"), looks := false }, kinds := [], alts := [], laidByText := true, laidKinds := [.data, .data, .data], laidTests := true, laidLooks := .later }
def BigSignsCardSaid : Prop := Claim7.holds Tryd.pinned (.plain (OpenSpec.ofChange bigSignsSpec)) bigSignsCard

/-- THE TIED CARD OF 'threadbarelaw03.BigBases'. -/
def bigBasesCard : Claim7 := { stood := { row := bigBasesRow, standIns := [], harness := (true, "2f5f23860222ded6c66b691840363bffb3de70379f3cb420486306cb56b149fb"), looks := false }, kinds := [], alts := [], laidByText := true, laidKinds := [.data, .data, .data], laidTests := true, laidLooks := .later }
def BigBasesCardSaid : Prop := Claim7.holds Tryd.pinned (.plain (OpenSpec.ofChange bigBasesSpec)) bigBasesCard

/-- THE TIED CARD OF 'threadbarelaw03.BigRing'. -/
def bigRingCard : Claim7 := { stood := { row := bigRingRow, standIns := [], harness := (true, "2f5f23860222ded6c66b691840363bffb3de70379f3cb420486306cb56b149fb"), looks := false }, kinds := [], alts := [], laidByText := true, laidKinds := [.data, .data, .data], laidTests := true, laidLooks := .later }
def BigRingCardSaid : Prop := Claim7.holds Tryd.pinned (.plain (OpenSpec.ofChange bigRingSpec)) bigRingCard

/-- THE TIED CARD OF 'threadbarelaw03.BigDivides'. -/
def bigDividesCard : Claim7 := { stood := { row := bigDividesRow, standIns := [], harness := (true, "2f5f23860222ded6c66b691840363bffb3de70379f3cb420486306cb56b149fb"), looks := false }, kinds := [], alts := [], laidByText := true, laidKinds := [.data, .data, .data], laidTests := true, laidLooks := .later }
def BigDividesCardSaid : Prop := Claim7.holds Tryd.pinned (.plain (OpenSpec.ofChange bigDividesSpec)) bigDividesCard

/-- THE TIED CARD OF 'threadbarelaw03.BigFits'. -/
def bigFitsCard : Claim7 := { stood := { row := bigFitsRow, standIns := [], harness := (true, "2f5f23860222ded6c66b691840363bffb3de70379f3cb420486306cb56b149fb"), looks := false }, kinds := [], alts := [], laidByText := true, laidKinds := [.data, .data, .data], laidTests := true, laidLooks := .later }
def BigFitsCardSaid : Prop := Claim7.holds Tryd.pinned (.plain (OpenSpec.ofChange bigFitsSpec)) bigFitsCard

/-- THE SECOND FORM's CARD OF 'threadbarelaw03.BigAdds'. -/
def bigAddsUptoCard : Claim7 := { stood := { row := bigAddsUptoRow, standIns := [], harness := (true, "2f5f23860222ded6c66b691840363bffb3de70379f3cb420486306cb56b149fb"), looks := false }, kinds := [], alts := [], laidByText := true, laidKinds := [.data, .data, .data], laidTests := true, laidLooks := .later }
def BigAddsUptoCardSaid : Prop := Claim7.holds Tryd.pinned (.plain (OpenSpec.upto bigAddsSpec)) bigAddsUptoCard

/-- THE SECOND FORM's CARD OF 'threadbarelaw03.BigTimes'. -/
def bigTimesUptoCard : Claim7 := { stood := { row := bigTimesUptoRow, standIns := [], harness := (true, "2f5f23860222ded6c66b691840363bffb3de70379f3cb420486306cb56b149fb"), looks := false }, kinds := [], alts := [], laidByText := true, laidKinds := [.data, .data, .data], laidTests := true, laidLooks := .later }
def BigTimesUptoCardSaid : Prop := Claim7.holds Tryd.pinned (.plain (OpenSpec.upto bigTimesSpec)) bigTimesUptoCard

/-- THE SECOND FORM's CARD OF 'threadbarelaw03.BigSigns'. -/
def bigSignsUptoCard : Claim7 := { stood := { row := bigSignsUptoRow, standIns := [], harness := (true, "2f5f23860222ded6c66b691840363bffb3de70379f3cb420486306cb56b149fb"), looks := false }, kinds := [], alts := [], laidByText := true, laidKinds := [.data, .data, .data], laidTests := true, laidLooks := .later }
def BigSignsUptoCardSaid : Prop := Claim7.holds Tryd.pinned (.plain (OpenSpec.upto bigSignsSpec)) bigSignsUptoCard

/-- THE SECOND FORM's CARD OF 'threadbarelaw03.BigBases'. -/
def bigBasesUptoCard : Claim7 := { stood := { row := bigBasesUptoRow, standIns := [], harness := (true, "2f5f23860222ded6c66b691840363bffb3de70379f3cb420486306cb56b149fb"), looks := false }, kinds := [], alts := [], laidByText := true, laidKinds := [.data, .data, .data], laidTests := true, laidLooks := .later }
def BigBasesUptoCardSaid : Prop := Claim7.holds Tryd.pinned (.plain (OpenSpec.upto bigBasesSpec)) bigBasesUptoCard

/-- THE SECOND FORM's CARD OF 'threadbarelaw03.BigRing'. -/
def bigRingUptoCard : Claim7 := { stood := { row := bigRingUptoRow, standIns := [], harness := (true, "2f5f23860222ded6c66b691840363bffb3de70379f3cb420486306cb56b149fb"), looks := false }, kinds := [], alts := [], laidByText := true, laidKinds := [.data, .data, .data], laidTests := true, laidLooks := .later }
def BigRingUptoCardSaid : Prop := Claim7.holds Tryd.pinned (.plain (OpenSpec.upto bigRingSpec)) bigRingUptoCard

/-- THE SECOND FORM's CARD OF 'threadbarelaw03.BigDivides'. -/
def bigDividesUptoCard : Claim7 := { stood := { row := bigDividesUptoRow, standIns := [], harness := (true, "2f5f23860222ded6c66b691840363bffb3de70379f3cb420486306cb56b149fb"), looks := false }, kinds := [], alts := [], laidByText := true, laidKinds := [.data, .data, .data], laidTests := true, laidLooks := .later }
def BigDividesUptoCardSaid : Prop := Claim7.holds Tryd.pinned (.plain (OpenSpec.upto bigDividesSpec)) bigDividesUptoCard

/-- THE SECOND FORM's CARD OF 'threadbarelaw03.BigFits'. -/
def bigFitsUptoCard : Claim7 := { stood := { row := bigFitsUptoRow, standIns := [], harness := (true, "2f5f23860222ded6c66b691840363bffb3de70379f3cb420486306cb56b149fb"), looks := false }, kinds := [], alts := [], laidByText := true, laidKinds := [.data, .data, .data], laidTests := true, laidLooks := .later }
def BigFitsUptoCardSaid : Prop := Claim7.holds Tryd.pinned (.plain (OpenSpec.upto bigFitsSpec)) bigFitsUptoCard
end Rows
end Go.Proofs.YtmnibfdenmeepaaDoor
