/-
  DERIVED. GIVEN WITH THE SEED: THE CARDS: each row of YthpghjklnkdmfaaGreatDoorRows.lean that lists a variable, with what it lists TIED to the program's text (the seventh form; the later family's looks); each row that meets fmt, with fmt's text TOLD by the authors' own Lean function (tested against real Go, not proved from fmt's source: count such statements apart). THE CARD IS WHAT COUNTS. Prove the row's statement (the work); the ties are given (YthpghjklnkdmfaaGreatDoorTie.lean); close each card by the builder's one call (the guide's Derived/Test/ToyasCard.lean, 'card_holds'). Laid BY PROGRAM, IN A SANDBOX (cutbox-door.mjs). By AI agents, Wed Nov 11 2026. No macro, syntax, notation, axiom, sorry.
-/
import Derived.Test.YthpghjklnkdmfaaGreatDoorRows
import GoSem.ClaimSeven
namespace Go.Proofs.YthpghjklnkdmfaaGreatDoor
namespace Rows

/-- THE TIED CARD OF 'observatorylaw04.RationalMatchesReference'. -/
def rationalMatchesReferenceCard : Claim7 := { stood := { row := rationalMatchesReferenceRow, standIns := [], harness := (true, "07fba5c39a49e958b37f21d01edef63ecce03a5ac34b5df258823bf7a53c1e6b"), looks := false }, kinds := [], alts := [], laidByText := true, laidKinds := [.data, .data, .data, .data, .pinned], laidTests := true, laidLooks := .later }
def RationalMatchesReferenceCardSaid : Prop := Claim7.holds Tryz.pinned (.plain (OpenSpec.ofChange rationalMatchesReferenceSpec)) rationalMatchesReferenceCard

/-- THE TIED CARD OF 'observatorylaw04.RationalRing'. -/
def rationalRingCard : Claim7 := { stood := { row := rationalRingRow, standIns := [], harness := (true, "07fba5c39a49e958b37f21d01edef63ecce03a5ac34b5df258823bf7a53c1e6b"), looks := false }, kinds := [], alts := [], laidByText := true, laidKinds := [.data, .data, .data, .data, .pinned], laidTests := true, laidLooks := .later }
def RationalRingCardSaid : Prop := Claim7.holds Tryz.pinned (.plain (OpenSpec.ofChange rationalRingSpec)) rationalRingCard

/-- THE SECOND FORM's CARD OF 'observatorylaw04.RationalMatchesReference'. -/
def rationalMatchesReferenceUptoCard : Claim7 := { stood := { row := rationalMatchesReferenceUptoRow, standIns := [], harness := (true, "07fba5c39a49e958b37f21d01edef63ecce03a5ac34b5df258823bf7a53c1e6b"), looks := false }, kinds := [], alts := [], laidByText := true, laidKinds := [.data, .data, .data, .data, .pinned], laidTests := true, laidLooks := .later }
def RationalMatchesReferenceUptoCardSaid : Prop := Claim7.holds Tryz.pinned (.plain (OpenSpec.upto rationalMatchesReferenceSpec)) rationalMatchesReferenceUptoCard

/-- THE SECOND FORM's CARD OF 'observatorylaw04.RationalRing'. -/
def rationalRingUptoCard : Claim7 := { stood := { row := rationalRingUptoRow, standIns := [], harness := (true, "07fba5c39a49e958b37f21d01edef63ecce03a5ac34b5df258823bf7a53c1e6b"), looks := false }, kinds := [], alts := [], laidByText := true, laidKinds := [.data, .data, .data, .data, .pinned], laidTests := true, laidLooks := .later }
def RationalRingUptoCardSaid : Prop := Claim7.holds Tryz.pinned (.plain (OpenSpec.upto rationalRingSpec)) rationalRingUptoCard
end Rows
end Go.Proofs.YthpghjklnkdmfaaGreatDoor
