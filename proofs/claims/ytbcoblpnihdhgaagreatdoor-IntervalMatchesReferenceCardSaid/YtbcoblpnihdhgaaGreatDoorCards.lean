/-
  DERIVED. GIVEN WITH THE SEED: THE CARDS: each row of YtbcoblpnihdhgaaGreatDoorRows.lean that lists a variable, with what it lists TIED to the program's text (the seventh form; the later family's looks); each row that meets fmt, with fmt's text TOLD by the authors' own Lean function (tested against real Go, not proved from fmt's source: count such statements apart). THE CARD IS WHAT COUNTS. Prove the row's statement (the work); the ties are given (YtbcoblpnihdhgaaGreatDoorTie.lean); close each card by the builder's one call (the guide's Derived/Test/ToyasCard.lean, 'card_holds'). Laid BY PROGRAM, IN A SANDBOX (cutbox-door.mjs). By AI agents, Wed Nov 11 2026. No macro, syntax, notation, axiom, sorry.
-/
import Derived.Test.YtbcoblpnihdhgaaGreatDoorRows
import GoSem.ClaimSeven
namespace Go.Proofs.YtbcoblpnihdhgaaGreatDoor
namespace Rows

/-- THE TIED CARD OF 'observatorylaw05.IntervalMatchesReference'. -/
def intervalMatchesReferenceCard : Claim7 := { stood := { row := intervalMatchesReferenceRow, standIns := [], harness := (true, "a71e3ed01cc95650f4b0b8c2d3558c3cd012e906763f65778ec3fc365786532c"), looks := false }, kinds := [], alts := [], laidByText := true, laidKinds := [.data, .data, .data, .data, .pinned], laidTests := true, laidLooks := .later }
def IntervalMatchesReferenceCardSaid : Prop := Claim7.holds Tryz.pinned (.plain (OpenSpec.ofChange intervalMatchesReferenceSpec)) intervalMatchesReferenceCard

/-- THE SECOND FORM's CARD OF 'observatorylaw05.IntervalMatchesReference'. -/
def intervalMatchesReferenceUptoCard : Claim7 := { stood := { row := intervalMatchesReferenceUptoRow, standIns := [], harness := (true, "a71e3ed01cc95650f4b0b8c2d3558c3cd012e906763f65778ec3fc365786532c"), looks := false }, kinds := [], alts := [], laidByText := true, laidKinds := [.data, .data, .data, .data, .pinned], laidTests := true, laidLooks := .later }
def IntervalMatchesReferenceUptoCardSaid : Prop := Claim7.holds Tryz.pinned (.plain (OpenSpec.upto intervalMatchesReferenceSpec)) intervalMatchesReferenceUptoCard
end Rows
end Go.Proofs.YtbcoblpnihdhgaaGreatDoor
