/-
  DERIVED. GIVEN WITH THE SEED: THE CARDS: each row of YtcdnddjoonecdaaGreatDoorRows.lean that lists a variable, with what it lists TIED to the program's text (the seventh form; the later family's looks); each row that meets fmt, with fmt's text TOLD by the authors' own Lean function (tested against real Go, not proved from fmt's source: count such statements apart). THE CARD IS WHAT COUNTS. Prove the row's statement (the work); the ties are given (YtcdnddjoonecdaaGreatDoorTie.lean); close each card by the builder's one call (the guide's Derived/Test/ToyasCard.lean, 'card_holds'). Laid BY PROGRAM, IN A SANDBOX (cutbox-door.mjs). By AI agents, Wed Nov 11 2026. No macro, syntax, notation, axiom, sorry.
-/
import Derived.Test.YtcdnddjoonecdaaGreatDoorRows
import GoSem.ClaimSeven
namespace Go.Proofs.YtcdnddjoonecdaaGreatDoor
namespace Rows

/-- THE TIED CARD OF 'observatorylaw07.SharesMatchReference'. -/
def sharesMatchReferenceCard : Claim7 := { stood := { row := sharesMatchReferenceRow, standIns := [], harness := (true, "2e9dc3c32c245e514c251b1caaf4ecf3118669a3a9c621ad5d771e0c38c5c817"), looks := false }, kinds := [], alts := [], laidByText := true, laidKinds := [.data, .data, .data], laidTests := true, laidLooks := .later }
def SharesMatchReferenceCardSaid : Prop := Claim7.holds Tryz.pinned (.plain (OpenSpec.ofChange sharesMatchReferenceSpec)) sharesMatchReferenceCard

/-- THE SECOND FORM's CARD OF 'observatorylaw07.SharesMatchReference'. -/
def sharesMatchReferenceUptoCard : Claim7 := { stood := { row := sharesMatchReferenceUptoRow, standIns := [], harness := (true, "2e9dc3c32c245e514c251b1caaf4ecf3118669a3a9c621ad5d771e0c38c5c817"), looks := false }, kinds := [], alts := [], laidByText := true, laidKinds := [.data, .data, .data], laidTests := true, laidLooks := .later }
def SharesMatchReferenceUptoCardSaid : Prop := Claim7.holds Tryz.pinned (.plain (OpenSpec.upto sharesMatchReferenceSpec)) sharesMatchReferenceUptoCard
end Rows
end Go.Proofs.YtcdnddjoonecdaaGreatDoor
