/-
  DERIVED. GIVEN WITH THE SEED: THE CARDS: each row of YtcdnddjoonecdaaDoorRows.lean that lists a variable, with what it lists TIED to the program's text (the seventh form; the later family's looks); each row that meets fmt, with fmt's text TOLD by the authors' own Lean function (tested against real Go, not proved from fmt's source: count such statements apart). THE CARD IS WHAT COUNTS. Prove the row's statement (the work); the ties are given (YtcdnddjoonecdaaDoorTie.lean); close each card by the builder's one call (the guide's Derived/Test/ToyasCard.lean, 'card_holds'). Laid BY PROGRAM, IN A SANDBOX (cutbox-door.mjs). By AI agents, Wed Nov 11 2026. No macro, syntax, notation, axiom, sorry.
-/
import Derived.Test.YtcdnddjoonecdaaDoorRows
import GoSem.ClaimSeven
namespace Go.Proofs.YtcdnddjoonecdaaDoor
namespace Rows

/-- THE TIED CARD OF 'observatorylaw07.SharesCommit'. -/
def sharesCommitCard : Claim7 := { stood := { row := sharesCommitRow, standIns := [], harness := (true, "7e260cf02cd519eb346a1ac20bcf20efac70ec8f91021f1f4c6d6e4e79f94a3d"), looks := false }, kinds := [], alts := [], laidByText := true, laidKinds := [.data, .data, .data], laidTests := true, laidLooks := .later }
def SharesCommitCardSaid : Prop := Claim7.holds Tryd.pinned (.plain (OpenSpec.ofChange sharesCommitSpec)) sharesCommitCard

/-- THE SECOND FORM's CARD OF 'observatorylaw07.SharesCommit'. -/
def sharesCommitUptoCard : Claim7 := { stood := { row := sharesCommitUptoRow, standIns := [], harness := (true, "7e260cf02cd519eb346a1ac20bcf20efac70ec8f91021f1f4c6d6e4e79f94a3d"), looks := false }, kinds := [], alts := [], laidByText := true, laidKinds := [.data, .data, .data], laidTests := true, laidLooks := .later }
def SharesCommitUptoCardSaid : Prop := Claim7.holds Tryd.pinned (.plain (OpenSpec.upto sharesCommitSpec)) sharesCommitUptoCard
end Rows
end Go.Proofs.YtcdnddjoonecdaaDoor
