/-
  No cell of these rows narrows 'for every input' (looked for: loops, veiled, ifaces, maps, wideKeys, modest, calm, conditions, laid).
  DERIVED. THE GIVEN ROWS OF THIS SEAT. 5 by the template 'for every input the law returns true; each argument reads behind the call as it read before'; 0 by the template 'total and deterministic' (their statements: YtaebejhncjadhaaTotals.lean).
  GIVEN WITH THE SEED: the statements are not yours to turn. If you find one false, say at which input.
  Laid BY PROGRAM, IN A SANDBOX (cutbox-rows.mjs): the forced cells as the released guide's own fill.sh prints them over the translation 92d037accaed3a74… (all of the seat's roots in one cut). By AI agents, Wed Nov 11 2026. No macro, syntax, notation, axiom, sorry.
-/
import Derived.Test.YtaebejhncjadhaaChecked
import GoSem.Claim
import GoSem.ClaimJoined
import GoSem.ClaimMapViews
import Derived.JoinedTies
import Derived.KernelRfl
namespace Go.Proofs.Ytaebejhncjadhaa
/- THE CELL 'sum', in the pinned program and in every row, IS THE sha256 OF THE DUMP (.gsa) THAT YtaebejhncjadhaaProg.lean LOADS. Nothing in Lean hashes anything: it is a label: what it is worth is what the hold of that sum in a sandbox is worth. -/
noncomputable def Try.pinned : Pinned := { name := "ytaebejhncjadhaa", sum := "92d037accaed3a746aaa22c770ca682c74d67a82efbd3249fc3df6d3b907c020", checked := Try.checked }
namespace Rows
def none {H : Type} : Left H := { results := [], args := [] }

/-- 'observatorylaw10.SkyMatchesReference': WHATEVER THE INPUT: true; the input reads as it did. -/
def skyMatchesReferenceSpec : ChangeSpec := { name := "skyMatchesReference", fn := fun _ => fun
  | [d1, d2, d3, d4] => { results := [.lit (.bool true)], args := [d1, d2, d3, d4] }
  | _ => none }
def skyMatchesReferenceRow : OpenClaim := { program := "ytaebejhncjadhaa", sum := "92d037accaed3a746aaa22c770ca682c74d67a82efbd3249fc3df6d3b907c020", func := "observatory/observatorylaw10.SkyMatchesReference", spec := "skyMatchesReference", unfollowed := true, recurses := true, apart := false }
def SkyMatchesReferenceSaid : Prop := skyMatchesReferenceRow.holds Try.pinned (OpenSpec.ofChange skyMatchesReferenceSpec)

/-- ITS FALSE NEIGHBOUR: 'it returns false'. Refute it at one input. -/
def skyMatchesReferenceWrong : ChangeSpec := { name := "skyMatchesReference", fn := fun _ => fun
  | [d1, d2, d3, d4] => { results := [.lit (.bool false)], args := [d1, d2, d3, d4] }
  | _ => none }
def SkyMatchesReferenceWrongFalsely : Prop := skyMatchesReferenceRow.holds Try.pinned (OpenSpec.ofChange skyMatchesReferenceWrong)

/-- 'observatorylaw10.SkyTiles': WHATEVER THE INPUT: true; the input reads as it did. -/
def skyTilesSpec : ChangeSpec := { name := "skyTiles", fn := fun _ => fun
  | [d1, d2, d3, d4] => { results := [.lit (.bool true)], args := [d1, d2, d3, d4] }
  | _ => none }
def skyTilesRow : OpenClaim := { program := "ytaebejhncjadhaa", sum := "92d037accaed3a746aaa22c770ca682c74d67a82efbd3249fc3df6d3b907c020", func := "observatory/observatorylaw10.SkyTiles", spec := "skyTiles", unfollowed := true, recurses := true, apart := false }
def SkyTilesSaid : Prop := skyTilesRow.holds Try.pinned (OpenSpec.ofChange skyTilesSpec)

/-- ITS FALSE NEIGHBOUR: 'it returns false'. Refute it at one input. -/
def skyTilesWrong : ChangeSpec := { name := "skyTiles", fn := fun _ => fun
  | [d1, d2, d3, d4] => { results := [.lit (.bool false)], args := [d1, d2, d3, d4] }
  | _ => none }
def SkyTilesWrongFalsely : Prop := skyTilesRow.holds Try.pinned (OpenSpec.ofChange skyTilesWrong)

/-- 'observatorylaw10.SkyDistances': WHATEVER THE INPUT: true; the input reads as it did. -/
def skyDistancesSpec : ChangeSpec := { name := "skyDistances", fn := fun _ => fun
  | [d1, d2, d3, d4] => { results := [.lit (.bool true)], args := [d1, d2, d3, d4] }
  | _ => none }
def skyDistancesRow : OpenClaim := { program := "ytaebejhncjadhaa", sum := "92d037accaed3a746aaa22c770ca682c74d67a82efbd3249fc3df6d3b907c020", func := "observatory/observatorylaw10.SkyDistances", spec := "skyDistances", unfollowed := true, recurses := true, apart := false }
def SkyDistancesSaid : Prop := skyDistancesRow.holds Try.pinned (OpenSpec.ofChange skyDistancesSpec)

/-- ITS FALSE NEIGHBOUR: 'it returns false'. Refute it at one input. -/
def skyDistancesWrong : ChangeSpec := { name := "skyDistances", fn := fun _ => fun
  | [d1, d2, d3, d4] => { results := [.lit (.bool false)], args := [d1, d2, d3, d4] }
  | _ => none }
def SkyDistancesWrongFalsely : Prop := skyDistancesRow.holds Try.pinned (OpenSpec.ofChange skyDistancesWrong)

/-- 'observatorylaw10.SkyNear': WHATEVER THE INPUT: true; the input reads as it did. -/
def skyNearSpec : ChangeSpec := { name := "skyNear", fn := fun _ => fun
  | [d1, d2, d3] => { results := [.lit (.bool true)], args := [d1, d2, d3] }
  | _ => none }
def skyNearRow : OpenClaim := { program := "ytaebejhncjadhaa", sum := "92d037accaed3a746aaa22c770ca682c74d67a82efbd3249fc3df6d3b907c020", func := "observatory/observatorylaw10.SkyNear", spec := "skyNear", unfollowed := true, recurses := true, apart := false }
def SkyNearSaid : Prop := skyNearRow.holds Try.pinned (OpenSpec.ofChange skyNearSpec)

/-- ITS FALSE NEIGHBOUR: 'it returns false'. Refute it at one input. -/
def skyNearWrong : ChangeSpec := { name := "skyNear", fn := fun _ => fun
  | [d1, d2, d3] => { results := [.lit (.bool false)], args := [d1, d2, d3] }
  | _ => none }
def SkyNearWrongFalsely : Prop := skyNearRow.holds Try.pinned (OpenSpec.ofChange skyNearWrong)

/-- 'observatorylaw10.SkySteps': WHATEVER THE INPUT: true; the input reads as it did. -/
def skyStepsSpec : ChangeSpec := { name := "skySteps", fn := fun _ => fun
  | [d1, d2] => { results := [.lit (.bool true)], args := [d1, d2] }
  | _ => none }
def skyStepsRow : OpenClaim := { program := "ytaebejhncjadhaa", sum := "92d037accaed3a746aaa22c770ca682c74d67a82efbd3249fc3df6d3b907c020", func := "observatory/observatorylaw10.SkySteps", spec := "skySteps", unfollowed := true, recurses := true, apart := false }
def SkyStepsSaid : Prop := skyStepsRow.holds Try.pinned (OpenSpec.ofChange skyStepsSpec)

/-- ITS FALSE NEIGHBOUR: 'it returns false'. Refute it at one input. -/
def skyStepsWrong : ChangeSpec := { name := "skySteps", fn := fun _ => fun
  | [d1, d2] => { results := [.lit (.bool false)], args := [d1, d2] }
  | _ => none }
def SkyStepsWrongFalsely : Prop := skyStepsRow.holds Try.pinned (OpenSpec.ofChange skyStepsWrong)

/- THE SECOND FORM. 'bulk': how many values and letters a reading holds, each counted each time it is reached (what is shared counts as often as it is met; a slice's spare places count too). A statement '..UptoSaid' is the law's where the arguments, and the package variables that the reading takes, are together of bulk at most 1048576: NARROWER than '..Said'. Prove '..Said' where nothing that the law and all that it calls make is longer than what came in: it says more and counts as full. Else prove '..UptoSaid'. A law counts once. -/
mutual
def uptoBulk {H : Type} : DataW H → Nat
  | .lit (.string bytes) => bytes.length + 1
  | .lit _ => 1
  | .nil => 1
  | .ptr d => uptoBulk d + 1
  | .slice elems spare => uptoBulkAll elems + uptoBulkAll spare + 1
  | .agg parts => uptoBulkAll parts + 1
  | .iface _ d => uptoBulk d + 1
  | .map entries => uptoBulkEntries entries + 1
  | .held _ => 1
def uptoBulkAll {H : Type} : List (DataW H) → Nat
  | [] => 0
  | d :: r => uptoBulk d + uptoBulkAll r
def uptoBulkEntries {H : Type} : List (Lit × DataW H) → Nat
  | [] => 0
  | x :: r => uptoBulkEntry x + uptoBulkEntries r
def uptoBulkEntry {H : Type} : Lit × DataW H → Nat
  | (.string bytes, d) => bytes.length + uptoBulk d + 1
  | (_, d) => uptoBulk d + 1
 end
def uptoSmall : (H : Type) → List (DataW H) → Bool := fun _ ds => decide (uptoBulkAll ds ≤ 1048576)
def OpenSpec.upto (s : _root_.Go.ChangeSpec) : _root_.Go.OpenSpec := { _root_.Go.OpenSpec.ofChange s with cond := some uptoSmall }

/-- 'observatorylaw10.SkyMatchesReference', WHERE WHAT IT READS IS OF BULK AT MOST 1048576: true; the input reads as it did. -/
def skyMatchesReferenceUptoRow : OpenClaim := { program := "ytaebejhncjadhaa", sum := "92d037accaed3a746aaa22c770ca682c74d67a82efbd3249fc3df6d3b907c020", func := "observatory/observatorylaw10.SkyMatchesReference", spec := "skyMatchesReference", unfollowed := true, recurses := true, apart := false, narrowed := true }
def SkyMatchesReferenceUptoSaid : Prop := skyMatchesReferenceUptoRow.holds Try.pinned (OpenSpec.upto skyMatchesReferenceSpec)

/-- 'observatorylaw10.SkyTiles', WHERE WHAT IT READS IS OF BULK AT MOST 1048576: true; the input reads as it did. -/
def skyTilesUptoRow : OpenClaim := { program := "ytaebejhncjadhaa", sum := "92d037accaed3a746aaa22c770ca682c74d67a82efbd3249fc3df6d3b907c020", func := "observatory/observatorylaw10.SkyTiles", spec := "skyTiles", unfollowed := true, recurses := true, apart := false, narrowed := true }
def SkyTilesUptoSaid : Prop := skyTilesUptoRow.holds Try.pinned (OpenSpec.upto skyTilesSpec)

/-- 'observatorylaw10.SkyDistances', WHERE WHAT IT READS IS OF BULK AT MOST 1048576: true; the input reads as it did. -/
def skyDistancesUptoRow : OpenClaim := { program := "ytaebejhncjadhaa", sum := "92d037accaed3a746aaa22c770ca682c74d67a82efbd3249fc3df6d3b907c020", func := "observatory/observatorylaw10.SkyDistances", spec := "skyDistances", unfollowed := true, recurses := true, apart := false, narrowed := true }
def SkyDistancesUptoSaid : Prop := skyDistancesUptoRow.holds Try.pinned (OpenSpec.upto skyDistancesSpec)

/-- 'observatorylaw10.SkyNear', WHERE WHAT IT READS IS OF BULK AT MOST 1048576: true; the input reads as it did. -/
def skyNearUptoRow : OpenClaim := { program := "ytaebejhncjadhaa", sum := "92d037accaed3a746aaa22c770ca682c74d67a82efbd3249fc3df6d3b907c020", func := "observatory/observatorylaw10.SkyNear", spec := "skyNear", unfollowed := true, recurses := true, apart := false, narrowed := true }
def SkyNearUptoSaid : Prop := skyNearUptoRow.holds Try.pinned (OpenSpec.upto skyNearSpec)

/-- 'observatorylaw10.SkySteps', WHERE WHAT IT READS IS OF BULK AT MOST 1048576: true; the input reads as it did. -/
def skyStepsUptoRow : OpenClaim := { program := "ytaebejhncjadhaa", sum := "92d037accaed3a746aaa22c770ca682c74d67a82efbd3249fc3df6d3b907c020", func := "observatory/observatorylaw10.SkySteps", spec := "skySteps", unfollowed := true, recurses := true, apart := false, narrowed := true }
def SkyStepsUptoSaid : Prop := skyStepsUptoRow.holds Try.pinned (OpenSpec.upto skyStepsSpec)

end Rows
end Go.Proofs.Ytaebejhncjadhaa
