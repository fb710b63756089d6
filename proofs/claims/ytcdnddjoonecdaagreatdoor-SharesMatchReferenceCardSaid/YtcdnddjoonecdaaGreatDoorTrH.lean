/-
  The program's tree package: paths and links.
-/
import Derived.Test.YtcdnddjoonecdaaGreatDoorTrG
import Derived.Test.YtcdnddjoonecdaaGreatDoorTmB
set_option linter.unusedVariables false
set_option maxRecDepth 100000
namespace Go.Proofs.YtcdnddjoonecdaaGreatDoor
open Go.RowKit
end Go.Proofs.YtcdnddjoonecdaaGreatDoor
