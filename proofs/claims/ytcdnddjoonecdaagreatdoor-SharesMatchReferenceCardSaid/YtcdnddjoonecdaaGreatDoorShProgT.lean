/-
  The program's two contracts of layer 7 together: Split (ShPS) and Join (ShPJ).
-/
import Derived.Test.YtcdnddjoonecdaaGreatDoorShPS
import Derived.Test.YtcdnddjoonecdaaGreatDoorShPJ
set_option linter.unusedVariables false
set_option maxRecDepth 100000
namespace Go.Proofs.YtcdnddjoonecdaaGreatDoor
end Go.Proofs.YtcdnddjoonecdaaGreatDoor
