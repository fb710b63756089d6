/-
  The program's two contracts of layer 7 together: Split (ShPS) and Join (ShPJ).
-/
import Derived.Test.YtcdnddjoonecdaaShPS
import Derived.Test.YtcdnddjoonecdaaShPJ
set_option linter.unusedVariables false
namespace Go.Proofs.Ytcdnddjoonecdaa
end Go.Proofs.Ytcdnddjoonecdaa
