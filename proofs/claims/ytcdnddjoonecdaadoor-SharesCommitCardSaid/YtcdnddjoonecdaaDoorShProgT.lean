/-
  The program's two contracts of layer 7 together: Split (ShPS) and Join (ShPJ).
-/
import Derived.Test.YtcdnddjoonecdaaDoorShPS
import Derived.Test.YtcdnddjoonecdaaDoorShPJ
set_option linter.unusedVariables false
set_option maxRecDepth 100000
namespace Go.Proofs.YtcdnddjoonecdaaDoor
end Go.Proofs.YtcdnddjoonecdaaDoor
