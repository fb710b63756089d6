/-
  The document's own answers: elements, products, differences, powers, Add, Mul, Inverse, Eval (layer 6).
-/
import Derived.Test.YtcdnddjoonecdaaFdEval
set_option linter.unusedVariables false
set_option maxRecDepth 100000
namespace Go.Proofs.Ytcdnddjoonecdaa
open Go.RowKit
open Fdp
end Go.Proofs.Ytcdnddjoonecdaa
