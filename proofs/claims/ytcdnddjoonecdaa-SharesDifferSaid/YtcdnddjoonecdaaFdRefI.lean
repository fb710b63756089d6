/-
  The document's own Interpolate (layer 6).
-/
import Derived.Test.YtcdnddjoonecdaaFdRefP
set_option linter.unusedVariables false
set_option maxRecDepth 100000
namespace Go.Proofs.Ytcdnddjoonecdaa
open Go.RowKit
open Fdp
end Go.Proofs.Ytcdnddjoonecdaa
