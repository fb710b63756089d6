/-
  The program's airmass (layer 11): its four contracts together.
-/
import Derived.Test.YtebkifhdbpeeoaaAmPD
set_option linter.unusedVariables false
namespace Go.Proofs.Ytebkifhdbpeeoaa.Am
open Go.RowKit
end Go.Proofs.Ytebkifhdbpeeoaa.Am
