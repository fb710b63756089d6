/-
  The program's functions of layer 3 that layer 4 calls, one contract each.
-/
import Derived.Test.YtbcoblpnihdhgaaDoorLmDD
import Derived.Test.YtbcoblpnihdhgaaDoorLmGcdF
set_option linter.unusedVariables false
set_option maxRecDepth 100000
namespace Go.Proofs.YtbcoblpnihdhgaaDoor
open Go.RowKit
theorem pCompare_same (a b : ByteArray) (w : World) : Calls Tryd.prog 45 #[.string a, .string b] w fun e w' => e = .returned (.int .i64 (cmpR a b)) ∧ w = w' := pcompare_any a b w
theorem pValid_same (a : ByteArray) (w : World) : Calls Tryd.prog 56 #[.string a] w fun e w' => e = .returned (.bool (validB a)) ∧ w = w' := pvalid_any a w
end Go.Proofs.YtbcoblpnihdhgaaDoor
