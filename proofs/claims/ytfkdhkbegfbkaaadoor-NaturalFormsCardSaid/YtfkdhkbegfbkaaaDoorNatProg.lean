/-
  The program's nine functions of layer 3, one contract each.
-/
import Derived.Test.YtfkdhkbegfbkaaaDoorLmDivF
import Derived.Test.YtfkdhkbegfbkaaaDoorLmInt
import Derived.Test.YtfkdhkbegfbkaaaDoorLmGcdF
set_option linter.unusedVariables false
set_option maxRecDepth 100000
namespace Go.Proofs.YtfkdhkbegfbkaaaDoor
open Go.RowKit
theorem pCompare_any (a b : ByteArray) (w : World) : Calls Tryd.prog 29 #[.string a, .string b] w fun e w' => e = .returned (.int .i64 (cmpR a b)) ∧ ∃ n, w' = w.drewN n := by
  refine (pcompare_any a b w).mono ?_
  rintro e w' ⟨rfl, rfl⟩
  exact ⟨rfl, 0, rfl⟩
theorem pValid_any (a : ByteArray) (w : World) : Calls Tryd.prog 27 #[.string a] w fun e w' => e = .returned (.bool (validB a)) ∧ ∃ n, w' = w.drewN n := by
  refine (pvalid_any a w).mono ?_
  rintro e w' ⟨rfl, rfl⟩
  exact ⟨rfl, 0, rfl⟩
end Go.Proofs.YtfkdhkbegfbkaaaDoor
