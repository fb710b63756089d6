/-
  The document's own answers of layer 10: tiles, cells, centres.
-/
import Derived.Test.YtebkifhdbpeeoaaSkAt
set_option linter.unusedVariables false
set_option maxRecDepth 100000
namespace Go.Proofs.Ytebkifhdbpeeoaa.Sk
open Go.RowKit
theorem refIs_any (t : Int) (w : World) : Calls Try.prog 32 #[.int .i64 t] w fun e w' => e = .returned (.bool (isT t)) ∧ w = w' := by
  obtain ⟨b, hb0⟩ : ∃ b, b = isT t := ⟨_, rfl⟩
  have HB := Lib.hid hb0
  rw [← hb0]
  clear hb0
  by_cases h1 : 0 ≤ t
  · by_cases h2 : t < 512
    · have hb : Hid (b = true) := Lib.hid (by rw [HB.out]; simp [isT, h1, h2])
      go_enter Try.func32, Try.ntmps32
      go_wp2_with fail
      go_ret
      exact ⟨by rw [hb.out]; rfl, rfl⟩
    · have hb : Hid (b = false) := Lib.hid (by rw [HB.out]; simp [isT, h1, h2])
      have t2 : decide (t < 512) = false := decide_eq_false h2
      clear h2
      go_enter Try.func32, Try.ntmps32
      go_wp2_with fail
      go_ret
      exact ⟨by rw [hb.out]; rfl, rfl⟩
  · have hb : Hid (b = false) := Lib.hid (by rw [HB.out]; simp [isT, h1])
    go_enter Try.func32, Try.ntmps32
    go_wp2_with fail
    go_ret
    exact ⟨by rw [hb.out]; rfl, rfl⟩
end Go.Proofs.Ytebkifhdbpeeoaa.Sk
