/-
  The document's own answers of layer 4.
-/
import Derived.Test.YtbcoblpnihdhgaaGreatDoorRatP
set_option linter.unusedVariables false
set_option maxRecDepth 100000
namespace Go.Proofs.YtbcoblpnihdhgaaGreatDoor.Rt
open Go.RowKit
/-- a rational number as the translation holds it -/
def Raw.v (r : Raw) : Value := .agg #[.bool r.neg, .string r.num, .string r.den]
/-- the call answers with a rational number -/
def GivesQ (r : Raw) (w : World) (e : Ending) (w' : World) : Prop := e = .returned (.agg #[.bool r.neg, .string r.num, .string r.den]) ∧ Below w.heap.size w w'
theorem nS_one' : nS 1 = ⟨#[49]⟩ := by unfold nS; rw [digs_one]; rfl
theorem refZero_any (w : World) : Calls Tryz.prog 65 #[] w (GivesQ zeroQ.raw w) := by
  go_enter Tryz.func65, Tryz.ntmps65
  go_wp2_with fail
  refine bodyPost_ret (v := zeroQ.raw.v) (by simp [results, Tryz.results65, go_sem, Raw.v, Q.raw, zeroQ, nS_zero, nS_one']) rfl ⟨rfl, (Below.refl _ _).alloc (Nat.le_refl _) _⟩
end Go.Proofs.YtbcoblpnihdhgaaGreatDoor.Rt
