/-
  The check of the chapter's examples in the statements of layer 3: it returns true.
-/
import Derived.Test.YtfkdhkbegfbkaaaDoorNatProg
import Derived.Deep.QuietTactic
import Derived.BigQuiet
set_option linter.unusedVariables false
set_option maxRecDepth 100000
namespace Go.Proofs.YtfkdhkbegfbkaaaDoor
open Go.RowKit
theorem nat_dn (w : World) (n : Nat) : Below w.heap.size w (w.drewN n) := by
  induction n with
  | zero => exact Below.refl _ _
  | succ n ih => exact ih.drew
set_option maxRecDepth 100000 in
set_option maxHeartbeats 2000000 in
theorem head_any (w : World) (henv : Env w) : Calls Tryd.prog 11 #[] w fun e w' => e = .returned (.bool true) ∧ Below w.heap.size w w' := by
  have HENV := Lib.hid henv
  clear henv
  have D0 : Below w.heap.size w w := Below.refl _ _
  go_enter Tryd.func11, Tryd.ntmps11
  go_wp2_with fail
  refine (pAdd_any _ _ _).mono ?_
  rintro e w1 ⟨rfl, hb⟩
  have D1 := D0.trans (hb.mono D0.size)
  clear hb
  simp only [ex_add]
  go_wp2_with fail
  refine (pSub_any _ _ _).mono ?_
  rintro e w2 ⟨rfl, hb⟩
  have D2 := D1.trans (hb.mono D1.size)
  clear hb
  simp only [ex_sub]
  go_wp2_with fail
  refine (pSub_any _ _ _).mono ?_
  rintro e w3 ⟨rfl, hb⟩
  have D3 := D2.trans (hb.mono D2.size)
  clear hb
  simp only [ex_less]
  go_wp2_with fail
  refine (pMul_any _ _ _).mono ?_
  rintro e w4 ⟨rfl, hb⟩
  have D4 := D3.trans (hb.mono D3.size)
  clear hb
  simp only [ex_mul]
  go_wp2_with fail
  refine (pDiv_any _ _ _).mono ?_
  rintro e w5 ⟨rfl, hb⟩
  have D5 := D4.trans (hb.mono D4.size)
  clear hb
  simp only [ex_div]
  go_wp2_with fail
  refine (pDiv_any _ _ _).mono ?_
  rintro e w6 ⟨rfl, hb⟩
  have D6 := D5.trans (hb.mono D5.size)
  clear hb
  simp only [ex_zero]
  go_wp2_with fail
  refine (pGcd_any _ _ _).mono ?_
  rintro e w7 ⟨rfl, hb⟩
  have D7 := D6.trans (hb.mono D6.size)
  clear hb
  simp only [ex_gcd]
  go_wp2_with fail
  refine (pGcd_any _ _ _).mono ?_
  rintro e w8 ⟨rfl, hb⟩
  have D8 := D7.trans (hb.mono D7.size)
  clear hb
  simp only [ex_gcd0]
  go_wp2_with fail
  refine (pOf_any _ _ (by omega) (HENV.out.below D8)).mono ?_
  rintro e w9 ⟨rfl, hb⟩
  have D9 := D8.trans (hb.mono D8.size)
  clear hb
  simp only [ex_of]
  go_wp2_with fail
  refine (pInt_any _ _ (HENV.out.below D9)).mono ?_
  rintro e w10 ⟨rfl, hb⟩
  have D10 := D9.trans (hb.mono D9.size)
  clear hb
  simp only [ex_int]
  go_wp2_with fail
  refine (pInt_any _ _ (HENV.out.below D10)).mono ?_
  rintro e w11 ⟨rfl, hb⟩
  have D11 := D10.trans (hb.mono D10.size)
  clear hb
  simp only [ex_int0]
  go_wp2_with fail
  refine (pCompare_any _ _ _).mono ?_
  rintro e w12 ⟨rfl, n12, hw⟩
  have D12 : Below w.heap.size w w12 := by rw [hw]; exact D11.trans ((nat_dn _ n12).mono D11.size)
  clear hw
  simp only [ex_cmp]
  go_wp2_with fail
  refine (pCompare_any _ _ _).mono ?_
  rintro e w13 ⟨rfl, n13, hw⟩
  have D13 : Below w.heap.size w w13 := by rw [hw]; exact D12.trans ((nat_dn _ n13).mono D12.size)
  clear hw
  simp only [ex_cmp0]
  go_wp2_with fail
  go_ret
  exact ⟨rfl, D13⟩
end Go.Proofs.YtfkdhkbegfbkaaaDoor
