/-
  The document's own answers of layer 9: moments, angles, strings.
-/
import Derived.Test.YtebkifhdbpeeoaaCaAns
set_option linter.unusedVariables false
set_option maxRecDepth 100000
namespace Go.Proofs.Ytebkifhdbpeeoaa
open Go.RowKit
open Ca
theorem refIs_any (m : Int) (w : World) : Calls Try.prog 28 #[.int .i64 m] w fun e w' => e = .returned (.bool (isM m)) ∧ w = w' := by
  obtain ⟨b, hb0⟩ : ∃ b, b = isM m := ⟨_, rfl⟩
  have HB := Lib.hid hb0
  rw [← hb0]
  clear hb0
  by_cases h1 : 0 ≤ m
  · by_cases h2 : m ≤ 38399
    · have hb : Hid (b = true) := Lib.hid (by rw [HB.out]; simp [isM, h1, h2])
      go_enter Try.func28, Try.ntmps28
      go_wp2_with fail
      go_ret
      exact ⟨by rw [hb.out]; rfl, rfl⟩
    · have hb : Hid (b = false) := Lib.hid (by rw [HB.out]; simp [isM, h1, h2])
      have t2 : decide (m ≤ 38399) = false := decide_eq_false h2
      clear h2
      go_enter Try.func28, Try.ntmps28
      go_wp2_with fail
      go_ret
      exact ⟨by rw [hb.out]; rfl, rfl⟩
  · have hb : Hid (b = false) := Lib.hid (by rw [HB.out]; simp [isM, h1])
    go_enter Try.func28, Try.ntmps28
    go_wp2_with fail
    go_ret
    exact ⟨by rw [hb.out]; rfl, rfl⟩
theorem refSid_any (m : Int) (w : World) : Calls Try.prog 29 #[.int .i64 m] w (GivesN (sidA m).1 (sidA m).2 w) := by
  have cI := Lib.hid (refIs_any m w)
  cases h : isM m with
  | false =>
    rw [h] at cI
    have HA : Hid (sidA m = (0, 1)) := Lib.hid (by unfold sidA; rw [h]; rfl)
    rw [HA.out]
    clear h
    go_enter Try.func29, Try.ntmps29
    go_wp2_with fail
    refine cI.out.mono ?_
    rintro e w' ⟨rfl, rfl⟩
    go_wp2_with fail
    go_ret2
    exact ⟨rfl, Below.refl _ _⟩
  | true =>
    rw [h] at cI
    obtain ⟨k, rfl, hk⟩ := isM_yes h
    have HA := Lib.hid (sidA_ok hk)
    rw [HA.out]
    have e3 : Int.tdiv (k : Int) 96 = ((k / 96 : Nat) : Int) := by rw [Int.tdiv_eq_ediv_of_nonneg (by omega)]; omega
    have e4 : Int.tmod (k : Int) 96 = ((k % 96 : Nat) : Int) := by rw [Int.tmod_eq_emod_of_nonneg (by omega)]; omega
    have e5 : (k : Int) / 96 = ((k / 96 : Nat) : Int) := by omega
    have e6 : (k : Int) % 96 = ((k % 96 : Nat) : Int) := by omega
    obtain ⟨S, hS⟩ : ∃ S, S = sid k := ⟨_, rfl⟩
    have hS2 : S = (60 * (k % 96) + 16 * (k / 96)) % 5760 := hS
    rw [← hS]
    clear hS
    have q1 : k / 96 < 400 := by omega
    have q2 : k % 96 < 96 := by omega
    generalize k / 96 = q at e3 e5 q1 hS2
    generalize k % 96 = r at e4 e6 q2 hS2
    have f1 : IntKind.i64.wrap (60 * (r : Int)) = 60 * (r : Int) := IntWalk.i64_in _ (by omega)
    have f2 : IntKind.i64.wrap (16 * (q : Int)) = 16 * (q : Int) := IntWalk.i64_in _ (by omega)
    have f3 : IntKind.i64.wrap (60 * (r : Int) + 16 * (q : Int)) = 60 * (r : Int) + 16 * (q : Int) := IntWalk.i64_in _ (by omega)
    have f4 : (60 * (r : Int) + 16 * (q : Int)) % 5760 = (S : Int) := by omega
    have f5 : Int.tmod (60 * (r : Int) + 16 * (q : Int)) 5760 = (S : Int) := by rw [Int.tmod_eq_emod_of_nonneg (by omega)]; omega
    clear h hS2
    go_enter Try.func29, Try.ntmps29
    go_wp2_with fail
    refine cI.out.mono ?_
    rintro e w' ⟨rfl, rfl⟩
    go_wp2_with fail
    go_ret2
    exact ⟨rfl, Below.refl _ _⟩
end Go.Proofs.Ytebkifhdbpeeoaa
