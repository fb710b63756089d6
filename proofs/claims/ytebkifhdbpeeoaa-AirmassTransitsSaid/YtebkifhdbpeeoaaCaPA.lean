/-
  The program's calendar (layer 9): moments, slots and sidereal angles.
-/
import Derived.Test.YtebkifhdbpeeoaaCaAns
set_option linter.unusedVariables false
set_option maxRecDepth 100000
namespace Go.Proofs.Ytebkifhdbpeeoaa
open Go.RowKit
open Ca
def I64 (x : Int) : Prop := -9223372036854775808 ≤ x ∧ x ≤ 9223372036854775807
theorem i64_of {x : Int} (h : -9223372036854775808 ≤ x ∧ x ≤ 9223372036854775807) : I64 x := h
theorem i64_nat {x : Nat} (h : x ≤ 9223372036854775807) : I64 (x : Int) := ⟨by omega, by omega⟩
theorem pis_any (m : Int) (w : World) : Calls Try.prog 37 #[.int .i64 m] w fun e w' => e = .returned (.bool (isM m)) ∧ w = w' := by
  obtain ⟨b, hb0⟩ : ∃ b, b = isM m := ⟨_, rfl⟩
  have HB := Lib.hid hb0
  rw [← hb0]
  clear hb0
  by_cases h1 : 0 ≤ m
  · by_cases h2 : m ≤ 38399
    · have hb : Hid (b = true) := Lib.hid (by rw [HB.out]; simp [isM, h1, h2])
      go_enter Try.func37, Try.ntmps37
      go_wp2_with fail
      go_ret
      exact ⟨by rw [hb.out]; rfl, rfl⟩
    · have hb : Hid (b = false) := Lib.hid (by rw [HB.out]; simp [isM, h1, h2])
      have t2 : decide (m ≤ 38399) = false := decide_eq_false h2
      clear h2
      go_enter Try.func37, Try.ntmps37
      go_wp2_with fail
      go_ret
      exact ⟨by rw [hb.out]; rfl, rfl⟩
  · have hb : Hid (b = false) := Lib.hid (by rw [HB.out]; simp [isM, h1])
    go_enter Try.func37, Try.ntmps37
    go_wp2_with fail
    go_ret
    exact ⟨by rw [hb.out]; rfl, rfl⟩
theorem pMoment_any (n s : Int) (hn : I64 n) (hs : I64 s) (w : World) : Calls Try.prog 34 #[.int .i64 n, .int .i64 s] w (GivesN (momA n s).1 (momA n s).2 w) := by
  clear hn hs
  by_cases h : 0 ≤ n ∧ n ≤ 399 ∧ 0 ≤ s ∧ s ≤ 95
  · obtain ⟨h1, h2, h3, h4⟩ := h
    have HA : Hid (momA n s = (n * 96 + s, 0)) := Lib.hid (by unfold momA okNS; rw [if_pos (by simp; omega), Int.mul_comm])
    have t1 : decide (n < 0) = false := decide_eq_false (by omega)
    have t2 : decide (400 ≤ n) = false := decide_eq_false (by omega)
    have t3 : decide (s < 0) = false := decide_eq_false (by omega)
    have t4 : decide (96 ≤ s) = false := decide_eq_false (by omega)
    have e1 : IntKind.i64.wrap (n * 96) = n * 96 := IntWalk.i64_in _ (by omega)
    have e2 : IntKind.i64.wrap (n * 96 + s) = n * 96 + s := IntWalk.i64_in _ (by omega)
    rw [HA.out]
    go_enter Try.func34, Try.ntmps34
    go_wp2_with fail
    go_ret2
    exact ⟨rfl, Below.refl _ _⟩
  · have HA : Hid (momA n s = (0, 1)) := Lib.hid (by unfold momA okNS; rw [if_neg (by simp; omega)])
    rw [HA.out]
    by_cases h1 : n < 0
    · have t1 : decide (n < 0) = true := decide_eq_true h1
      clear h
      go_enter Try.func34, Try.ntmps34
      go_wp2_with fail
      go_ret2
      exact ⟨rfl, Below.refl _ _⟩
    · have t1 : decide (n < 0) = false := decide_eq_false h1
      by_cases h2 : 400 ≤ n
      · have t2 : decide (400 ≤ n) = true := decide_eq_true h2
        clear h
        go_enter Try.func34, Try.ntmps34
        go_wp2_with fail
        go_ret2
        exact ⟨rfl, Below.refl _ _⟩
      · have t2 : decide (400 ≤ n) = false := decide_eq_false h2
        by_cases h3 : s < 0
        · have t3 : decide (s < 0) = true := decide_eq_true h3
          clear h
          go_enter Try.func34, Try.ntmps34
          go_wp2_with fail
          go_ret2
          exact ⟨rfl, Below.refl _ _⟩
        · have t3 : decide (s < 0) = false := decide_eq_false h3
          have t4 : decide (96 ≤ s) = true := decide_eq_true (by omega)
          clear h
          go_enter Try.func34, Try.ntmps34
          go_wp2_with fail
          go_ret2
          exact ⟨rfl, Below.refl _ _⟩
theorem psid_any (k : Nat) (hk : k < 38400) (w : World) : Calls Try.prog 38 #[.int .i64 (k : Int)] w fun e w' => e = .returned (.int .i64 ((sid k : Nat) : Int)) ∧ w = w' := by
  have e3 : Int.tdiv (k : Int) 96 = ((k / 96 : Nat) : Int) := by rw [Int.tdiv_eq_ediv_of_nonneg (by omega)]; omega
  have e4 : Int.tmod (k : Int) 96 = ((k % 96 : Nat) : Int) := by rw [Int.tmod_eq_emod_of_nonneg (by omega)]; omega
  have e5 : (k : Int) / 96 = ((k / 96 : Nat) : Int) := by omega
  have e6 : (k : Int) % 96 = ((k % 96 : Nat) : Int) := by omega
  obtain ⟨S, hS⟩ : ∃ S, S = sid k := ⟨_, rfl⟩
  have hS2 : S = (60 * (k % 96) + 16 * (k / 96)) % 5760 := hS
  rw [← hS]
  clear hS
  have q1 : k / 96 < 400 := by omega
  have q2 : k % 96 < 96 := by omega
  generalize k / 96 = q at e3 e5 q1 hS2
  generalize k % 96 = r at e4 e6 q2 hS2
  have f1 : IntKind.i64.wrap ((r : Int) * 60) = (r : Int) * 60 := IntWalk.i64_in _ (by omega)
  have f2 : IntKind.i64.wrap ((q : Int) * 16) = (q : Int) * 16 := IntWalk.i64_in _ (by omega)
  have f3 : IntKind.i64.wrap ((r : Int) * 60 + (q : Int) * 16) = (r : Int) * 60 + (q : Int) * 16 := IntWalk.i64_in _ (by omega)
  have f4 : ((r : Int) * 60 + (q : Int) * 16) % 5760 = (S : Int) := by omega
  have f5 : Int.tmod ((r : Int) * 60 + (q : Int) * 16) 5760 = (S : Int) := by rw [Int.tmod_eq_emod_of_nonneg (by omega)]; omega
  clear hS2
  go_enter Try.func38, Try.ntmps38
  go_wp2_with fail
  go_ret
  exact ⟨rfl, rfl⟩
theorem pSidereal_any (m : Int) (hm : I64 m) (w : World) : Calls Try.prog 21 #[.int .i64 m] w (GivesN (sidA m).1 (sidA m).2 w) := by
  have cI := Lib.hid (pis_any m w)
  clear hm
  cases h : isM m with
  | false =>
    rw [h] at cI
    have HA : Hid (sidA m = (0, 1)) := Lib.hid (by unfold sidA; rw [h]; rfl)
    rw [HA.out]
    clear h
    go_enter Try.func21, Try.ntmps21
    go_wp2_with fail
    refine cI.out.mono ?_
    rintro e w' ⟨rfl, rfl⟩
    go_wp2_with fail
    go_ret2
    exact ⟨rfl, Below.refl _ _⟩
  | true =>
    rw [h] at cI
    obtain ⟨k, rfl, hk⟩ := isM_yes h
    have HA := Lib.hid (sidA_ok hk)
    rw [HA.out]
    have cS := Lib.hid (psid_any k hk w)
    generalize sid k = S at cS
    clear h
    go_enter Try.func21, Try.ntmps21
    go_wp2_with fail
    refine cI.out.mono ?_
    rintro e w' ⟨rfl, rfl⟩
    go_wp2_with fail
    refine cS.out.mono ?_
    rintro e w' ⟨rfl, rfl⟩
    go_wp2_with fail
    go_ret2
    exact ⟨rfl, Below.refl _ _⟩
end Go.Proofs.Ytebkifhdbpeeoaa
