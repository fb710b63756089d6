/-
  The program's Add, Mul, Inverse (layer 6).
-/
import Derived.Test.YtcdnddjoonecdaaFdInv
set_option linter.unusedVariables false
set_option maxRecDepth 100000
namespace Go.Proofs.Ytcdnddjoonecdaa
open Go.RowKit
open Fdp
def addE (a b : Int) : Int × Int := if okE a && okE b then (sumF a b, 0) else (0, 1)
def mulE (a b : Int) : Int × Int := if okE a && okE b then (mulF a b, 0) else (0, 1)
def invE (a : Int) : Int × Int := if okE a then (if a = 0 then (0, 14) else (ivI a, 0)) else (0, 1)
theorem all_two (a b : Int) : allE [a, b] = (okE a && okE b) := by simp [allE]
theorem all_one (a : Int) : allE [a] = okE a := by simp [allE]
theorem elements_yes (a : Option Addr) (n cap : Nat) (l : List Int) (w : World) (h : IntsAt w a n l) (hn : n ≤ maxLen) (hb : allE l = true) :
    Calls Try.prog 27 #[.slice a n cap] w fun e w' => e = .returned (.bool true) ∧ w = w' := by
  rw [← hb]; exact elements_any a n cap l w h hn
theorem elements_no (a : Option Addr) (n cap : Nat) (l : List Int) (w : World) (h : IntsAt w a n l) (hn : n ≤ maxLen) (hb : allE l = false) :
    Calls Try.prog 27 #[.slice a n cap] w fun e w' => e = .returned (.bool false) ∧ w = w' := by
  rw [← hb]; exact elements_any a n cap l w h hn
theorem max_small {n : Nat} (h : n ≤ 100) : n ≤ maxLen := by unfold maxLen; omega
set_option maxHeartbeats 400000 in
theorem fAdd_any (a b : Int) (w : World) : Calls Try.prog 22 #[.int .i64 a, .int .i64 b] w (GivesN (addE a b) w) := by
  unfold addE
  by_cases h : (okE a && okE b) = true
  · rw [if_pos h]
    have HA : Hid (allE [a, b] = true) := Lib.hid (by rw [all_two]; exact h)
    rw [Bool.and_eq_true, okE_iff, okE_iff] at h
    have HO := Lib.hid h
    clear h
    go_enter Try.func22, Try.ntmps22
    go_wp2_with (first | (go_at_call 27; refine (elements_yes _ _ _ [a, b] _ (ints_two _ _ _ (by simp)) (max_small (by decide)) HA.out).mono ?_; rintro e w' ⟨rfl, rfl⟩) | (go_at_call 28; refine (fsum_any _ _ _ HO.out.1 HO.out.2).mono ?_; rintro e w' ⟨rfl, rfl⟩))
    go_ret2
    exact ⟨rfl, (Below.refl _ _).alloc (Nat.le_refl _) _⟩
  · rw [if_neg h]
    have HA : Hid (allE [a, b] = false) := Lib.hid (by rw [all_two]; simpa using h)
    clear h
    go_enter Try.func22, Try.ntmps22
    go_wp2_with (first | (go_at_call 27; refine (elements_no _ _ _ [a, b] _ (ints_two _ _ _ (by simp)) (max_small (by decide)) HA.out).mono ?_; rintro e w' ⟨rfl, rfl⟩))
    go_ret2
    exact ⟨rfl, (Below.refl _ _).alloc (Nat.le_refl _) _⟩
set_option maxHeartbeats 400000 in
theorem fMul_any (a b : Int) (w : World) : Calls Try.prog 24 #[.int .i64 a, .int .i64 b] w (GivesN (mulE a b) w) := by
  unfold mulE
  by_cases h : (okE a && okE b) = true
  · rw [if_pos h]
    have HA : Hid (allE [a, b] = true) := Lib.hid (by rw [all_two]; exact h)
    rw [Bool.and_eq_true, okE_iff, okE_iff] at h
    have HO := Lib.hid h
    clear h
    go_enter Try.func24, Try.ntmps24
    go_wp2_with (first | (go_at_call 27; refine (elements_yes _ _ _ [a, b] _ (ints_two _ _ _ (by simp)) (max_small (by decide)) HA.out).mono ?_; rintro e w' ⟨rfl, rfl⟩) | (go_at_call 30; refine (product_any _ _ _ HO.out.1 HO.out.2).mono ?_; rintro e w' ⟨rfl, rfl⟩))
    go_ret2
    exact ⟨rfl, (Below.refl _ _).alloc (Nat.le_refl _) _⟩
  · rw [if_neg h]
    have HA : Hid (allE [a, b] = false) := Lib.hid (by rw [all_two]; simpa using h)
    clear h
    go_enter Try.func24, Try.ntmps24
    go_wp2_with (first | (go_at_call 27; refine (elements_no _ _ _ [a, b] _ (ints_two _ _ _ (by simp)) (max_small (by decide)) HA.out).mono ?_; rintro e w' ⟨rfl, rfl⟩))
    go_ret2
    exact ⟨rfl, (Below.refl _ _).alloc (Nat.le_refl _) _⟩
set_option maxHeartbeats 400000 in
theorem fInverse_any (a : Int) (w : World) : Calls Try.prog 23 #[.int .i64 a] w (GivesN (invE a) w) := by
  unfold invE
  by_cases h : okE a = true
  · rw [if_pos h]
    have HA : Hid (allE [a] = true) := Lib.hid (by rw [all_one]; exact h)
    rw [okE_iff] at h
    have HO := Lib.hid h
    clear h
    by_cases h0 : a = 0
    · rw [if_pos h0]
      have e0 : (a == 0) = true := by rw [h0]; rfl
      clear h0
      go_enter Try.func23, Try.ntmps23
      go_wp2_with (first | (go_at_call 27; refine (elements_yes _ _ _ [a] _ (ints_one _ _ (by simp)) (max_small (by decide)) HA.out).mono ?_; rintro e w' ⟨rfl, rfl⟩))
      go_ret2
      exact ⟨rfl, (Below.refl _ _).alloc (Nat.le_refl _) _⟩
    · rw [if_neg h0]
      have e0 : (a == 0) = false := by simpa using h0
      clear h0
      go_enter Try.func23, Try.ntmps23
      go_wp2_with (first | (go_at_call 27; refine (elements_yes _ _ _ [a] _ (ints_one _ _ (by simp)) (max_small (by decide)) HA.out).mono ?_; rintro e w' ⟨rfl, rfl⟩) | (go_at_call 29; refine (inverse_any _ _ HO.out).mono ?_; rintro e w' ⟨rfl, rfl⟩))
      go_ret2
      exact ⟨rfl, (Below.refl _ _).alloc (Nat.le_refl _) _⟩
  · rw [if_neg h]
    have HA : Hid (allE [a] = false) := Lib.hid (by rw [all_one]; simpa using h)
    clear h
    go_enter Try.func23, Try.ntmps23
    go_wp2_with (first | (go_at_call 27; refine (elements_no _ _ _ [a] _ (ints_one _ _ (by simp)) (max_small (by decide)) HA.out).mono ?_; rintro e w' ⟨rfl, rfl⟩))
    go_ret2
    exact ⟨rfl, (Below.refl _ _).alloc (Nat.le_refl _) _⟩
end Go.Proofs.Ytcdnddjoonecdaa
