/-
  The inverse, as a power by squaring: the program's and the document's (layer 6).
-/
import Derived.Test.YtcdnddjoonecdaaFdEls
set_option linter.unusedVariables false
set_option maxRecDepth 100000
namespace Go.Proofs.Ytcdnddjoonecdaa
open Go.RowKit
open Fdp
/-- a power of an element -/
def powF (a : Int) (n : Nat) : Int := (powM a.toNat n 2147483647 : Nat)
theorem powF_range (a : Int) (n : Nat) : 0 ≤ powF a n ∧ powF a n < 2147483647 := by
  have := powM_lt a.toNat n (show 0 < 2147483647 by decide)
  unfold powF; omega
theorem ivI_powF {a : Int} (ha : 0 ≤ a ∧ a < 2147483647) : ivI a = powF a 2147483645 := by
  unfold ivI powF; rw [Int.emod_eq_of_lt ha.1 ha.2]
/-- what is left to do: the result so far, times a power of what a has become -/
def Pw (p a : Int) (n : Nat) (r : Int) : Prop := E 2147483647 (p * a ^ n) r
theorem natMod (m : Nat) (n : Nat) : E 2147483647 ((powM m n 2147483647 : Nat) : Int) ((m : Int) ^ n) := by
  unfold powM
  rw [Int.natCast_emod, Int.natCast_pow]
  exact E.emod _
theorem powF_E {a : Int} (ha : 0 ≤ a) (n : Nat) : E 2147483647 (powF a n) (a ^ n) := by
  obtain ⟨m, rfl⟩ : ∃ m : Nat, a = m := ⟨a.toNat, by omega⟩
  unfold powF
  rw [Int.toNat_natCast]
  exact natMod m n
theorem Pw.start {a : Int} (ha : 0 ≤ a) (n : Nat) : Pw 1 a n (powF a n) := by
  unfold Pw; rw [Int.one_mul]; exact (powF_E ha n).symm
theorem Pw.E_left {P a b c : Int} (h : E P a b) : E P (a * c) (b * c) := h.mul (E.refl c)
theorem E.pow {P a b : Int} (h : E P a b) : ∀ n : Nat, E P (a ^ n) (b ^ n)
  | 0 => by rw [Int.pow_zero, Int.pow_zero]; exact E.refl 1
  | n + 1 => by rw [Int.pow_succ, Int.pow_succ]; exact (E.pow h n).mul h
theorem mulF_E (a b : Int) : E 2147483647 (mulF a b) (a * b) := E.emod _
theorem sumF_E (a b : Int) : E 2147483647 (sumF a b) (a + b) := E.emod _
theorem difF_E (a b : Int) : E 2147483647 (difF a b) (a - b) := (E.emod _).trans ⟨1, by omega⟩
theorem Pw.odd {p a r : Int} {n : Nat} (h : Pw p a n r) (hn : n % 2 = 1) : Pw (mulF p a) (mulF a a) (n / 2) r := by
  unfold Pw at h ⊢
  have h1 := (mulF_E p a).mul (E.pow (mulF_E a a) (n / 2))
  refine h1.trans ((E.of ?_).trans h)
  obtain ⟨k, hk⟩ : ∃ k, k = n / 2 := ⟨_, rfl⟩
  have e : n = 2 * k + 1 := by omega
  rw [← hk, e, Int.pow_succ, Int.pow_mul, Int.pow_succ, Int.pow_succ, Int.pow_zero, Int.one_mul]
  grind
theorem Pw.even {p a r : Int} {n : Nat} (h : Pw p a n r) (hn : n % 2 = 0) : Pw p (mulF a a) (n / 2) r := by
  unfold Pw at h ⊢
  have h1 := (E.refl p).mul (E.pow (mulF_E a a) (n / 2))
  refine h1.trans ((E.of ?_).trans h)
  obtain ⟨k, hk⟩ : ∃ k, k = n / 2 := ⟨_, rfl⟩
  have e : n = 2 * k := by omega
  rw [← hk, e, Int.pow_mul, Int.pow_succ, Int.pow_succ, Int.pow_zero, Int.one_mul]
theorem Pw.done {p a r : Int} (h : Pw p a 0 r) (hp : 0 ≤ p ∧ p < 2147483647) (hr : 0 ≤ r ∧ r < 2147483647) : p = r := by
  unfold Pw at h
  rw [Int.pow_zero, Int.mul_one] at h
  exact h.eq hp.1 hp.2 hr.1 hr.2
set_option maxHeartbeats 400000 in
theorem inverse_any (a : Int) (w : World) (ha : 0 ≤ a ∧ a < 2147483647) :
    Calls Try.prog 29 #[.int .i64 a] w fun e w' => e = .returned (.int .i64 (ivI a)) ∧ w = w' := by
  obtain ⟨r, hr⟩ : ∃ r, r = ivI a := ⟨_, rfl⟩
  rw [← hr]
  have hP : Hid (Pw 1 a 2147483645 r) := Lib.hid (by rw [hr, ivI_powF ha]; exact Pw.start ha.1 _)
  have hrr : Hid (0 ≤ r ∧ r < 2147483647) := Lib.hid (by rw [hr]; exact ivI_range a)
  clear hr
  go_enter Try.func29, Try.ntmps29
  go_wp2_with fail
  go_loop [0, 3, 4] (fun x p n => ∃ (X q : Int) (k : Nat), k ≤ 2147483645 ∧ x = .int .i64 X ∧ p = .int .i64 q ∧ n = .int .i64 (k : Int) ∧ Hid (0 ≤ X ∧ X < 2147483647) ∧ Hid (0 ≤ q ∧ q < 2147483647) ∧ Hid (Pw q X k r)) (fun _ _ n => (intOf n).toNat)
  case atStart => exact ⟨a, 1, 2147483645, by omega, rfl, rfl, rfl, Lib.hid ha, Lib.hid (by omega), hP⟩
  case round =>
    obtain ⟨X, q, k, hk, rfl, rfl, rfl, hX, hq, hP'⟩ := hrel
    by_cases h0 : 0 < k
    · obtain ⟨k2, hk2⟩ : ∃ k2, k2 = k / 2 := ⟨_, rfl⟩
      have hlt : k2 < k := by omega
      have e2 : (k : Int).tdiv 2 = (k2 : Int) := by rw [Int.tdiv_eq_ediv_of_nonneg (by omega)]; omega
      have e3 : IntKind.i64.wrap (k2 : Int) = (k2 : Int) := IntWalk.i64_in _ (by omega)
      by_cases h1 : k % 2 = 1
      · have e1 : (k : Int).tmod 2 = 1 := by rw [Int.tmod_eq_emod_of_nonneg (by omega)]; omega
        have hP2 : Hid (Pw (mulF q X) (mulF X X) k2 r) := Lib.hid (by rw [hk2]; exact hP'.out.odd h1)
        have HK := Lib.hid hk2
        clear hk2
        go_wp2_with (first | (go_at_call 30; refine (product_any _ _ _ (by first | exact hq.out | exact hX.out) hX.out).mono ?_; rintro e w' ⟨rfl, rfl⟩))
        go_round
        case rel => exact ⟨_, _, k2, by omega, rfl, rfl, rfl, Lib.hid (mulF_range _ _), Lib.hid (mulF_range _ _), hP2⟩
        case measure => simp [intOf]; omega
      · have e1 : (k : Int).tmod 2 = 0 := by rw [Int.tmod_eq_emod_of_nonneg (by omega)]; omega
        have hP2 : Hid (Pw q (mulF X X) k2 r) := Lib.hid (by rw [hk2]; exact hP'.out.even (by omega))
        have HK := Lib.hid hk2
        clear hk2 h1
        go_wp2_with (first | (go_at_call 30; refine (product_any _ _ _ hX.out hX.out).mono ?_; rintro e w' ⟨rfl, rfl⟩))
        go_round
        case rel => exact ⟨_, _, k2, by omega, rfl, rfl, rfl, Lib.hid (mulF_range _ _), hq, hP2⟩
        case measure => simp [intOf]; omega
    · obtain rfl : k = 0 := by omega
      have e : q = r := hP'.out.done hq.out hrr.out
      subst e
      go_wp2_with fail
      go_ret
      exact ⟨rfl, rfl⟩
end Go.Proofs.Ytcdnddjoonecdaa
