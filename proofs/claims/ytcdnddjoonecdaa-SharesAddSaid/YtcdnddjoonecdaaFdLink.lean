/-
  The prime number of the field among the integers, and the inverse as a power: pure facts (layer 6).
-/
import Derived.Test.YtcdnddjoonecdaaFdPure
import Derived.Test.YtcdnddjoonecdaaFdPoly
namespace Go.Proofs.Ytcdnddjoonecdaa.Fdp
theorem prI : Pr 2147483647 := fun a b h => by
  have h1 : Int.natAbs 2147483647 ∣ (a * b).natAbs := Int.natAbs_dvd_natAbs.2 h
  rw [Int.natAbs_mul] at h1
  rcases euclid h1 with h2 | h2
  · exact .inl (Int.natAbs_dvd_natAbs.1 h2)
  · exact .inr (Int.natAbs_dvd_natAbs.1 h2)
theorem one_ndvd : ¬ (2147483647 : Int) ∣ 1 := by decide
/-- a power, modulo m -/
def powM (a n m : Nat) : Nat := a ^ n % m
theorem powM_lt (a n : Nat) {m : Nat} (h : 0 < m) : powM a n m < m := Nat.mod_lt _ h
theorem powM_inv {n e m : Nat} (he : e = pr - 2) (hm : m = pr) (h0 : 0 < n) (h : n < pr) : n * powM n e m % m = 1 := by
  subst he hm; exact inv_pr h0 h
/-- the inverse, as a power -/
def ivI (a : Int) : Int := (powM (a % 2147483647).toNat 2147483645 2147483647 : Nat)
theorem ivI_range (a : Int) : 0 ≤ ivI a ∧ ivI a < 2147483647 := by
  have := powM_lt (a % 2147483647).toNat 2147483645 (show 0 < 2147483647 by decide)
  unfold ivI; omega
theorem ivI_is (a : Int) (h : ¬ (2147483647 : Int) ∣ a) : E 2147483647 (a * ivI a) 1 := by
  obtain ⟨n, hn⟩ : ∃ n : Nat, a % 2147483647 = n := ⟨(a % 2147483647).toNat, by have := Int.emod_nonneg a (show (2147483647 : Int) ≠ 0 by decide); omega⟩
  have hlt : n < pr := by have := Int.emod_lt_of_pos a (show (0 : Int) < 2147483647 by decide); show n < 2147483647; omega
  have h0 : 0 < n := by
    rcases Nat.eq_zero_or_pos n with e | e
    · subst e; exact absurd (Int.dvd_of_emod_eq_zero hn) h
    · exact e
  obtain ⟨q, hq⟩ : ∃ q, q = powM n 2147483645 2147483647 := ⟨_, rfl⟩
  have hi : n * q % 2147483647 = 1 := by rw [hq]; exact powM_inv (by decide) (by decide) h0 hlt
  have e1 : ivI a = (q : Int) := by unfold ivI; rw [hn, hq, Int.toNat_natCast]
  rw [e1]
  have h2 : E 2147483647 (((n * q : Nat) : Int)) 1 := by
    obtain ⟨X, hX⟩ : ∃ X, X = n * q := ⟨_, rfl⟩
    rw [← hX] at hi ⊢
    exact ⟨((X / 2147483647 : Nat) : Int), by omega⟩
  rw [Int.natCast_mul] at h2
  refine E.trans (E.mul ?_ (E.refl _)) h2
  exact (E.emod a).symm.trans (E.of hn)
/-- the inverse is the only one -/
theorem inv_unique {P : Int} (hP : Pr P) {a x y : Int} (ha : ¬ P ∣ a) (hx : E P (a * x) 1) (hy : E P (a * y) 1) : E P x y := by
  have h := hx.trans hy.symm
  unfold E at h
  rw [← Int.mul_sub] at h
  exact (hP _ _ h).resolve_left ha
end Go.Proofs.Ytcdnddjoonecdaa.Fdp
