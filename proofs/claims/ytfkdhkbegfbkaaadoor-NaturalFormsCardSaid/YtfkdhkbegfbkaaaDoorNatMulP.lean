/-
  Plain mathematics of products digit by digit, for layer 3.
-/
import Derived.Test.YtfkdhkbegfbkaaaDoorNatArith
set_option linter.unusedVariables false
namespace Go.Proofs.YtfkdhkbegfbkaaaDoor.Dec
theorem valR_set (l : List Nat) (j x : Nat) (h : j < l.length) : valR (l.set j (l.getD j 0 + x)) = valR l + x * 10 ^ j := by
  induction l generalizing j with
  | nil => simp at h
  | cons d l ih =>
    cases j with
    | zero => simp [valR]; omega
    | succ j =>
      simp only [List.length_cons] at h
      simp only [List.set_cons_succ, valR, List.getD_cons_succ, Nat.pow_succ]
      rw [ih j (by omega), Nat.mul_add]
      have : 10 * (x * 10 ^ j) = x * (10 ^ j * 10) := by rw [Nat.mul_comm 10, Nat.mul_assoc]
      omega
theorem valR_zeros (n : Nat) : valR (List.replicate n 0) = 0 := by
  induction n with
  | zero => rfl
  | succ n ih => rw [List.replicate_succ, valR, ih]
theorem valR_append (l m : List Nat) : valR (l ++ m) = valR l + valR m * 10 ^ l.length := by
  induction l with
  | nil => simp [valR]
  | cons d l ih =>
    simp only [List.cons_append, valR, ih, List.length_cons, Nat.pow_succ, Nat.mul_add]
    have : 10 * (valR m * 10 ^ l.length) = valR m * (10 ^ l.length * 10) := by rw [Nat.mul_comm 10, Nat.mul_assoc]
    omega
/-- the sums of the products of digits, up to a place of the one and a place of the other number -/
structure Muls (a b i k : Nat) (S : List Nat) (m : Nat) : Prop where
  sum : valR S = a % 10 ^ i * b + a / 10 ^ i % 10 * 10 ^ i * (b % 10 ^ k)
  bound : ∀ j, S.getD j 0 ≤ m
theorem Muls.zero (a b L : Nat) : Muls a b 0 0 (List.replicate L 0) 0 := ⟨by simp [valR_zeros, Nat.mod_one], fun j => by
  rw [List.getD_eq_getElem?_getD]
  by_cases h : j < L
  · simp [h]
  · rw [List.getElem?_eq_none (by simpa using h)]; simp⟩
theorem Muls.step {a b i k m : Nat} {S : List Nat} (h : Muls a b i k S m) (hj : i + k < S.length) :
    Muls a b i (k + 1) (S.set (i + k) (S.getD (i + k) 0 + a / 10 ^ i % 10 * (b / 10 ^ k % 10))) (m + 81) := by
  have h1 := Nat.mod_lt (a / 10 ^ i) (show 0 < 10 by omega)
  have h2 := Nat.mod_lt (b / 10 ^ k) (show 0 < 10 by omega)
  refine ⟨?_, fun j => ?_⟩
  · rw [valR_set _ _ _ hj, h.sum, mod_next b k, Nat.mul_add, Nat.pow_add]
    generalize a / 10 ^ i % 10 = x
    generalize b / 10 ^ k % 10 = y
    generalize 10 ^ i = s
    generalize 10 ^ k = t
    have : x * y * (s * t) = x * s * (y * t) := by rw [Nat.mul_mul_mul_comm]
    omega
  · have hb := h.bound
    have h3 : a / 10 ^ i % 10 * (b / 10 ^ k % 10) ≤ 81 := by
      have : a / 10 ^ i % 10 * (b / 10 ^ k % 10) ≤ 9 * 9 := Nat.mul_le_mul (by omega) (by omega)
      omega
    rw [List.getD_eq_getElem?_getD]
    by_cases e : i + k = j
    · subst e
      rw [List.getElem?_set_self hj]
      have := hb (i + k)
      simp only [Option.getD_some]
      omega
    · rw [List.getElem?_set_ne e, ← List.getD_eq_getElem?_getD]
      have := hb j
      omega
theorem Muls.row {a b i k m : Nat} {S : List Nat} (h : Muls a b i k S m) (hb : b < 10 ^ k) : Muls a b (i + 1) 0 S m := by
  refine ⟨?_, h.bound⟩
  rw [h.sum, Nat.mod_eq_of_lt hb, mod_next a i, Nat.add_mul]
  simp [Nat.mod_one]
theorem Muls.done {a b i m : Nat} {S : List Nat} (h : Muls a b i 0 S m) (ha : a < 10 ^ i) : valR S = a * b := by
  rw [h.sum, Nat.mod_eq_of_lt ha]
  simp [Nat.mod_one]
/-- the digits of the sums up to a place, and what is carried -/
structure Carr (S : List Nat) (i : Nat) (D : List Nat) (c : Nat) : Prop where
  len : D.length = i
  small : ∀ d ∈ D, d < 10
  sum : valR D + (c + valR (S.drop i)) * 10 ^ i = valR S
theorem Carr.zero (S : List Nat) : Carr S 0 [] 0 := ⟨rfl, fun d hd => by (cases hd), by simp [valR]⟩
theorem Carr.next {S : List Nat} {i c : Nat} {D : List Nat} (h : Carr S i D c) (hi : i < S.length) : Carr S (i + 1) (D ++ [(S.getD i 0 + c) % 10]) ((S.getD i 0 + c) / 10) := by
  refine ⟨by rw [List.length_append, h.len]; rfl, ?_, ?_⟩
  · intro d hd
    rcases List.mem_append.1 hd with hd | hd
    · exact h.small d hd
    · simp only [List.mem_singleton] at hd; subst hd; exact Nat.mod_lt _ (by omega)
  · have hs := h.sum
    have hd : S.drop i = S.getD i 0 :: S.drop (i + 1) := by
      rw [List.drop_eq_getElem_cons hi]
      simp [List.getD, hi]
    rw [hd, valR] at hs
    rw [valR_snoc, h.len, Nat.pow_succ]
    generalize S.getD i 0 = x at *
    generalize valR (S.drop (i + 1)) = r at *
    generalize 10 ^ i = t at *
    have e1 : ((x + c) / 10 + r) * (t * 10) = ((x + c) / 10 * 10 + 10 * r) * t := by
      rw [Nat.mul_comm t 10, ← Nat.mul_assoc, Nat.add_mul]
      congr 2; omega
    have e2 : (x + c) % 10 * t + ((x + c) / 10 * 10 + 10 * r) * t = (c + (x + 10 * r)) * t := by
      rw [← Nat.add_mul]
      congr 1; omega
    omega
theorem Carr.done {S : List Nat} {D : List Nat} {c : Nat} (h : Carr S S.length D c) (hv : valR S < 10 ^ S.length) : valR D = valR S := by
  have hs := h.sum
  rw [List.drop_length, valR, Nat.add_zero] at hs
  rcases Nat.eq_zero_or_pos c with q | q
  · subst q; omega
  · have : 1 * 10 ^ S.length ≤ c * 10 ^ S.length := Nat.mul_le_mul_right _ q
    omega
end Go.Proofs.YtfkdhkbegfbkaaaDoor.Dec
