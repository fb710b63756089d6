/-
  Plain mathematics of sums, differences and products digit by digit, for the natural numbers of layer 3.
-/
import Derived.Test.YtfkdhkbegfbkaaaDoorNatPure
set_option linter.unusedVariables false
namespace Go.Proofs.YtfkdhkbegfbkaaaDoor.Dec
theorem mod_next (v i : Nat) : v % 10 ^ (i + 1) = v % 10 ^ i + v / 10 ^ i % 10 * 10 ^ i := by
  rw [Nat.pow_succ, Nat.mod_mul, Nat.mul_comm (10 ^ i) (v / 10 ^ i % 10)]
/-- the digits of a sum up to a place, and what is carried -/
structure Adds (a b i : Nat) (D : List Nat) (c : Nat) : Prop where
  len : D.length = i
  small : ∀ d ∈ D, d < 10
  carry : c ≤ 1
  sum : valR D + c * 10 ^ i = a % 10 ^ i + b % 10 ^ i
theorem Adds.zero (a b : Nat) : Adds a b 0 [] 0 := ⟨rfl, fun d hd => by (cases hd), by omega, by simp [valR, Nat.mod_one]⟩
theorem Adds.next {a b i : Nat} {D : List Nat} {c : Nat} (h : Adds a b i D c) :
    Adds a b (i + 1) (D ++ [(a / 10 ^ i % 10 + b / 10 ^ i % 10 + c) % 10]) ((a / 10 ^ i % 10 + b / 10 ^ i % 10 + c) / 10) := by
  have h1 := Nat.mod_lt (a / 10 ^ i) (show 0 < 10 by omega)
  have h2 := Nat.mod_lt (b / 10 ^ i) (show 0 < 10 by omega)
  have h3 := h.carry
  have h4 := h.sum
  refine ⟨by rw [List.length_append, h.len]; rfl, ?_, by omega, ?_⟩
  · intro d hd
    rcases List.mem_append.1 hd with hd | hd
    · exact h.small d hd
    · simp only [List.mem_singleton] at hd; subst hd; exact Nat.mod_lt _ (by omega)
  · rw [mod_next a, mod_next b, valR_snoc, h.len, Nat.pow_succ]
    generalize a / 10 ^ i % 10 = x at *
    generalize b / 10 ^ i % 10 = y at *
    generalize 10 ^ i = k at *
    have e : (x + y + c) % 10 * k + (x + y + c) / 10 * (k * 10) = (x + y + c) * k := by
      rw [← Nat.mul_assoc, Nat.mul_right_comm, ← Nat.add_mul]
      congr 1; omega
    have e2 : (x + y + c) * k = x * k + y * k + c * k := by rw [Nat.add_mul, Nat.add_mul]
    omega
theorem Adds.done {a b i : Nat} {D : List Nat} (h : Adds a b i D 0) (ha : a < 10 ^ i) (hb : b < 10 ^ i) : valR D = a + b := by
  have := h.sum
  rw [Nat.mod_eq_of_lt ha, Nat.mod_eq_of_lt hb] at this
  omega
theorem Adds.last {a b i : Nat} {D : List Nat} {c : Nat} (h : Adds a b i D c) (ha : a < 10 ^ i) (hb : b < 10 ^ i) : (a / 10 ^ i % 10 + b / 10 ^ i % 10 + c) / 10 = 0 := by
  rw [Nat.div_eq_of_lt ha, Nat.div_eq_of_lt hb]
  have := h.carry
  omega
theorem valR_lt {D : List Nat} (h : ∀ d ∈ D, d < 10) : valR D < 10 ^ D.length := by
  induction D with
  | nil => simp [valR]
  | cons d D ih =>
    have h1 := h d (by simp)
    have h2 := ih (fun c hc => h c (by simp [hc]))
    rw [valR, List.length_cons, Nat.pow_succ]
    omega
/-- the digits of a difference up to a place, and what is borrowed -/
structure Subs (a b i : Nat) (D : List Nat) (c : Nat) : Prop where
  len : D.length = i
  small : ∀ d ∈ D, d < 10
  carry : c ≤ 1
  sum : a % 10 ^ i + c * 10 ^ i = valR D + b % 10 ^ i
theorem Subs.zero (a b : Nat) : Subs a b 0 [] 0 := ⟨rfl, fun d hd => by (cases hd), by omega, by simp [valR, Nat.mod_one]⟩
theorem Subs.next {a b i : Nat} {D : List Nat} {c : Nat} (h : Subs a b i D c) :
    Subs a b (i + 1) (D ++ [(a / 10 ^ i % 10 + 10 - b / 10 ^ i % 10 - c) % 10]) (1 - (a / 10 ^ i % 10 + 10 - b / 10 ^ i % 10 - c) / 10) := by
  have h1 := Nat.mod_lt (a / 10 ^ i) (show 0 < 10 by omega)
  have h2 := Nat.mod_lt (b / 10 ^ i) (show 0 < 10 by omega)
  have h3 := h.carry
  have h4 := h.sum
  refine ⟨by rw [List.length_append, h.len]; rfl, ?_, by omega, ?_⟩
  · intro d hd
    rcases List.mem_append.1 hd with hd | hd
    · exact h.small d hd
    · simp only [List.mem_singleton] at hd; subst hd; exact Nat.mod_lt _ (by omega)
  · rw [mod_next a, mod_next b, valR_snoc, h.len, Nat.pow_succ]
    generalize a / 10 ^ i % 10 = x at *
    generalize b / 10 ^ i % 10 = y at *
    generalize 10 ^ i = k at *
    obtain ⟨n, hn⟩ : ∃ n, n = x + 10 - y - c := ⟨_, rfl⟩
    rw [← hn]
    have hq : n / 10 ≤ 1 := by omega
    have e : (1 - n / 10) * (k * 10) = 10 * k - n / 10 * 10 * k := by
      rcases Nat.eq_or_lt_of_le hq with q | q
      · rw [q]; simp
      · have q0 : n / 10 = 0 := by omega
        rw [q0]; simp [Nat.mul_comm]
    have e1 : n / 10 * 10 * k ≤ 10 * k := Nat.mul_le_mul_right k (by omega)
    have e2 : n % 10 * k + n / 10 * 10 * k = n * k := by rw [← Nat.add_mul]; congr 1; omega
    have e3 : n * k + y * k + c * k = x * k + 10 * k := by
      rw [← Nat.add_mul, ← Nat.add_mul, ← Nat.add_mul]; congr 1; omega
    rw [e]
    omega
theorem Subs.done {a b i : Nat} {D : List Nat} {c : Nat} (h : Subs a b i D c) (ha : a < 10 ^ i) (hb : b ≤ a) : valR D = a - b := by
  have h1 := h.sum
  have h2 := valR_lt h.small
  rw [h.len] at h2
  rw [Nat.mod_eq_of_lt ha, Nat.mod_eq_of_lt (Nat.lt_of_le_of_lt hb ha)] at h1
  have h3 := h.carry
  rcases Nat.eq_or_lt_of_le h3 with q | q
  · subst q; omega
  · have : c = 0 := by omega
    subst this; omega
end Go.Proofs.YtfkdhkbegfbkaaaDoor.Dec
