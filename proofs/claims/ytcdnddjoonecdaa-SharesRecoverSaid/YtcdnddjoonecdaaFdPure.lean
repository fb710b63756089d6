/-
  The prime number of the field, and Fermat: pure facts (layer 6).
-/
namespace Go.Proofs.Ytcdnddjoonecdaa.Fdp
/-- the prime number of the field -/
abbrev pr : Nat := 2147483647
/-- no number from lo on, as many as n, divides m: halved again and again, so that the depth is small -/
def noneB (m : Nat) : Nat → Nat → Nat → Bool
  | 0, lo, n => n == 0 || (m % lo != 0)
  | f + 1, lo, n => if n ≤ 1 then (n == 0 || (m % lo != 0)) else noneB m f lo (n / 2) && noneB m f (lo + n / 2) (n - n / 2)
theorem noneB_is (m : Nat) : ∀ f lo n, n ≤ 2 ^ f → noneB m f lo n = true → ∀ d, lo ≤ d → d < lo + n → m % d ≠ 0
  | 0, lo, n, hn, h, d, h1, h2 => by
    have hd : d = lo := by simp at hn; omega
    subst hd
    unfold noneB at h
    simp at h hn
    rcases h with h | h
    · omega
    · exact h
  | f + 1, lo, n, hn, h, d, h1, h2 => by
    unfold noneB at h
    by_cases hn1 : n ≤ 1
    · rw [if_pos hn1] at h
      have hd : d = lo := by omega
      subst hd
      simp at h
      rcases h with h | h
      · omega
      · exact h
    · rw [if_neg hn1, Bool.and_eq_true] at h
      have hp : 2 ^ (f + 1) = 2 * 2 ^ f := by rw [Nat.pow_succ, Nat.mul_comm]
      by_cases hd : d < lo + n / 2
      · exact noneB_is m f lo (n / 2) (by omega) h.1 d h1 hd
      · exact noneB_is m f (lo + n / 2) (n - n / 2) (by omega) h.2 d (by omega) (by omega)
theorem pr_small : noneB pr 17 2 46341 = true := by decide +kernel
theorem pr_prime : ∀ d, 2 ≤ d → d < pr → ¬ d ∣ pr := by
  intro d h1 h2 hd
  by_cases h : d < 2 + 46341
  · exact noneB_is pr 17 2 46341 (by decide) pr_small d h1 h (Nat.mod_eq_zero_of_dvd hd)
  · obtain ⟨e, he⟩ := hd
    have he2 : 2 ≤ e := by
      rcases Nat.lt_or_ge e 2 with h' | h'
      · have : e = 0 ∨ e = 1 := by omega
        rcases this with rfl | rfl
        · simp at he
        · omega
      · exact h'
    have hle : e < 2 + 46341 := by
      rcases Nat.lt_or_ge e (2 + 46341) with h' | h'
      · exact h'
      · have : 46343 * 46343 ≤ d * e := Nat.mul_le_mul (by omega) h'
        have hpr : pr = 2147483647 := rfl
        omega
    exact noneB_is pr 17 2 46341 (by decide) pr_small e he2 hle (Nat.mod_eq_zero_of_dvd ⟨d, by rw [Nat.mul_comm]; exact he⟩)
theorem cop {a : Nat} (h : ¬ pr ∣ a) : Nat.gcd a pr = 1 := by
  have h1 : Nat.gcd a pr ∣ pr := Nat.gcd_dvd_right a pr
  have h2 : Nat.gcd a pr ∣ a := Nat.gcd_dvd_left a pr
  have h3 : Nat.gcd a pr ≤ pr := Nat.le_of_dvd (by decide) h1
  have h0 : 0 < Nat.gcd a pr := Nat.gcd_pos_of_pos_right a (by decide)
  rcases Nat.lt_or_ge (Nat.gcd a pr) 2 with h' | h'
  · omega
  · rcases Nat.lt_or_ge (Nat.gcd a pr) pr with h'' | h''
    · exact absurd h1 (pr_prime _ h' h'')
    · have : Nat.gcd a pr = pr := by omega
      rw [this] at h2; exact absurd h2 h
theorem euclid {a b : Nat} (h : pr ∣ a * b) : pr ∣ a ∨ pr ∣ b := by
  by_cases ha : pr ∣ a
  · exact .inl ha
  · right
    have hc : Nat.Coprime pr a := by unfold Nat.Coprime; rw [Nat.gcd_comm]; exact cop ha
    exact hc.dvd_of_dvd_mul_left h
-- Fermat's little theorem: the multiples of a number not divisible run through all remainders but 0
theorem prod_perm {l : List Nat} : ∀ {m : List Nat}, m.Nodup → l.Nodup → (∀ x ∈ m, x ∈ l) → l.length = m.length → m.foldr (· * ·) 1 = l.foldr (· * ·) 1 := by
  intro m
  induction m generalizing l with
  | nil =>
    intro _ _ _ hl
    have : l = [] := List.eq_nil_of_length_eq_zero hl
    subst this; rfl
  | cons x t ih =>
    intro hm hl hs he
    have hx : x ∈ l := hs x (by simp)
    have hnd := List.nodup_cons.1 hm
    have h1 : (l.erase x).length = t.length := by rw [List.length_erase_of_mem hx, he]; simp
    have h2 := ih (l := l.erase x) hnd.2 (hl.erase x) (fun y hy => by
      rw [hl.mem_erase_iff]
      exact ⟨fun e => hnd.1 (e ▸ hy), hs y (by simp [hy])⟩) h1
    have h3 : l.foldr (· * ·) 1 = x * (l.erase x).foldr (· * ·) 1 := by
      clear h1 h2 ih hs he hm hnd
      induction l with
      | nil => cases hx
      | cons y u ih =>
        by_cases e : y = x
        · subst e; simp
        · have hxu : x ∈ u := by
            rcases List.mem_cons.1 hx with h | h
            · exact absurd h.symm e
            · exact h
          have := ih (List.nodup_cons.1 hl).2 hxu
          rw [List.erase_cons_tail (by simpa using e)]
          simp only [List.foldr_cons]
          rw [this, ← Nat.mul_assoc, ← Nat.mul_assoc, Nat.mul_comm y x]
    rw [List.foldr_cons, h2, h3]
theorem sub_dvd {p x y : Nat} (h : x % p = y % p) (_ : y ≤ x) : p ∣ x - y := Nat.dvd_of_mod_eq_zero (Nat.sub_mod_eq_zero_of_mod_eq h)
theorem mul_inj {p a i j : Nat} (hE : ∀ a b, p ∣ a * b → p ∣ a ∨ p ∣ b) (ha : ¬ p ∣ a) (hi : i < p) (hj : j < p) (h : a * i % p = a * j % p) : i = j := by
  have key : ∀ {i j : Nat}, i < p → j ≤ i → a * i % p = a * j % p → i = j := by
    intro i j hi hle h
    have h1 := sub_dvd h (Nat.mul_le_mul_left a hle)
    rw [← Nat.mul_sub] at h1
    rcases hE _ _ h1 with h2 | h2
    · exact absurd h2 ha
    · have := Nat.eq_zero_of_dvd_of_lt h2 (by omega)
      omega
  rcases Nat.le_total j i with h' | h'
  · exact key hi h' h
  · exact (key hj h' h.symm).symm
theorem prod_map {p a : Nat} : ∀ l : List Nat, (l.map fun i => a * i % p).foldr (· * ·) 1 % p = a ^ l.length * l.foldr (· * ·) 1 % p
  | [] => by simp
  | x :: t => by
    have ih := prod_map (p := p) (a := a) t
    rw [List.map_cons, List.foldr_cons, List.foldr_cons, List.length_cons, Nat.pow_succ, Nat.mul_mod, ih, ← Nat.mul_mod, Nat.mul_mod (a * x % p), Nat.mod_mod, ← Nat.mul_mod]
    congr 1
    grind
theorem prod_ndvd {p : Nat} (h2 : 2 ≤ p) (hE : ∀ a b, p ∣ a * b → p ∣ a ∨ p ∣ b) : ∀ l : List Nat, (∀ x ∈ l, ¬ p ∣ x) → ¬ p ∣ l.foldr (· * ·) 1
  | [], _, h => by
    have h' : p ∣ 1 := h
    have := Nat.le_of_dvd (by decide) h'; omega
  | x :: t, hx, h => by
    rcases hE _ _ h with h' | h'
    · exact hx x (by simp) h'
    · exact prod_ndvd h2 hE t (fun y hy => hx y (by simp [hy])) h'
theorem fermat {p : Nat} (h2 : 2 ≤ p) (hE : ∀ a b, p ∣ a * b → p ∣ a ∨ p ∣ b) (a : Nat) (ha : ¬ p ∣ a) : a ^ (p - 1) % p = 1 := by
  obtain ⟨L, hL⟩ : ∃ L, L = (List.range (p - 1)).map (· + 1) := ⟨_, rfl⟩
  have hm : ∀ x, x ∈ L ↔ 1 ≤ x ∧ x < p := by
    intro x; rw [hL]; simp only [List.mem_map, List.mem_range]
    constructor
    · rintro ⟨y, hy, rfl⟩; omega
    · rintro ⟨h, h'⟩; exact ⟨x - 1, by omega, by omega⟩
  have hlen : L.length = p - 1 := by rw [hL]; simp
  have hnd : L.Nodup := by
    rw [hL]
    unfold List.Nodup
    rw [List.pairwise_map]
    exact (List.nodup_range).imp (fun h => by omega)
  have hMnd : (L.map fun i => a * i % p).Nodup := by
    unfold List.Nodup
    rw [List.pairwise_map]
    refine List.Pairwise.imp_of_mem ?_ hnd
    intro i j hi hj hne e
    exact hne (mul_inj hE ha ((hm i).1 hi).2 ((hm j).1 hj).2 e)
  have hndv : ∀ x ∈ L, ¬ p ∣ x := fun x hx h => by
    have := (hm x).1 hx
    have := Nat.le_of_dvd (by omega) h
    omega
  have hMs : ∀ x ∈ (L.map fun i => a * i % p), x ∈ L := by
    intro x hx
    rw [List.mem_map] at hx
    obtain ⟨i, hi, rfl⟩ := hx
    rw [hm]
    refine ⟨?_, Nat.mod_lt _ (by omega)⟩
    rcases Nat.eq_zero_or_pos (a * i % p) with h | h
    · rcases hE _ _ (Nat.dvd_of_mod_eq_zero h) with h' | h'
      · exact absurd h' ha
      · exact absurd h' (hndv i hi)
    · exact h
  have hp := prod_perm hMnd hnd hMs (by simp)
  have hq := prod_map (p := p) (a := a) L
  rw [hp, hlen] at hq
  have hP := prod_ndvd h2 hE L hndv
  generalize L.foldr (· * ·) 1 = X at *
  have hA : ¬ p ∣ a ^ (p - 1) := by
    intro h
    have : ∀ n, p ∣ a ^ n → p ∣ a ∨ p ∣ 1 := by
      intro n
      induction n with
      | zero => intro h; exact .inr h
      | succ n ih => intro h; rw [Nat.pow_succ] at h; rcases hE _ _ h with h | h; exact ih h; exact .inl h
    rcases this _ h with h | h
    · exact ha h
    · have := Nat.le_of_dvd (by decide) h; omega
  have hpos : 0 < a ^ (p - 1) := by
    rcases Nat.eq_zero_or_pos (a ^ (p - 1)) with h | h
    · exact absurd (h ▸ Nat.dvd_zero p) hA
    · exact h
  have h1 : p ∣ a ^ (p - 1) * X - 1 * X := sub_dvd (by rw [Nat.one_mul]; exact hq.symm) (Nat.mul_le_mul_right X hpos)
  rw [← Nat.sub_mul] at h1
  rcases hE _ _ h1 with h | h
  · obtain ⟨k, hk⟩ := h
    have h3 : a ^ (p - 1) = p * k + 1 := by omega
    rw [h3, Nat.mul_add_mod]; exact Nat.mod_eq_of_lt (by omega)
  · exact absurd h hP
theorem inv_pr {a : Nat} (h0 : 0 < a) (h : a < pr) : a * (a ^ (pr - 2) % pr) % pr = 1 := by
  have ha : ¬ pr ∣ a := fun hd => by have := Nat.le_of_dvd h0 hd; omega
  have hf := fermat (p := pr) (by decide) (fun _ _ => euclid) a ha
  rw [Nat.mul_mod, Nat.mod_mod, ← Nat.mul_mod, ← Nat.pow_succ']
  exact hf
end Go.Proofs.Ytcdnddjoonecdaa.Fdp
