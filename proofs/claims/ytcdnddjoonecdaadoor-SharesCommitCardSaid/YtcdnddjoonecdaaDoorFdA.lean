/-
  The prime number of the field, and Fermat: pure facts (layer 6).
-/
set_option maxRecDepth 100000
namespace Go.Proofs.YtcdnddjoonecdaaDoor.Fdp
/-- the prime number of the field -/
abbrev pr : Nat := 2147483647
/-- no number from lo on, as many as n, divides m: halved again and again, so that the depth is small -/
def noneB (m : Nat) : Nat → Nat → Nat → Bool
  | 0, lo, n => n == 0 || (m % lo != 0)
  | f + 1, lo, n => if n ≤ 1 then (n == 0 || (m % lo != 0)) else noneB m f lo (n / 2) && noneB m f (lo + n / 2) (n - n / 2)
theorem noneB_is (m : Nat) : ∀ f lo n, n ≤ 2 ^ f → noneB m f lo n = true → ∀ d, lo ≤ d → d < lo + n → m % d ≠ 0
  | 0, lo, n, hn, h, d, h1, h2 => by
    have hd : d = lo := by simp at hn; omega
    subst hd
    unfold noneB at h
    simp at h hn
    rcases h with h | h
    · omega
    · exact h
  | f + 1, lo, n, hn, h, d, h1, h2 => by
    unfold noneB at h
    by_cases hn1 : n ≤ 1
    · rw [if_pos hn1] at h
      have hd : d = lo := by omega
      subst hd
      simp at h
      rcases h with h | h
      · omega
      · exact h
    · rw [if_neg hn1, Bool.and_eq_true] at h
      have hp : 2 ^ (f + 1) = 2 * 2 ^ f := by rw [Nat.pow_succ, Nat.mul_comm]
      by_cases hd : d < lo + n / 2
      · exact noneB_is m f lo (n / 2) (by omega) h.1 d h1 hd
      · exact noneB_is m f (lo + n / 2) (n - n / 2) (by omega) h.2 d (by omega) (by omega)
theorem pr_small : noneB pr 17 2 46341 = true := by decide +kernel
theorem pr_prime : ∀ d, 2 ≤ d → d < pr → ¬ d ∣ pr := by
  intro d h1 h2 hd
  by_cases h : d < 2 + 46341
  · exact noneB_is pr 17 2 46341 (by decide) pr_small d h1 h (Nat.mod_eq_zero_of_dvd hd)
  · obtain ⟨e, he⟩ := hd
    have he2 : 2 ≤ e := by
      rcases Nat.lt_or_ge e 2 with h' | h'
      · have : e = 0 ∨ e = 1 := by omega
        rcases this with rfl | rfl
        · simp at he
        · omega
      · exact h'
    have hle : e < 2 + 46341 := by
      rcases Nat.lt_or_ge e (2 + 46341) with h' | h'
      · exact h'
      · have : 46343 * 46343 ≤ d * e := Nat.mul_le_mul (by omega) h'
        have hpr : pr = 2147483647 := rfl
        omega
    exact noneB_is pr 17 2 46341 (by decide) pr_small e he2 hle (Nat.mod_eq_zero_of_dvd ⟨d, by rw [Nat.mul_comm]; exact he⟩)
theorem cop {a : Nat} (h : ¬ pr ∣ a) : Nat.gcd a pr = 1 := by
  have h1 : Nat.gcd a pr ∣ pr := Nat.gcd_dvd_right a pr
  have h2 : Nat.gcd a pr ∣ a := Nat.gcd_dvd_left a pr
  have h3 : Nat.gcd a pr ≤ pr := Nat.le_of_dvd (by decide) h1
  have h0 : 0 < Nat.gcd a pr := Nat.gcd_pos_of_pos_right a (by decide)
  rcases Nat.lt_or_ge (Nat.gcd a pr) 2 with h' | h'
  · omega
  · rcases Nat.lt_or_ge (Nat.gcd a pr) pr with h'' | h''
    · exact absurd h1 (pr_prime _ h' h'')
    · have : Nat.gcd a pr = pr := by omega
      rw [this] at h2; exact absurd h2 h
theorem euclid {a b : Nat} (h : pr ∣ a * b) : pr ∣ a ∨ pr ∣ b := by
  by_cases ha : pr ∣ a
  · exact .inl ha
  · right
    have hc : Nat.Coprime pr a := by unfold Nat.Coprime; rw [Nat.gcd_comm]; exact cop ha
    exact hc.dvd_of_dvd_mul_left h
-- Fermat's little theorem: the multiples of a number not divisible run through all remainders but 0
theorem prod_perm {l : List Nat} : ∀ {m : List Nat}, m.Nodup → l.Nodup → (∀ x ∈ m, x ∈ l) → l.length = m.length → m.foldr (· * ·) 1 = l.foldr (· * ·) 1 := by
  intro m
  induction m generalizing l with
  | nil =>
    intro _ _ _ hl
    have : l = [] := List.eq_nil_of_length_eq_zero hl
    subst this; rfl
  | cons x t ih =>
    intro hm hl hs he
    have hx : x ∈ l := hs x (by simp)
    have hnd := List.nodup_cons.1 hm
    have h1 : (l.erase x).length = t.length := by rw [List.length_erase_of_mem hx, he]; simp
    have h2 := ih (l := l.erase x) hnd.2 (hl.erase x) (fun y hy => by
      rw [hl.mem_erase_iff]
      exact ⟨fun e => hnd.1 (e ▸ hy), hs y (by simp [hy])⟩) h1
    have h3 : l.foldr (· * ·) 1 = x * (l.erase x).foldr (· * ·) 1 := by
      clear h1 h2 ih hs he hm hnd
      induction l with
      | nil => cases hx
      | cons y u ih =>
        by_cases e : y = x
        · subst e; simp
        · have hxu : x ∈ u := by
            rcases List.mem_cons.1 hx with h | h
            · exact absurd h.symm e
            · exact h
          have := ih (List.nodup_cons.1 hl).2 hxu
          rw [List.erase_cons_tail (by simpa using e)]
          simp only [List.foldr_cons]
          rw [this, ← Nat.mul_assoc, ← Nat.mul_assoc, Nat.mul_comm y x]
    rw [List.foldr_cons, h2, h3]
theorem sub_dvd {p x y : Nat} (h : x % p = y % p) (_ : y ≤ x) : p ∣ x - y := Nat.dvd_of_mod_eq_zero (Nat.sub_mod_eq_zero_of_mod_eq h)
theorem mul_inj {p a i j : Nat} (hE : ∀ a b, p ∣ a * b → p ∣ a ∨ p ∣ b) (ha : ¬ p ∣ a) (hi : i < p) (hj : j < p) (h : a * i % p = a * j % p) : i = j := by
  have key : ∀ {i j : Nat}, i < p → j ≤ i → a * i % p = a * j % p → i = j := by
    intro i j hi hle h
    have h1 := sub_dvd h (Nat.mul_le_mul_left a hle)
    rw [← Nat.mul_sub] at h1
    rcases hE _ _ h1 with h2 | h2
    · exact absurd h2 ha
    · have := Nat.eq_zero_of_dvd_of_lt h2 (by omega)
      omega
  rcases Nat.le_total j i with h' | h'
  · exact key hi h' h
  · exact (key hj h' h.symm).symm
theorem prod_map {p a : Nat} : ∀ l : List Nat, (l.map fun i => a * i % p).foldr (· * ·) 1 % p = a ^ l.length * l.foldr (· * ·) 1 % p
  | [] => by simp
  | x :: t => by
    have ih := prod_map (p := p) (a := a) t
    rw [List.map_cons, List.foldr_cons, List.foldr_cons, List.length_cons, Nat.pow_succ, Nat.mul_mod, ih, ← Nat.mul_mod, Nat.mul_mod (a * x % p), Nat.mod_mod, ← Nat.mul_mod]
    congr 1
    grind
theorem prod_ndvd {p : Nat} (h2 : 2 ≤ p) (hE : ∀ a b, p ∣ a * b → p ∣ a ∨ p ∣ b) : ∀ l : List Nat, (∀ x ∈ l, ¬ p ∣ x) → ¬ p ∣ l.foldr (· * ·) 1
  | [], _, h => by
    have h' : p ∣ 1 := h
    have := Nat.le_of_dvd (by decide) h'; omega
  | x :: t, hx, h => by
    rcases hE _ _ h with h' | h'
    · exact hx x (by simp) h'
    · exact prod_ndvd h2 hE t (fun y hy => hx y (by simp [hy])) h'
theorem fermat {p : Nat} (h2 : 2 ≤ p) (hE : ∀ a b, p ∣ a * b → p ∣ a ∨ p ∣ b) (a : Nat) (ha : ¬ p ∣ a) : a ^ (p - 1) % p = 1 := by
  obtain ⟨L, hL⟩ : ∃ L, L = (List.range (p - 1)).map (· + 1) := ⟨_, rfl⟩
  have hm : ∀ x, x ∈ L ↔ 1 ≤ x ∧ x < p := by
    intro x; rw [hL]; simp only [List.mem_map, List.mem_range]
    constructor
    · rintro ⟨y, hy, rfl⟩; omega
    · rintro ⟨h, h'⟩; exact ⟨x - 1, by omega, by omega⟩
  have hlen : L.length = p - 1 := by rw [hL]; simp
  have hnd : L.Nodup := by
    rw [hL]
    unfold List.Nodup
    rw [List.pairwise_map]
    exact (List.nodup_range).imp (fun h => by omega)
  have hMnd : (L.map fun i => a * i % p).Nodup := by
    unfold List.Nodup
    rw [List.pairwise_map]
    refine List.Pairwise.imp_of_mem ?_ hnd
    intro i j hi hj hne e
    exact hne (mul_inj hE ha ((hm i).1 hi).2 ((hm j).1 hj).2 e)
  have hndv : ∀ x ∈ L, ¬ p ∣ x := fun x hx h => by
    have := (hm x).1 hx
    have := Nat.le_of_dvd (by omega) h
    omega
  have hMs : ∀ x ∈ (L.map fun i => a * i % p), x ∈ L := by
    intro x hx
    rw [List.mem_map] at hx
    obtain ⟨i, hi, rfl⟩ := hx
    rw [hm]
    refine ⟨?_, Nat.mod_lt _ (by omega)⟩
    rcases Nat.eq_zero_or_pos (a * i % p) with h | h
    · rcases hE _ _ (Nat.dvd_of_mod_eq_zero h) with h' | h'
      · exact absurd h' ha
      · exact absurd h' (hndv i hi)
    · exact h
  have hp := prod_perm hMnd hnd hMs (by simp)
  have hq := prod_map (p := p) (a := a) L
  rw [hp, hlen] at hq
  have hP := prod_ndvd h2 hE L hndv
  generalize L.foldr (· * ·) 1 = X at *
  have hA : ¬ p ∣ a ^ (p - 1) := by
    intro h
    have : ∀ n, p ∣ a ^ n → p ∣ a ∨ p ∣ 1 := by
      intro n
      induction n with
      | zero => intro h; exact .inr h
      | succ n ih => intro h; rw [Nat.pow_succ] at h; rcases hE _ _ h with h | h; exact ih h; exact .inl h
    rcases this _ h with h | h
    · exact ha h
    · have := Nat.le_of_dvd (by decide) h; omega
  have hpos : 0 < a ^ (p - 1) := by
    rcases Nat.eq_zero_or_pos (a ^ (p - 1)) with h | h
    · exact absurd (h ▸ Nat.dvd_zero p) hA
    · exact h
  have h1 : p ∣ a ^ (p - 1) * X - 1 * X := sub_dvd (by rw [Nat.one_mul]; exact hq.symm) (Nat.mul_le_mul_right X hpos)
  rw [← Nat.sub_mul] at h1
  rcases hE _ _ h1 with h | h
  · obtain ⟨k, hk⟩ := h
    have h3 : a ^ (p - 1) = p * k + 1 := by omega
    rw [h3, Nat.mul_add_mod]; exact Nat.mod_eq_of_lt (by omega)
  · exact absurd h hP
theorem inv_pr {a : Nat} (h0 : 0 < a) (h : a < pr) : a * (a ^ (pr - 2) % pr) % pr = 1 := by
  have ha : ¬ pr ∣ a := fun hd => by have := Nat.le_of_dvd h0 hd; omega
  have hf := fermat (p := pr) (by decide) (fun _ _ => euclid) a ha
  rw [Nat.mul_mod, Nat.mod_mod, ← Nat.mul_mod, ← Nat.pow_succ']
  exact hf
end Go.Proofs.YtcdnddjoonecdaaDoor.Fdp

/-
  Polynomials modulo a prime number, their zeros, and those through some points, in the forms of Lagrange and of Newton: pure facts (layer 6).
-/
set_option maxRecDepth 100000
namespace Go.Proofs.YtcdnddjoonecdaaDoor.Fdp
/-- equal but for a multiple of P -/
def E (P a b : Int) : Prop := P ∣ a - b
variable {P : Int}
theorem E.refl (a : Int) : E P a a := by unfold E; rw [Int.sub_self]; exact Int.dvd_zero P
theorem E.of {a b : Int} (h : a = b) : E P a b := h ▸ E.refl a
theorem E.symm {a b : Int} (h : E P a b) : E P b a := by
  obtain ⟨k, hk⟩ := h; exact ⟨-k, by rw [Int.mul_neg, ← hk]; omega⟩
theorem E.trans {a b c : Int} (h : E P a b) (h' : E P b c) : E P a c := by
  obtain ⟨k, hk⟩ := h; obtain ⟨m, hm⟩ := h'; exact ⟨k + m, by rw [Int.mul_add, ← hk, ← hm]; omega⟩
theorem E.add {a b c d : Int} (h : E P a b) (h' : E P c d) : E P (a + c) (b + d) := by
  obtain ⟨k, hk⟩ := h; obtain ⟨m, hm⟩ := h'; exact ⟨k + m, by rw [Int.mul_add, ← hk, ← hm]; omega⟩
theorem E.sub {a b c d : Int} (h : E P a b) (h' : E P c d) : E P (a - c) (b - d) := by
  obtain ⟨k, hk⟩ := h; obtain ⟨m, hm⟩ := h'; exact ⟨k - m, by rw [Int.mul_sub, ← hk, ← hm]; omega⟩
theorem E.mul {a b c d : Int} (h : E P a b) (h' : E P c d) : E P (a * c) (b * d) := by
  obtain ⟨k, hk⟩ := h; obtain ⟨m, hm⟩ := h'; exact ⟨k * c + b * m, by grind⟩
theorem E.emod (a : Int) : E P (a % P) a := by
  have h : a - a % P = P * (a / P) := by have := Int.emod_add_mul_ediv a P; omega
  exact E.symm ⟨_, h⟩
theorem E.zero {a : Int} : E P a 0 ↔ P ∣ a := by unfold E; rw [Int.sub_zero]
theorem E.eq {a b : Int} (h : E P a b) (ha : 0 ≤ a) (ha' : a < P) (hb : 0 ≤ b) (hb' : b < P) : a = b := by
  have h1 : (a - b) % P = 0 := Int.emod_eq_zero_of_dvd h
  rw [Int.sub_emod, Int.emod_eq_of_lt ha ha', Int.emod_eq_of_lt hb hb'] at h1
  have h2 := Int.dvd_of_emod_eq_zero h1
  obtain ⟨k, hk⟩ := h2
  rcases Int.lt_trichotomy k 0 with hk0 | hk0 | hk0
  · have : P * k ≤ P * (-1) := Int.mul_le_mul_of_nonneg_left (by omega) (by omega)
    omega
  · subst hk0; omega
  · have : P * 1 ≤ P * k := Int.mul_le_mul_of_nonneg_left (by omega) (by omega)
    omega
/-- P is prime -/
def Pr (P : Int) : Prop := ∀ a b : Int, P ∣ a * b → P ∣ a ∨ P ∣ b
/-- the value of a polynomial, the constant coefficient first -/
def ev (x : Int) : List Int → Int
  | [] => 0
  | c :: t => c + x * ev x t
theorem ev_nil (x : Int) : ev x [] = 0 := rfl
theorem ev_cons (x c : Int) (t : List Int) : ev x (c :: t) = c + x * ev x t := rfl
theorem ev_E {x y : Int} (h : E P x y) : ∀ l, E P (ev x l) (ev y l)
  | [] => E.refl _
  | c :: t => (E.refl c).add (h.mul (ev_E h t))
/-- the values of the ends of a list -/
def quo (r : Int) : List Int → List Int
  | [] => []
  | c :: t => ev r (c :: t) :: quo r t
theorem quo_len (r : Int) : ∀ l, (quo r l).length = l.length
  | [] => rfl
  | _ :: t => by simp [quo, quo_len r t]
theorem ev_quo (x r : Int) : ∀ l, ev x l = ev r l + (x - r) * ev x (quo r l.tail)
  | [] => by simp [ev, quo]
  | c :: [] => by simp [ev, quo]
  | c :: d :: t => by
    have ih := ev_quo x r (d :: t)
    simp only [List.tail_cons] at ih ⊢
    rw [ev_cons x c, ih, ev_cons r c, quo, ev_cons x]
    grind
theorem quo_zero {r : Int} : ∀ l, (∀ c ∈ quo r l, E P c 0) → ∀ c ∈ l, E P c 0
  | [], _, c, hc => by cases hc
  | d :: t, h, c, hc => by
    have ht : ∀ c ∈ t, E P c 0 := quo_zero (r := r) t (fun c hc => h c (by simp only [quo, List.mem_cons]; exact .inr hc))
    have h0 : E P (ev r (d :: t)) 0 := h _ (by simp [quo])
    have hev : E P (ev r t) 0 := by
      cases t with
      | nil => exact E.refl 0
      | cons e u => exact h _ (by simp [quo])
    rcases List.mem_cons.1 hc with rfl | hc
    · have : E P c (c + r * ev r t) := by
        have := (E.refl c).add ((E.refl r).mul hev)
        rw [Int.mul_zero, Int.add_zero] at this
        exact this.symm
      exact this.trans h0
    · exact ht c hc
/-- numbers that differ, also but for multiples of P -/
def Diff (P : Int) (xs : List Int) : Prop := xs.Pairwise fun a b => ¬ E P a b
/-- a polynomial with as many zeros as coefficients has zero coefficients alone -/
theorem roots (hP : Pr P) : ∀ (xs l : List Int), l.length ≤ xs.length → Diff P xs → (∀ x ∈ xs, E P (ev x l) 0) → ∀ c ∈ l, E P c 0
  | [], l, hl, _, _, c, hc => by
    have : l = [] := List.eq_nil_of_length_eq_zero (by simpa using hl)
    subst this; cases hc
  | r :: xs, l, hl, hd, h0, c, hc => by
    have hd' := List.pairwise_cons.1 hd
    cases l with
    | nil => cases hc
    | cons d t =>
      have hr : E P (ev r (d :: t)) 0 := h0 r (by simp)
      have hq : ∀ x ∈ xs, E P (ev x (quo r t)) 0 := by
        intro x hx
        have h1 := h0 x (by simp [hx])
        rw [ev_quo x r (d :: t), List.tail_cons] at h1
        have h2 : E P ((x - r) * ev x (quo r t)) 0 := by
          have := h1.sub hr
          rwa [Int.sub_zero, show ev r (d :: t) + (x - r) * ev x (quo r t) - ev r (d :: t) = (x - r) * ev x (quo r t) by omega] at this
        rcases hP _ _ (E.zero.1 h2) with h3 | h3
        · exact absurd (E.symm h3) (hd'.1 x hx)
        · exact E.zero.2 h3
      have hz := roots hP xs (quo r t) (by rw [quo_len]; simpa using hl) hd'.2 hq
      have ht := quo_zero t hz
      have hev : E P (ev r t) 0 := by
        cases t with
        | nil => exact E.refl 0
        | cons e u => exact hz _ (by simp [quo])
      rcases List.mem_cons.1 hc with rfl | hc
      · have : E P c (c + r * ev r t) := by
          have := (E.refl c).add ((E.refl r).mul hev)
          rw [Int.mul_zero, Int.add_zero] at this
          exact this.symm
        exact this.trans hr
      · exact ht c hc
theorem ev_zero {x : Int} : ∀ l, (∀ c ∈ l, E P c 0) → E P (ev x l) 0
  | [], _ => E.refl 0
  | c :: t, h => by
    have := (h c (by simp)).add ((E.refl x).mul (ev_zero (x := x) t (fun d hd => h d (by simp [hd]))))
    rwa [Int.mul_zero, Int.add_zero] at this
/-- a function that is a polynomial with at most n coefficients, but for multiples of P -/
def PolyF (P : Int) (n : Nat) (f : Int → Int) : Prop := ∃ l : List Int, l.length ≤ n ∧ ∀ x, E P (f x) (ev x l)
def addL : List Int → List Int → List Int
  | [], m => m
  | l, [] => l
  | a :: l, b :: m => (a + b) :: addL l m
theorem addL_len : ∀ l m : List Int, (addL l m).length = max l.length m.length
  | [], m => by simp [addL]
  | a :: l, [] => by simp [addL]
  | a :: l, b :: m => by simp only [addL, List.length_cons, addL_len l m]; omega
theorem ev_addL (x : Int) : ∀ l m : List Int, ev x (addL l m) = ev x l + ev x m
  | [], m => by simp [addL, ev]
  | a :: l, [] => by simp [addL, ev]
  | a :: l, b :: m => by simp only [addL, ev_cons, ev_addL x l m]; grind
theorem ev_map (x k : Int) : ∀ l : List Int, ev x (l.map (k * ·)) = k * ev x l
  | [] => by simp [ev]
  | a :: l => by simp only [List.map_cons, ev_cons, ev_map x k l]; grind
theorem PolyF.mono {n m : Nat} {f : Int → Int} (h : PolyF P n f) (hm : n ≤ m) : PolyF P m f := let ⟨l, h1, h2⟩ := h; ⟨l, Nat.le_trans h1 hm, h2⟩
theorem PolyF.const (c : Int) : PolyF P 1 (fun _ => c) := ⟨[c], by simp, fun x => E.of (by simp [ev])⟩
theorem PolyF.zero : PolyF P 0 (fun _ => 0) := ⟨[], by simp, fun x => E.refl _⟩
theorem PolyF.of_E {n : Nat} {f g : Int → Int} (h : PolyF P n f) (he : ∀ x, E P (g x) (f x)) : PolyF P n g := let ⟨l, h1, h2⟩ := h; ⟨l, h1, fun x => (he x).trans (h2 x)⟩
theorem PolyF.add {n m : Nat} {f g : Int → Int} (h : PolyF P n f) (h' : PolyF P m g) : PolyF P (max n m) (fun x => f x + g x) := by
  obtain ⟨l, h1, h2⟩ := h
  obtain ⟨k, k1, k2⟩ := h'
  exact ⟨addL l k, by rw [addL_len]; omega, fun x => by rw [ev_addL]; exact (h2 x).add (k2 x)⟩
theorem PolyF.smul {n : Nat} {f : Int → Int} (h : PolyF P n f) (k : Int) : PolyF P n (fun x => k * f x) := by
  obtain ⟨l, h1, h2⟩ := h
  exact ⟨l.map (k * ·), by simpa using h1, fun x => by rw [ev_map]; exact (E.refl k).mul (h2 x)⟩
theorem PolyF.sub {n m : Nat} {f g : Int → Int} (h : PolyF P n f) (h' : PolyF P m g) : PolyF P (max n m) (fun x => f x - g x) :=
  (h.add (h'.smul (-1))).of_E (fun x => E.of (by omega))
theorem PolyF.root {n : Nat} {f : Int → Int} (h : PolyF P n f) (r : Int) : PolyF P (n + 1) (fun x => (x - r) * f x) := by
  obtain ⟨l, h1, h2⟩ := h
  refine ⟨addL (0 :: l) (l.map (-r * ·)), by rw [addL_len]; simp; omega, fun x => ?_⟩
  rw [ev_addL, ev_cons, ev_map]
  exact ((E.refl (x - r)).mul (h2 x)).trans (E.of (by grind))
/-- polynomials with at most n coefficients that agree at n numbers agree everywhere -/
theorem PolyF.same (hP : Pr P) {n : Nat} {f g : Int → Int} (hf : PolyF P n f) (hg : PolyF P n g) (xs : List Int) (hn : n ≤ xs.length) (hd : Diff P xs) (h : ∀ x ∈ xs, E P (f x) (g x)) (x : Int) : E P (f x) (g x) := by
  obtain ⟨l, h1, h2⟩ := hf.sub hg
  have hz := roots hP xs l (by omega) hd (fun y hy => by
    have := (h y hy).sub (E.refl (g y))
    rw [Int.sub_self] at this
    exact (h2 y).symm.trans this)
  have h3 := (h2 x).trans (ev_zero l hz)
  have := h3.add (E.refl (g x))
  rwa [Int.zero_add, show f x - g x + g x = f x by omega] at this
/-- a polynomial with n zeros and at most n + 1 coefficients has no further zero, unless it is zero everywhere -/
theorem PolyF.zeros (hP : Pr P) {n : Nat} {f : Int → Int} (hf : PolyF P (n + 1) f) (xs : List Int) (hn : n ≤ xs.length) (hd : Diff P xs) (h : ∀ x ∈ xs, E P (f x) 0) (x : Int) (hx : ∀ y ∈ xs, ¬ E P x y) (h0 : E P (f x) 0) (z : Int) : E P (f z) 0 :=
  hf.same hP (g := fun _ => 0) (PolyF.zero.mono (by omega)) (x :: xs) (by simp; omega) (List.pairwise_cons.2 ⟨hx, hd⟩) (fun y hy => by
    rcases List.mem_cons.1 hy with rfl | hy
    · exact h0
    · exact h y hy) z
/-- f is a polynomial with at most as many coefficients as there are points, and goes through them -/
structure Fits (P : Int) (pts : List (Int × Int)) (f : Int → Int) : Prop where
  poly : PolyF P pts.length f
  through : ∀ q ∈ pts, E P (f q.1) q.2
abbrev Xs (pts : List (Int × Int)) : List Int := pts.map Prod.fst
theorem Fits.poly_same (hP : Pr P) {pts : List (Int × Int)} {f g : Int → Int} (h : Fits P pts f) (hd : Diff P (Xs pts)) (hg : PolyF P pts.length g) (hx : ∀ q ∈ pts, E P (g q.1) q.2) (x : Int) : E P (f x) (g x) :=
  h.poly.same hP hg (Xs pts) (by simp) hd (fun y hy => by
    obtain ⟨q, hq, rfl⟩ := List.mem_map.1 hy
    exact (h.through q hq).trans (hx q hq).symm) x
theorem Fits.same (hP : Pr P) {pts : List (Int × Int)} {f g : Int → Int} (h : Fits P pts f) (h' : Fits P pts g) (hd : Diff P (Xs pts)) (x : Int) : E P (f x) (g x) := h.poly_same hP hd h'.poly h'.through x
theorem Fits.perm {pts pts' : List (Int × Int)} {f : Int → Int} (h : Fits P pts f) (hl : pts'.length = pts.length) (hm : ∀ q, q ∈ pts' → q ∈ pts) : Fits P pts' f := ⟨hl ▸ h.poly, fun q hq => h.through q (hm q hq)⟩
/-- P6.7 -/
theorem Fits.further (hP : Pr P) {pts : List (Int × Int)} {q : Int × Int} {f g : Int → Int} (h : Fits P pts f) (h' : Fits P (pts ++ [q]) g) (hd : Diff P (Xs pts)) (hq : ∀ y ∈ Xs pts, ¬ E P q.1 y) (x : Int) :
    E P (f x) (g x) ↔ (∃ y ∈ Xs pts, E P x y) ∨ E P (f q.1) q.2 := by
  have hz : ∀ y ∈ Xs pts, E P (f y - g y) 0 := by
    intro y hy
    obtain ⟨p, hp, rfl⟩ := List.mem_map.1 hy
    have := (h.through p hp).sub (h'.through p (by simp [hp]))
    rwa [Int.sub_self] at this
  have hD : PolyF P (pts.length + 1) (fun x => f x - g x) := (h.poly.sub h'.poly).mono (by simp)
  have hgq : E P (g q.1) q.2 := h'.through q (by simp)
  have sub0 : ∀ {a b : Int}, E P a b ↔ E P (a - b) 0 := by intro a b; rw [E.zero]; rfl
  constructor
  · intro he
    by_cases hx : ∃ y ∈ Xs pts, E P x y
    · exact .inl hx
    · right
      have := hD.zeros hP (Xs pts) (by simp) hd hz x (fun y hy hxy => hx ⟨y, hy, hxy⟩) (sub0.1 he) q.1
      exact (sub0.2 this).trans hgq
  · rintro (⟨y, hy, hxy⟩ | hon)
    · obtain ⟨l, _, h2⟩ := hD
      have h3 : E P (f x - g x) (f y - g y) := (h2 x).trans ((ev_E hxy l).trans (h2 y).symm)
      exact sub0.2 (h3.trans (hz y hy))
    · refine hD.same hP (n := pts.length + 1) (g := fun _ => 0) (PolyF.zero.mono (by omega)) (q.1 :: Xs pts) (by simp) (List.pairwise_cons.2 ⟨hq, hd⟩) (fun y hy => ?_) x |> sub0.2
      rcases List.mem_cons.1 hy with rfl | hy
      · exact sub0.1 (hon.trans hgq.symm)
      · exact hz y hy
/-- the product of the differences -/
def prodS (x : Int) (l : List Int) : Int := l.foldr (fun k acc => (x - k) * acc) 1
theorem prodS_poly : ∀ l : List Int, PolyF P (l.length + 1) (fun x => prodS x l)
  | [] => PolyF.const 1
  | k :: l => (prodS_poly l).root k
theorem prodS_zero {x k : Int} : ∀ l : List Int, k ∈ l → E P x k → E P (prodS x l) 0
  | [], h, _ => by cases h
  | j :: l, h, he => by
    rcases List.mem_cons.1 h with rfl | h
    · have := (he.sub (E.refl k)).mul (E.refl (prodS x l))
      rwa [Int.sub_self, Int.zero_mul] at this
    · have := (E.refl (x - j)).mul (prodS_zero l h he)
      rwa [Int.mul_zero] at this
theorem prodS_unit (hP : Pr P) (h1 : ¬ P ∣ 1) {x : Int} : ∀ l : List Int, (∀ k ∈ l, ¬ E P x k) → ¬ P ∣ prodS x l
  | [], _, h => h1 h
  | j :: l, hk, h => by
    rcases hP _ _ h with h | h
    · exact hk j (by simp) h
    · exact prodS_unit hP h1 l (fun k hkl => hk k (by simp [hkl])) h
/-- what one point gives: its Y, times a polynomial that is 1 at its X and 0 at the others' -/
def term (iv : Int → Int) (q : Int × Int) (l : List Int) (x : Int) : Int := q.2 * prodS x l * iv (prodS q.1 l)
theorem term_poly (iv : Int → Int) (q : Int × Int) (l : List Int) : PolyF P (l.length + 1) (term iv q l) :=
  ((prodS_poly l).smul (iv (prodS q.1 l) * q.2)).of_E (fun x => E.of (by unfold term; grind))
theorem term_here (hP : Pr P) (h1 : ¬ P ∣ 1) {iv : Int → Int} (hiv : ∀ a, ¬ P ∣ a → E P (a * iv a) 1) (q : Int × Int) (l : List Int) (hk : ∀ k ∈ l, ¬ E P q.1 k) : E P (term iv q l q.1) q.2 := by
  have := (E.refl q.2).mul (hiv _ (prodS_unit hP h1 l hk))
  rw [Int.mul_one] at this
  exact (E.of (by unfold term; grind)).trans this
theorem term_there {iv : Int → Int} (q : Int × Int) (l : List Int) {x k : Int} (hk : k ∈ l) (he : E P x k) : E P (term iv q l x) 0 := by
  have := ((E.refl q.2).mul (prodS_zero l hk he)).mul (E.refl (iv (prodS q.1 l)))
  rw [Int.mul_zero, Int.zero_mul] at this
  exact this
/-- the first n of what the points give -/
def lagN (iv : Int → Int) (pts : List (Int × Int)) (x : Int) : Nat → Int
  | 0 => 0
  | n + 1 => lagN iv pts x n + term iv (pts.getD n (0, 0)) ((Xs pts).eraseIdx n) x
theorem lagN_poly (iv : Int → Int) (pts : List (Int × Int)) : ∀ n, n ≤ pts.length → PolyF P pts.length (fun x => lagN iv pts x n)
  | 0, _ => PolyF.zero.mono (Nat.zero_le _)
  | n + 1, h => by
    have h1 := lagN_poly iv pts n (by omega)
    have h2 : PolyF P pts.length (term iv (pts.getD n (0, 0)) ((Xs pts).eraseIdx n)) := (term_poly iv _ _).mono (by rw [List.length_eraseIdx_of_lt (by simp; omega)]; simp; omega)
    exact (h1.add h2).mono (by omega)
theorem lagN_through (hP : Pr P) (h1 : ¬ P ∣ 1) {iv : Int → Int} (hiv : ∀ a, ¬ P ∣ a → E P (a * iv a) 1) (pts : List (Int × Int)) (hd : Diff P (Xs pts)) (j : Nat) (hj : j < pts.length) :
    ∀ n, n ≤ pts.length → E P (lagN iv pts pts[j].1 n) (if j < n then pts[j].2 else 0)
  | 0, _ => by rw [if_neg (by omega)]; exact E.refl 0
  | n + 1, h => by
    have ih := lagN_through hP h1 hiv pts hd j hj n (by omega)
    have hne : ∀ a b, a < pts.length → b < pts.length → a ≠ b → ∀ (ha : a < (Xs pts).length) (hb : b < (Xs pts).length), ¬ E P (Xs pts)[a] (Xs pts)[b] := by
      intro a b _ _ hab ha hb
      rcases Nat.lt_or_gt_of_ne hab with h | h
      · exact List.pairwise_iff_getElem.1 hd a b ha hb h
      · exact fun he => List.pairwise_iff_getElem.1 hd b a hb ha h he.symm
    show E P (lagN iv pts pts[j].1 n + term iv (pts.getD n (0, 0)) ((Xs pts).eraseIdx n) pts[j].1) _
    have hgd : pts.getD n (0, 0) = pts[n] := by rw [List.getD_eq_getElem?_getD, List.getElem?_eq_getElem (by omega)]; rfl
    rw [hgd]
    by_cases e : j = n
    · subst e
      rw [if_neg (by omega)] at ih
      rw [if_pos (by omega)]
      have ht := term_here hP h1 hiv pts[j] ((Xs pts).eraseIdx j) (fun k hk => by
        obtain ⟨m, hm, hmj, rfl⟩ := List.mem_eraseIdx_iff_getElem.1 hk
        have := hne j m hj (by simpa using hm) (Ne.symm hmj) (by simpa using hj) hm
        simpa using this)
      have := ih.add ht
      rwa [Int.zero_add] at this
    · have hk : (Xs pts)[j]'(by simpa using hj) ∈ (Xs pts).eraseIdx n := List.mem_eraseIdx_iff_getElem.2 ⟨j, by simpa using hj, e, rfl⟩
      have ht := term_there (P := P) (iv := iv) pts[n] _ hk (x := pts[j].1) (by simpa using E.refl _)
      have := ih.add ht
      rw [Int.add_zero] at this
      by_cases hjn : j < n
      · rw [if_pos hjn] at this; rw [if_pos (by omega)]; exact this
      · rw [if_neg hjn] at this; rw [if_neg (by omega)]; exact this
theorem lag_fits (hP : Pr P) (h1 : ¬ P ∣ 1) {iv : Int → Int} (hiv : ∀ a, ¬ P ∣ a → E P (a * iv a) 1) (pts : List (Int × Int)) (hd : Diff P (Xs pts)) : Fits P pts (fun x => lagN iv pts x pts.length) :=
  ⟨lagN_poly iv pts pts.length (Nat.le_refl _), fun q hq => by
    obtain ⟨j, hj, rfl⟩ := List.getElem_of_mem hq
    have := lagN_through hP h1 hiv pts hd j hj pts.length (Nat.le_refl _)
    rwa [if_pos hj] at this⟩
-- Newton's form: divided differences
theorem PolyF.pow : ∀ m, PolyF P (m + 1) (fun x => x ^ m)
  | 0 => (PolyF.const 1).of_E (fun x => E.of (by simp))
  | m + 1 => ((PolyF.pow m).root 0).of_E (fun x => E.of (by rw [Int.pow_succ, Int.sub_zero, Int.mul_comm]))
/-- f has at most m + 1 coefficients, the last one c -/
def Lead (P : Int) (m : Nat) (c : Int) (f : Int → Int) : Prop := PolyF P m (fun x => f x - c * x ^ m)
theorem Lead.poly {m : Nat} {c : Int} {f : Int → Int} (h : Lead P m c f) : PolyF P (m + 1) f :=
  ((PolyF.add h ((PolyF.pow m).smul c)).mono (by omega)).of_E (fun x => E.of (by omega))
theorem PolyF.lead {m : Nat} {f : Int → Int} (h : PolyF P m f) : Lead P m 0 f := h.of_E (fun x => E.of (by rw [Int.zero_mul, Int.sub_zero]))
theorem Lead.none {m : Nat} {f : Int → Int} (h : Lead P m 0 f) : PolyF P m f := PolyF.of_E h (fun x => E.of (by rw [Int.zero_mul, Int.sub_zero]))
theorem Lead.add {m : Nat} {c d : Int} {f g : Int → Int} (h : Lead P m c f) (h' : Lead P m d g) : Lead P m (c + d) (fun x => f x + g x) :=
  ((PolyF.add h h').mono (by omega)).of_E (fun x => E.of (by grind))
theorem Lead.smul {m : Nat} {c : Int} {f : Int → Int} (h : Lead P m c f) (k : Int) : Lead P m (k * c) (fun x => k * f x) :=
  (PolyF.smul h k).of_E (fun x => E.of (by grind))
theorem Lead.sub {m : Nat} {c d : Int} {f g : Int → Int} (h : Lead P m c f) (h' : Lead P m d g) : Lead P m (c - d) (fun x => f x - g x) :=
  ((PolyF.sub h h').mono (by omega)).of_E (fun x => E.of (by grind))
theorem Lead.root {m : Nat} {c : Int} {f : Int → Int} (h : Lead P m c f) (r : Int) : Lead P (m + 1) c (fun x => (x - r) * f x) :=
  ((PolyF.sub (PolyF.root h r) ((PolyF.pow m).smul (r * c))).mono (by omega)).of_E (fun x => E.of (by rw [Int.pow_succ]; grind))
theorem Lead.of_E {m : Nat} {c : Int} {f g : Int → Int} (h : Lead P m c f) (he : ∀ x, E P (g x) (f x)) : Lead P m c g := PolyF.of_E h (fun x => (he x).sub (E.refl _))
section
variable (iv X Y : Nat → Int)
def prodN (i : Nat) (x : Int) : Nat → Int
  | 0 => 1
  | n + 1 => (x - X (i + n)) * prodN i x n
end
theorem prodN_lead (X : Nat → Int) (i : Nat) : ∀ n, Lead P n 1 (fun x => prodN X i x n)
  | 0 => PolyF.zero.of_E (fun x => E.of (by simp [prodN]))
  | n + 1 => (prodN_lead X i n).root (X (i + n))
theorem prodN_zero (X : Nat → Int) (i : Nat) {x : Int} : ∀ n s, s < n → E P x (X (i + s)) → E P (prodN X i x n) 0
  | n + 1, s, hs, he => by
    by_cases e : s = n
    · subst e
      have := (he.sub (E.refl (X (i + s)))).mul (E.refl (prodN X i x s))
      rwa [Int.sub_self, Int.zero_mul] at this
    · have := (E.refl (x - X (i + n))).mul (prodN_zero X i n s (by omega) he)
      rwa [Int.mul_zero] at this
/-- the divided difference of the points i to i + m -/
def dd (iv : Int → Int) (X Y : Nat → Int) : Nat → Nat → Int
  | 0, i => Y i
  | m + 1, i => (dd iv X Y m (i + 1) - dd iv X Y m i) * iv (X (i + m + 1) - X i)
/-- the polynomial through the points i to i + m, in Newton's form -/
def newt (iv : Int → Int) (X Y : Nat → Int) (i : Nat) (x : Int) : Nat → Int
  | 0 => Y i
  | m + 1 => newt iv X Y i x m + dd iv X Y (m + 1) i * prodN X i x (m + 1)
theorem newt_fits (hP : Pr P) {iv : Int → Int} (hiv : ∀ a, ¬ P ∣ a → E P (a * iv a) 1) {X Y : Nat → Int} {N : Nat} (hX : ∀ a b, a < b → b ≤ N → ¬ E P (X b) (X a)) :
    ∀ m i, i + m ≤ N → Lead P m (dd iv X Y m i) (fun x => newt iv X Y i x m) ∧ ∀ s, s ≤ m → E P (newt iv X Y i (X (i + s)) m) (Y (i + s))
  | 0, i, _ => ⟨PolyF.zero.of_E (fun x => E.of (by simp [newt, dd])), fun s hs => by
      have : s = 0 := by omega
      subst this; exact E.refl _⟩
  | m + 1, i, hN => by
    obtain ⟨lf, ef⟩ := newt_fits hP hiv hX (Y := Y) m i (by omega)
    obtain ⟨lg, eg⟩ := newt_fits hP hiv hX (Y := Y) m (i + 1) (by omega)
    obtain ⟨f, hf⟩ : ∃ f : Int → Int, f = fun x => newt iv X Y i x m := ⟨_, rfl⟩
    obtain ⟨g, hg⟩ : ∃ g : Int → Int, g = fun x => newt iv X Y (i + 1) x m := ⟨_, rfl⟩
    have ef' : ∀ s, s ≤ m → E P (f (X (i + s))) (Y (i + s)) := by rw [hf]; exact ef
    have eg' : ∀ s, s ≤ m → E P (g (X (i + 1 + s))) (Y (i + 1 + s)) := by rw [hg]; exact eg
    rw [← hf] at lf
    rw [← hg] at lg
    obtain ⟨k, hk⟩ : ∃ k, k = iv (X (i + m + 1) - X i) := ⟨_, rfl⟩
    have hk1 : E P ((X (i + m + 1) - X i) * k) 1 := by rw [hk]; exact hiv _ (hX i (i + m + 1) (by omega) (by omega))
    obtain ⟨h, hh⟩ : ∃ h : Int → Int, h = fun x => f x + (x - X i) * (k * (g x - f x)) := ⟨_, rfl⟩
    have lh : Lead P (m + 1) (dd iv X Y (m + 1) i) h := by
      have := (lf.poly.lead).add (((lg.sub lf).smul k).root (X i))
      rw [hh]
      have e : (0 : Int) + k * (dd iv X Y m (i + 1) - dd iv X Y m i) = dd iv X Y (m + 1) i := by rw [Int.zero_add, hk, Int.mul_comm]; rfl
      rwa [e] at this
    have eh : ∀ s, s ≤ m + 1 → E P (h (X (i + s))) (Y (i + s)) := by
      intro s hs
      rw [hh]
      by_cases h0 : s = 0
      · subst h0
        have := (ef' 0 (by omega)).add (E.of (P := P) (show (X (i + 0) - X i) * (k * (g (X (i + 0)) - f (X (i + 0)))) = 0 by simp))
        rwa [Int.add_zero] at this
      · obtain ⟨s', rfl⟩ : ∃ s', s = s' + 1 := ⟨s - 1, by omega⟩
        have hgs := eg' s' (by omega)
        rw [show i + 1 + s' = i + (s' + 1) by omega] at hgs
        by_cases hsm : s' = m
        · subst hsm
          have h2 := (E.refl (f (X (i + (s' + 1))))).add (hk1.mul (E.refl (g (X (i + (s' + 1))) - f (X (i + (s' + 1))))))
          refine (E.of ?_).trans (h2.trans ((E.of ?_).trans hgs))
          · show f (X (i + (s' + 1))) + (X (i + (s' + 1)) - X i) * (k * (g (X (i + (s' + 1))) - f (X (i + (s' + 1))))) = _
            rw [show i + s' + 1 = i + (s' + 1) by omega]; grind
          · omega
        · have hfs := ef' (s' + 1) (by omega)
          have h2 := hfs.add ((E.refl (X (i + (s' + 1)) - X i)).mul ((E.refl k).mul (hgs.sub hfs)))
          rwa [Int.sub_self, Int.mul_zero, Int.mul_zero, Int.add_zero] at h2
    -- Newton's next polynomial is h
    have hD : PolyF P (m + 1) (fun x => h x - newt iv X Y i x (m + 1)) := by
      have h1 := lh.sub ((lf.poly.lead).add ((prodN_lead X i (m + 1)).smul (dd iv X Y (m + 1) i)))
      rw [Int.mul_one, Int.zero_add, Int.sub_self] at h1
      exact h1.none.of_E (fun x => E.of (by rw [hf]; rfl))
    have hz : ∀ s, s ≤ m → E P (h (X (i + s)) - newt iv X Y i (X (i + s)) (m + 1)) 0 := by
      intro s hs
      have h1 := (eh s (by omega)).sub ((ef' s hs).add ((E.refl (dd iv X Y (m + 1) i)).mul (prodN_zero X i (m + 1) s (by omega) (E.refl _))))
      rw [Int.mul_zero, Int.add_zero, Int.sub_self] at h1
      refine (E.of ?_).trans h1
      rw [hf]; rfl
    have hsame : ∀ x, E P (newt iv X Y i x (m + 1)) (h x) := by
      intro x
      have hd : Diff P ((List.range (m + 1)).map fun s => X (i + s)) := by
        unfold Diff
        rw [List.pairwise_map]
        refine List.Pairwise.imp_of_mem ?_ (List.pairwise_lt_range)
        intro a b ha hb hab he
        rw [List.mem_range] at ha hb
        exact hX (i + a) (i + b) (by omega) (by omega) he.symm
      have h3 := hD.same hP (g := fun _ => 0) (PolyF.zero.mono (by omega)) ((List.range (m + 1)).map fun s => X (i + s)) (by simp) hd (fun y hy => by
        obtain ⟨s, hs, rfl⟩ := List.mem_map.1 hy
        rw [List.mem_range] at hs
        exact hz s (by omega)) x
      have := h3.add (E.refl (newt iv X Y i x (m + 1)))
      rw [Int.zero_add, show h x - newt iv X Y i x (m + 1) + newt iv X Y i x (m + 1) = h x by omega] at this
      exact this.symm
    exact ⟨lh.of_E hsame, fun s hs => (hsame _).trans (eh s hs)⟩
end Go.Proofs.YtcdnddjoonecdaaDoor.Fdp

/-
  The prime number of the field among the integers, and the inverse as a power: pure facts (layer 6).
-/
set_option maxRecDepth 100000
namespace Go.Proofs.YtcdnddjoonecdaaDoor.Fdp
theorem prI : Pr 2147483647 := fun a b h => by
  have h1 : Int.natAbs 2147483647 ∣ (a * b).natAbs := Int.natAbs_dvd_natAbs.2 h
  rw [Int.natAbs_mul] at h1
  rcases euclid h1 with h2 | h2
  · exact .inl (Int.natAbs_dvd_natAbs.1 h2)
  · exact .inr (Int.natAbs_dvd_natAbs.1 h2)
theorem one_ndvd : ¬ (2147483647 : Int) ∣ 1 := by decide
/-- a power, modulo m -/
def powM (a n m : Nat) : Nat := a ^ n % m
theorem powM_lt (a n : Nat) {m : Nat} (h : 0 < m) : powM a n m < m := Nat.mod_lt _ h
theorem powM_inv {n e m : Nat} (he : e = pr - 2) (hm : m = pr) (h0 : 0 < n) (h : n < pr) : n * powM n e m % m = 1 := by
  subst he hm; exact inv_pr h0 h
/-- the inverse, as a power -/
def ivI (a : Int) : Int := (powM (a % 2147483647).toNat 2147483645 2147483647 : Nat)
theorem ivI_range (a : Int) : 0 ≤ ivI a ∧ ivI a < 2147483647 := by
  have := powM_lt (a % 2147483647).toNat 2147483645 (show 0 < 2147483647 by decide)
  unfold ivI; omega
theorem ivI_is (a : Int) (h : ¬ (2147483647 : Int) ∣ a) : E 2147483647 (a * ivI a) 1 := by
  obtain ⟨n, hn⟩ : ∃ n : Nat, a % 2147483647 = n := ⟨(a % 2147483647).toNat, by have := Int.emod_nonneg a (show (2147483647 : Int) ≠ 0 by decide); omega⟩
  have hlt : n < pr := by have := Int.emod_lt_of_pos a (show (0 : Int) < 2147483647 by decide); show n < 2147483647; omega
  have h0 : 0 < n := by
    rcases Nat.eq_zero_or_pos n with e | e
    · subst e; exact absurd (Int.dvd_of_emod_eq_zero hn) h
    · exact e
  obtain ⟨q, hq⟩ : ∃ q, q = powM n 2147483645 2147483647 := ⟨_, rfl⟩
  have hi : n * q % 2147483647 = 1 := by rw [hq]; exact powM_inv (by decide) (by decide) h0 hlt
  have e1 : ivI a = (q : Int) := by unfold ivI; rw [hn, hq, Int.toNat_natCast]
  rw [e1]
  have h2 : E 2147483647 (((n * q : Nat) : Int)) 1 := by
    obtain ⟨X, hX⟩ : ∃ X, X = n * q := ⟨_, rfl⟩
    rw [← hX] at hi ⊢
    exact ⟨((X / 2147483647 : Nat) : Int), by omega⟩
  rw [Int.natCast_mul] at h2
  refine E.trans (E.mul ?_ (E.refl _)) h2
  exact (E.emod a).symm.trans (E.of hn)
/-- the inverse is the only one -/
theorem inv_unique {P : Int} (hP : Pr P) {a x y : Int} (ha : ¬ P ∣ a) (hx : E P (a * x) 1) (hy : E P (a * y) 1) : E P x y := by
  have h := hx.trans hy.symm
  unfold E at h
  rw [← Int.mul_sub] at h
  exact (hP _ _ h).resolve_left ha
end Go.Proofs.YtcdnddjoonecdaaDoor.Fdp
