/-
  Plain mathematics of the steps of Euclid's algorithm that the highest limbs alone decide.
-/
import Derived.Test.YtbcoblpnihdhgaaDoorLmA
set_option linter.unusedVariables false
set_option maxRecDepth 100000
namespace Go.Proofs.YtbcoblpnihdhgaaDoor.Lim
/-- what steps have made of two numbers: p, q, r, s are the sizes of the coefficients, whose signs alternate; plus says which -/
structure Leh (X Y x y p q r s : Nat) (plus : Bool) : Prop where
  ex : X = s * x + q * y
  ey : Y = r * x + p * y
  det : if plus then p * s = q * r + 1 else q * r = p * s + 1
  lo : if plus then q ≤ x ∧ r ≤ y else p ≤ x ∧ s ≤ y
/-- after at least one step -/
structure Leh1 (x y p q r s : Nat) (plus : Bool) : Prop where
  ne : 1 ≤ r
  lt : if plus then y + s + q < x else y + r + p < x
theorem Leh.start (X Y : Nat) : Leh X Y X Y 1 0 0 1 true := ⟨by simp, by simp, by simp, by simp⟩
theorem div_facts {n d k : Nat} (hd : 0 < d) (h : n / d = k) : k * d ≤ n ∧ n < k * d + d := by
  subst h
  have h1 := Nat.div_add_mod n d
  have h2 := Nat.mod_lt n hd
  rw [Nat.mul_comm] at h1
  omega
/-- one step from a state of the one kind -/
theorem Leh.step_plus {X Y x y p q r s k : Nat} (h : Leh X Y x y p q r s true) (h1 : 0 < y - r) (hk1 : (x + p) / (y - r) = k) (hk2 : (x - q) / (y + s) = k) (hs : p = 1 ∧ r = 0 ∨ Leh1 x y p q r s true) (hys : 0 < y + s) :
    k * y ≤ x ∧ Leh X Y y (x - k * y) r s (p + k * r) (q + k * s) false ∧ Leh1 y (x - k * y) r s (p + k * r) (q + k * s) false := by
  have hlo := h.lo
  have hdet := h.det
  simp only [if_true] at hlo hdet
  have f1 := div_facts h1 hk1
  have f2 := div_facts hys hk2
  have e1 : k * (y - r) + k * r = k * y := by rw [← Nat.mul_add]; congr 1; omega
  have e2 : k * (y + s) = k * y + k * s := Nat.mul_add _ _ _
  have hky : k * y ≤ x := by omega
  refine ⟨hky, ⟨?_, ?_, ?_, ?_⟩, ?_, ?_⟩
  · rw [h.ex, Nat.add_mul, Nat.mul_sub]
    have e3 : k * s * y = s * (k * y) := by rw [Nat.mul_comm k s, Nat.mul_assoc]
    have e4 : s * (k * y) ≤ s * x := Nat.mul_le_mul_left _ hky
    omega
  · rw [h.ey, Nat.add_mul, Nat.mul_sub]
    have e3 : k * r * y = r * (k * y) := by rw [Nat.mul_comm k r, Nat.mul_assoc]
    have e4 : r * (k * y) ≤ r * x := Nat.mul_le_mul_left _ hky
    omega
  · simp only [Bool.false_eq_true, if_false]
    rw [Nat.mul_add, Nat.mul_add]
    have e3 : s * (k * r) = r * (k * s) := by rw [← Nat.mul_assoc, ← Nat.mul_assoc, Nat.mul_comm s k, Nat.mul_comm r k, Nat.mul_right_comm]
    have e4 : s * p = p * s := Nat.mul_comm _ _
    have e5 : r * q = q * r := Nat.mul_comm _ _
    omega
  · simp only [Bool.false_eq_true, if_false]
    omega
  · rcases hs with ⟨hp, hr⟩ | hs
    · omega
    · have hn := hs.ne
      have hl := hs.lt
      simp only [if_true] at hl
      have hk0 : 1 ≤ k := by
        rcases Nat.eq_zero_or_pos k with c | c
        · subst c; omega
        · exact c
      have := Nat.mul_le_mul hk0 hn
      omega
  · simp only [Bool.false_eq_true, if_false]
    omega
theorem Leh.step_minus {X Y x y p q r s k : Nat} (h : Leh X Y x y p q r s false) (h1 : 0 < y - s) (hk1 : (x - p) / (y + r) = k) (hk2 : (x + q) / (y - s) = k) (hs : Leh1 x y p q r s false) :
    k * y ≤ x ∧ Leh X Y y (x - k * y) r s (p + k * r) (q + k * s) true ∧ Leh1 y (x - k * y) r s (p + k * r) (q + k * s) true := by
  have hlo := h.lo
  have hdet := h.det
  have hn := hs.ne
  have hl := hs.lt
  simp only [Bool.false_eq_true, if_false] at hlo hdet hl
  have f1 := div_facts (by omega : 0 < y + r) hk1
  have f2 := div_facts h1 hk2
  have e1 : k * (y - s) + k * s = k * y := by rw [← Nat.mul_add]; congr 1; omega
  have e2 : k * (y + r) = k * y + k * r := Nat.mul_add _ _ _
  have hky : k * y ≤ x := by omega
  refine ⟨hky, ⟨?_, ?_, ?_, ?_⟩, ?_, ?_⟩
  · rw [h.ex, Nat.add_mul, Nat.mul_sub]
    have e3 : k * s * y = s * (k * y) := by rw [Nat.mul_comm k s, Nat.mul_assoc]
    have e4 : s * (k * y) ≤ s * x := Nat.mul_le_mul_left _ hky
    omega
  · rw [h.ey, Nat.add_mul, Nat.mul_sub]
    have e3 : k * r * y = r * (k * y) := by rw [Nat.mul_comm k r, Nat.mul_assoc]
    have e4 : r * (k * y) ≤ r * x := Nat.mul_le_mul_left _ hky
    omega
  · simp only [if_true]
    rw [Nat.mul_add, Nat.mul_add]
    have e3 : s * (k * r) = r * (k * s) := by rw [← Nat.mul_assoc, ← Nat.mul_assoc, Nat.mul_comm s k, Nat.mul_comm r k, Nat.mul_right_comm]
    have e4 : s * p = p * s := Nat.mul_comm _ _
    have e5 : r * q = q * r := Nat.mul_comm _ _
    omega
  · simp only [if_true]
    omega
  · have hk0 : 1 ≤ k := by
      rcases Nat.eq_zero_or_pos k with c | c
      · subst c; omega
      · exact c
    have := Nat.mul_le_mul hk0 hn
    omega
  · simp only [if_true]
    omega
/-- coefficients stay small -/
theorem small_sq {r x Y : Nat} (h1 : r < x) (h2 : r * x ≤ Y) (hY : Y < 1000000000000000000) : r < 1000000000 := by
  rcases Nat.lt_or_ge r 1000000000 with c | c
  · exact c
  · have : 1000000000 * 1000000001 ≤ r * x := Nat.mul_le_mul c (by omega)
    omega
theorem Leh.bound {X Y x y p q r s : Nat} {plus : Bool} (h : Leh X Y x y p q r s plus) (h1 : Leh1 x y p q r s plus) (hX : X < 1000000000000000000) (hY : Y < 1000000000000000000) : r < 1000000000 ∧ s < 1000000000 := by
  have hlo := h.lo
  have hl := h1.lt
  have ex := h.ex
  have ey := h.ey
  cases plus with
  | true =>
    simp only [if_true] at hlo hl
    exact ⟨small_sq (x := x) (by omega) (by omega) hY, small_sq (x := x) (by omega) (by omega) hX⟩
  | false =>
    simp only [Bool.false_eq_true, if_false] at hlo hl
    exact ⟨small_sq (x := x) (by omega) (by omega) hY, small_sq (x := x) (by omega) (by omega) hX⟩
/-- what the steps make of the whole numbers -/
structure Stepped (A C A' C' p q r s : Nat) (plus : Bool) : Prop where
  ea : if plus then A' + q * C = p * A else A' + p * A = q * C
  ec : if plus then C' + r * A = s * C else C' + s * C = r * A
  ia : A = s * A' + q * C'
  ic : C = r * A' + p * C'
  lt : C' < A'
  le : A' ≤ C
theorem Leh.whole {X Y x y p q r s P A C A0 C0 : Nat} {plus : Bool} (h : Leh X Y x y p q r s plus) (h1 : Leh1 x y p q r s plus) (hP : 0 < P) (hA : A = X * P + A0) (hC : C = Y * P + C0) (hA0 : A0 < P) (hC0 : C0 < P) : ∃ A' C', Stepped A C A' C' p q r s plus := by
  have hlo := h.lo
  have hdet := h.det
  have hl := h1.lt
  have hr := h1.ne
  have key : ∀ (m n u : Nat), m ≤ n → u < P → m * u ≤ n * P := fun m n u hm hu => Nat.mul_le_mul hm (Nat.le_of_lt hu)
  cases plus with
  | true =>
    simp only [if_true] at hlo hdet hl
    have x1 : p * X = x + q * Y := by
      rw [h.ex, h.ey, Nat.mul_add, Nat.mul_add, ← Nat.mul_assoc, ← Nat.mul_assoc, ← Nat.mul_assoc, ← Nat.mul_assoc, hdet, Nat.add_mul, Nat.mul_comm p q]
      omega
    have y1 : s * Y = y + r * X := by
      rw [h.ex, h.ey, Nat.mul_add, Nat.mul_add, ← Nat.mul_assoc, ← Nat.mul_assoc, ← Nat.mul_assoc, ← Nat.mul_assoc, Nat.mul_comm s p, hdet, Nat.add_mul, Nat.mul_comm s r, Nat.mul_comm r q]
      omega
    have a1 : p * A = x * P + q * Y * P + p * A0 := by rw [hA, Nat.mul_add, ← Nat.mul_assoc, x1, Nat.add_mul]
    have a2 : q * C = q * Y * P + q * C0 := by rw [hC, Nat.mul_add, ← Nat.mul_assoc]
    have c1 : s * C = y * P + r * X * P + s * C0 := by rw [hC, Nat.mul_add, ← Nat.mul_assoc, y1, Nat.add_mul]
    have c2 : r * A = r * X * P + r * A0 := by rw [hA, Nat.mul_add, ← Nat.mul_assoc]
    have k1 := key q x C0 hlo.1 hC0
    have k2 := key r y A0 hlo.2 hA0
    have k3 := key (s + q) (s + q) C0 (Nat.le_refl _) hC0
    have k4 : (y + (s + q) + 1) * P ≤ x * P := Nat.mul_le_mul_right _ (by omega)
    simp only [Nat.add_mul, Nat.one_mul] at k3 k4
    obtain ⟨A', hA'⟩ : ∃ A', A' = p * A - q * C := ⟨_, rfl⟩
    obtain ⟨C', hC'⟩ : ∃ C', C' = s * C - r * A := ⟨_, rfl⟩
    have ea : A' + q * C = p * A := by omega
    have ec : C' + r * A = s * C := by omega
    have ia : A = s * A' + q * C' := by
      have e1 : s * A' + s * (q * C) = s * (p * A) := by rw [← Nat.mul_add, ea]
      have e2 : q * C' + q * (r * A) = q * (s * C) := by rw [← Nat.mul_add, ec]
      have e3 : s * (p * A) = q * (r * A) + A := by rw [← Nat.mul_assoc, Nat.mul_comm s p, hdet, Nat.add_mul, Nat.one_mul, Nat.mul_assoc]
      have e4 : s * (q * C) = q * (s * C) := Nat.mul_left_comm _ _ _
      omega
    have ic : C = r * A' + p * C' := by
      have e1 : r * A' + r * (q * C) = r * (p * A) := by rw [← Nat.mul_add, ea]
      have e2 : p * C' + p * (r * A) = p * (s * C) := by rw [← Nat.mul_add, ec]
      have e3 : p * (s * C) = r * (q * C) + C := by rw [← Nat.mul_assoc, hdet, Nat.add_mul, Nat.one_mul, Nat.mul_comm q r, Nat.mul_assoc]
      have e4 : r * (p * A) = p * (r * A) := Nat.mul_left_comm _ _ _
      omega
    refine ⟨A', C', by simpa using ea, by simpa using ec, ia, ic, by omega, ?_⟩
    have := Nat.mul_le_mul_right A' hr
    omega
  | false =>
    simp only [Bool.false_eq_true, if_false] at hlo hdet hl
    have x1 : q * Y = x + p * X := by
      rw [h.ex, h.ey, Nat.mul_add, Nat.mul_add, ← Nat.mul_assoc, ← Nat.mul_assoc, ← Nat.mul_assoc, ← Nat.mul_assoc, hdet, Nat.add_mul, Nat.mul_comm q p]
      omega
    have y1 : r * X = y + s * Y := by
      rw [h.ex, h.ey, Nat.mul_add, Nat.mul_add, ← Nat.mul_assoc, ← Nat.mul_assoc, ← Nat.mul_assoc, ← Nat.mul_assoc, Nat.mul_comm r q, hdet, Nat.add_mul, Nat.mul_comm r s, Nat.mul_comm s p]
      omega
    have a1 : q * C = x * P + p * X * P + q * C0 := by rw [hC, Nat.mul_add, ← Nat.mul_assoc, x1, Nat.add_mul]
    have a2 : p * A = p * X * P + p * A0 := by rw [hA, Nat.mul_add, ← Nat.mul_assoc]
    have c1 : r * A = y * P + s * Y * P + r * A0 := by rw [hA, Nat.mul_add, ← Nat.mul_assoc, y1, Nat.add_mul]
    have c2 : s * C = s * Y * P + s * C0 := by rw [hC, Nat.mul_add, ← Nat.mul_assoc]
    have k1 := key p x A0 hlo.1 hA0
    have k2 := key s y C0 hlo.2 hC0
    have k3 := key (r + p) (r + p) A0 (Nat.le_refl _) hA0
    have k4 : (y + (r + p) + 1) * P ≤ x * P := Nat.mul_le_mul_right _ (by omega)
    simp only [Nat.add_mul, Nat.one_mul] at k3 k4
    obtain ⟨A', hA'⟩ : ∃ A', A' = q * C - p * A := ⟨_, rfl⟩
    obtain ⟨C', hC'⟩ : ∃ C', C' = r * A - s * C := ⟨_, rfl⟩
    have ea : A' + p * A = q * C := by omega
    have ec : C' + s * C = r * A := by omega
    have ia : A = s * A' + q * C' := by
      have e1 : s * A' + s * (p * A) = s * (q * C) := by rw [← Nat.mul_add, ea]
      have e2 : q * C' + q * (s * C) = q * (r * A) := by rw [← Nat.mul_add, ec]
      have e3 : q * (r * A) = s * (p * A) + A := by rw [← Nat.mul_assoc, hdet, Nat.add_mul, Nat.one_mul, Nat.mul_comm p s, Nat.mul_assoc]
      have e4 : s * (q * C) = q * (s * C) := Nat.mul_left_comm _ _ _
      omega
    have ic : C = r * A' + p * C' := by
      have e1 : r * A' + r * (p * A) = r * (q * C) := by rw [← Nat.mul_add, ea]
      have e2 : p * C' + p * (s * C) = p * (r * A) := by rw [← Nat.mul_add, ec]
      have e3 : r * (q * C) = p * (s * C) + C := by rw [← Nat.mul_assoc, Nat.mul_comm r q, hdet, Nat.add_mul, Nat.one_mul, Nat.mul_assoc]
      have e4 : r * (p * A) = p * (r * A) := Nat.mul_left_comm _ _ _
      omega
    refine ⟨A', C', by simpa using ea, by simpa using ec, ia, ic, by omega, ?_⟩
    have := Nat.mul_le_mul_right A' hr
    omega
theorem Stepped.gcd {A C A' C' p q r s : Nat} {plus : Bool} (h : Stepped A C A' C' p q r s plus) : Nat.gcd A' C' = Nat.gcd A C := by
  apply Nat.dvd_antisymm
  · have d1 := Nat.gcd_dvd_left A' C'
    have d2 := Nat.gcd_dvd_right A' C'
    refine Nat.dvd_gcd ?_ ?_
    · have := Nat.dvd_add (Nat.dvd_mul_left_of_dvd d1 s) (Nat.dvd_mul_left_of_dvd d2 q)
      rwa [← h.ia] at this
    · have := Nat.dvd_add (Nat.dvd_mul_left_of_dvd d1 r) (Nat.dvd_mul_left_of_dvd d2 p)
      rwa [← h.ic] at this
  · have d1 := Nat.gcd_dvd_left A C
    have d2 := Nat.gcd_dvd_right A C
    have ea := h.ea
    have ec := h.ec
    cases plus with
    | true =>
      simp only [if_true] at ea ec
      refine Nat.dvd_gcd ?_ ?_
      · exact (Nat.dvd_add_left (Nat.dvd_mul_left_of_dvd d2 q)).1 (by rw [ea]; exact Nat.dvd_mul_left_of_dvd d1 p)
      · exact (Nat.dvd_add_left (Nat.dvd_mul_left_of_dvd d1 r)).1 (by rw [ec]; exact Nat.dvd_mul_left_of_dvd d2 s)
    | false =>
      simp only [Bool.false_eq_true, if_false] at ea ec
      refine Nat.dvd_gcd ?_ ?_
      · exact (Nat.dvd_add_left (Nat.dvd_mul_left_of_dvd d1 p)).1 (by rw [ea]; exact Nat.dvd_mul_left_of_dvd d2 q)
      · exact (Nat.dvd_add_left (Nat.dvd_mul_left_of_dvd d2 s)).1 (by rw [ec]; exact Nat.dvd_mul_left_of_dvd d1 r)
end Go.Proofs.YtbcoblpnihdhgaaDoor.Lim
