/-
  Plain mathematics of the long division limb by limb.
-/
import Derived.Test.YtbcoblpnihdhgaaDoorLmBack
import Derived.Test.YtbcoblpnihdhgaaDoorLmByLimb
set_option linter.unusedVariables false
set_option maxRecDepth 100000
namespace Go.Proofs.YtbcoblpnihdhgaaDoor
open Go.RowKit
theorem Lim.lt_of_zero {S : List Nat} {p : Nat} (h : Lim.Lo S) (hz : ∀ y, p ≤ y → S.getD y 0 = 0) : Lim.lv S < Lim.B ^ p := by
  rcases Nat.lt_or_ge (Lim.lv S) (Lim.B ^ p) with q | q
  · exact q
  · exfalso
    have h0 : Lim.lv S ≠ 0 := by have := Lim.B_pow p; omega
    have h1 := Lim.nl_ge h0
    have h2 : p < Lim.nl (Lim.lv S) := by
      rcases Nat.lt_or_ge p (Lim.nl (Lim.lv S)) with c | c
      · exact c
      · have := Lim.nl_le.1 c; omega
    obtain ⟨y, hy⟩ : ∃ y, Lim.nl (Lim.lv S) = y + 1 := ⟨Lim.nl (Lim.lv S) - 1, by omega⟩
    have h3 := hz y (by omega)
    rw [Lim.getD_pl _ _ h, Lim.pl_top (by rw [← hy]; exact Lim.nl_lt _)] at h3
    rw [hy, Nat.add_sub_cancel] at h1
    have := (Nat.le_div_iff_mul_le (Lim.B_pow y)).2 (by rw [Nat.one_mul]; exact h1.2)
    omega
theorem Lim.zero_of_lt {S : List Nat} {p : Nat} (h : Lim.Lo S) (hz : Lim.lv S < Lim.B ^ p) : ∀ y, p ≤ y → S.getD y 0 = 0 := fun y hy => by
  rw [Lim.getD_pl _ _ h, Lim.pl, Nat.div_eq_of_lt (Nat.lt_of_lt_of_le hz (Nat.pow_le_pow_right Lim.B_pos hy)), Nat.zero_mod]
/-- what is left of the dividend, and the quotient, from a place on -/
structure DivSt (M d i : Nat) (S Q : List Nat) : Prop where
  slo : Lim.Lo S
  qlo : Lim.Lo Q
  ssum : Lim.lv S = M / Lim.B ^ i % d * Lim.B ^ i + M % Lim.B ^ i
  qsum : Lim.lv Q = M / Lim.B ^ i / d * Lim.B ^ i
/-- the part at a place -/
structure Part (M d i : Nat) (S : List Nat) (u : Nat) : Prop where
  sum : Lim.lv S = u * Lim.B ^ i + M % Lim.B ^ i
  rest : u % d = M / Lim.B ^ i % d
  quo : M / Lim.B ^ (i + 1) / d * Lim.B + u / d = M / Lim.B ^ i / d
  lt : u < d * Lim.B
  is : u = Lim.lv S / Lim.B ^ i
theorem DivSt.part {M d i : Nat} {S Q : List Nat} (h : DivSt M d (i + 1) S Q) (hd : 0 < d) : ∃ u, Part M d i S u := by
  have hr := Lim.div_round (M := M) (d := d) (i := i) hd rfl rfl
  have h1 : Lim.lv S = (M / Lim.B ^ (i + 1) % d * Lim.B + Lim.pl M i) * Lim.B ^ i + M % Lim.B ^ i := by
    have e : M / Lim.B ^ (i + 1) % d * Lim.B * Lim.B ^ i = M / Lim.B ^ (i + 1) % d * Lim.B ^ (i + 1) := by rw [Nat.mul_assoc, Nat.mul_comm Lim.B, ← Nat.pow_succ]
    rw [h.ssum, Lim.mod_next, Nat.add_mul, e]
    omega
  refine ⟨M / Lim.B ^ (i + 1) % d * Lim.B + Lim.pl M i, h1, hr.1, hr.2.1, hr.2.2, ?_⟩
  have e2 : ∀ x, (x * Lim.B ^ i + M % Lim.B ^ i) / Lim.B ^ i = x := fun x => by rw [Nat.add_comm, Nat.add_mul_div_right _ _ (Lim.B_pow i), Nat.div_eq_of_lt (Nat.mod_lt _ (Lim.B_pow i)), Nat.zero_add]
  rw [h1, e2]
theorem Part.bound {M d i k u : Nat} {S : List Nat} (h : Part M d i S u) (hk : d < Lim.B ^ k) : Lim.lv S < Lim.B ^ (i + k + 1) := by
  have h1 := h.sum
  have h2 := h.lt
  have h3 := Nat.mod_lt M (Lim.B_pow i)
  have h4 : (u + 1) * Lim.B ^ i ≤ d * Lim.B * Lim.B ^ i := Nat.mul_le_mul_right _ h2
  have h5 : d * Lim.B * Lim.B ^ i ≤ Lim.B ^ k * Lim.B * Lim.B ^ i := Nat.mul_le_mul_right _ (Nat.mul_le_mul_right _ (Nat.le_of_lt hk))
  have h6 : Lim.B ^ k * Lim.B * Lim.B ^ i = Lim.B ^ (i + k + 1) := by rw [← Nat.pow_succ, ← Nat.pow_add]; congr 1; omega
  rw [Nat.add_mul, Nat.one_mul] at h4
  omega
theorem DivSt.put {M d i q : Nat} {S Q S' : List Nat} {u : Nat} (h : DivSt M d (i + 1) S Q) (hd : 0 < d) (hu : Part M d i S u) (hi : i < Q.length) (hlo : Lim.Lo S') (hs : Lim.lv S' = u % d * Lim.B ^ i + M % Lim.B ^ i) (hq : q = u / d) : DivSt M d i S' (Q.set i q) := by
  have hqB : q < Lim.B := by rw [hq]; exact (Nat.div_lt_iff_lt_mul hd).2 (by rw [Nat.mul_comm]; exact hu.lt)
  refine ⟨hlo, h.qlo.set _ _ hqB, by rw [hs, hu.rest], ?_⟩
  have h4 := Lim.lv_set Q i q hi
  have hz : Q.getD i 0 = 0 := by
    rw [Lim.getD_pl _ _ h.qlo, h.qsum, Lim.pl, Nat.pow_succ, Nat.mul_comm (Lim.B ^ i), ← Nat.mul_assoc, Nat.mul_div_cancel _ (Lim.B_pow i), Nat.mul_mod_left]
  rw [hz, h.qsum] at h4
  rw [← hu.quo, ← hq, Nat.add_mul, Nat.mul_assoc _ Lim.B, Nat.mul_comm Lim.B, ← Nat.pow_succ]
  show _ = _ * Lim.B ^ (i + 1) + _
  omega
theorem DivSt.exact {M d i k q : Nat} {S Q S' : List Nat} {u : Nat} (h : DivSt M d (i + 1) S Q) (hd : 0 < d) (hk : d < Lim.B ^ k) (hu : Part M d i S u) (hi : i < Q.length) (hlo : Lim.Lo S') (h1 : u / d ≤ q) (hs : Lim.lv S' + q * d * Lim.B ^ i = Lim.lv S + 0 * Lim.B ^ (i + k + 1)) : DivSt M d i S' (Q.set i q) := by
  have hs1 := hu.sum
  have hm := Nat.mod_lt M (Lim.B_pow i)
  have hq : q = u / d := by
    have h2 : q * d * Lim.B ^ i < (u + 1) * Lim.B ^ i := by rw [Nat.add_mul]; omega
    have h3 := Nat.lt_of_mul_lt_mul_right h2
    have : q ≤ u / d := (Nat.le_div_iff_mul_le hd).2 (by omega)
    omega
  refine h.put hd hu hi hlo ?_ hq
  have h5 := Nat.div_add_mod u d
  rw [← hq] at h5
  have h6 : u * Lim.B ^ i = q * d * Lim.B ^ i + u % d * Lim.B ^ i := by rw [← Nat.add_mul, Nat.mul_comm q d, h5]
  omega
theorem DivSt.back {M d i k q b2 : Nat} {S Q S' S2 : List Nat} {u : Nat} (h : DivSt M d (i + 1) S Q) (hd : 0 < d) (hk : d < Lim.B ^ k) (hu : Part M d i S u) (hi : i < Q.length) (hlo : Lim.Lo S') (hsame : ∀ y, i + k + 1 ≤ y → S'.getD y 0 = S.getD y 0) (h1 : u / d ≤ q) (h2 : q ≤ u / d + 1) (hs : Lim.lv S' + q * d * Lim.B ^ i = Lim.lv S + 1 * Lim.B ^ (i + k + 1))
    (hlo2 : Lim.Lo S2) (hsame2 : ∀ y, i + k + 1 ≤ y → S2.getD y 0 = S'.getD y 0) (hs2 : Lim.lv S2 + b2 * Lim.B ^ (i + k + 1) = Lim.lv S' + d * Lim.B ^ i) : 1 ≤ q ∧ DivSt M d i S2 (Q.set i (q - 1)) := by
  have hs1 := hu.sum
  have hm := Nat.mod_lt M (Lim.B_pow i)
  obtain ⟨mm, hmm⟩ : ∃ mm, M % Lim.B ^ i = mm := ⟨_, rfl⟩
  rw [hmm] at hs1 hm
  have hb := hu.bound hk
  have hz := Lim.zero_of_lt h.slo hb
  have hb' := Lim.lt_of_zero hlo (fun y hy => by rw [hsame y hy]; exact hz y hy)
  have hb2 := Lim.lt_of_zero hlo2 (fun y hy => by rw [hsame2 y hy, hsame y hy]; exact hz y hy)
  have hq : q = u / d + 1 := by
    have h3 : u / d * d * Lim.B ^ i ≤ u * Lim.B ^ i := Nat.mul_le_mul_right _ (Nat.div_mul_le_self u d)
    rcases (by omega : q = u / d ∨ q = u / d + 1) with c | c
    · rw [c] at hs; omega
    · exact c
  subst hq
  refine ⟨Nat.le_add_left 1 _, ?_⟩
  rw [Nat.add_sub_cancel]
  refine h.put hd hu hi hlo2 ?_ rfl
  rw [hmm]
  have h5 := Nat.div_add_mod u d
  have h6 : u * Lim.B ^ i = u / d * d * Lim.B ^ i + u % d * Lim.B ^ i := by rw [← Nat.add_mul, Nat.mul_comm (u / d) d, h5]
  have h7 : (u / d + 1) * d * Lim.B ^ i = u / d * d * Lim.B ^ i + d * Lim.B ^ i := by rw [Nat.add_mul, Nat.add_mul, Nat.one_mul]
  have h8 : (u % d + 1) * Lim.B ^ i ≤ d * Lim.B ^ i := Nat.mul_le_mul_right _ (Nat.mod_lt _ hd)
  rw [Nat.add_mul, Nat.one_mul] at h8
  have h9 : d * Lim.B ^ i < Lim.B ^ (i + k + 1) := by
    refine Nat.lt_of_lt_of_le (Nat.mul_lt_mul_of_pos_right hk (Lim.B_pow i)) ?_
    rw [← Nat.pow_add]
    exact Nat.pow_le_pow_right Lim.B_pos (by omega)
  generalize Lim.B ^ (i + k + 1) = P at *
  generalize u / d * d * Lim.B ^ i = x1 at *
  generalize u % d * Lim.B ^ i = x2 at *
  have hb1 : b2 = 1 := by
    rcases (by omega : b2 = 0 ∨ b2 = 1 ∨ 2 ≤ b2) with c | c | c
    · subst c; omega
    · exact c
    · have := Nat.mul_le_mul_right P c
      omega
  subst hb1
  omega
theorem DivSt.pos {M d i k q : Nat} {S Q S' : List Nat} {u : Nat} (h : DivSt M d (i + 1) S Q) (hk : d < Lim.B ^ k) (hu : Part M d i S u) (hlo : Lim.Lo S') (hsame : ∀ y, i + k + 1 ≤ y → S'.getD y 0 = S.getD y 0) (hs : Lim.lv S' + q * d * Lim.B ^ i = Lim.lv S + 1 * Lim.B ^ (i + k + 1)) : 1 ≤ q := by
  have hb := hu.bound hk
  have hz := Lim.zero_of_lt h.slo hb
  have hb' := Lim.lt_of_zero hlo (fun y hy => by rw [hsame y hy]; exact hz y hy)
  rcases Nat.eq_zero_or_pos q with c | c
  · subst c; rw [Nat.zero_mul, Nat.zero_mul] at hs; omega
  · exact c
theorem DivSt.start {m n s : Nat} {S : List Nat} {na k LQ : Nat} (hlo : Lim.Lo S) (hs : Lim.lv S = m * s) (hna : Lim.nl m = na) (hk : Lim.nl n = k) (hk1 : 1 ≤ k) (hle : k ≤ na) (hs1 : 1 ≤ s) (hLQ : LQ = na - k + 1) : DivSt (m * s) (n * s) LQ S (List.replicate LQ 0) := by
  have h1 : m * s / Lim.B ^ LQ < n * s := by
    rw [Nat.div_lt_iff_lt_mul (Lim.B_pow LQ)]
    have h2 : m < Lim.B ^ na := Lim.nl_le.1 (by omega)
    have h3 : n ≠ 0 := fun e => by rw [e, Lim.nl_zero] at hk; omega
    have h4 := (Lim.nl_ge h3).2
    rw [hk] at h4
    have h5 : Lim.B ^ na = Lim.B ^ (k - 1) * Lim.B ^ LQ := by rw [← Nat.pow_add]; congr 1; omega
    have h6 : m < n * Lim.B ^ LQ := Nat.lt_of_lt_of_le (h5 ▸ h2) (Nat.mul_le_mul_right _ h4)
    rw [Nat.mul_right_comm]
    exact Nat.mul_lt_mul_of_pos_right h6 (by omega)
  refine ⟨hlo, Lim.Lo.zeros LQ, ?_, by rw [Lim.lv_zeros, Nat.div_eq_of_lt h1, Nat.zero_mul]⟩
  rw [hs, Nat.mod_eq_of_lt h1, Nat.mul_comm _ (Lim.B ^ LQ), Nat.div_add_mod]
theorem DivSt.done {m n s : Nat} {S Q : List Nat} (h : DivSt (m * s) (n * s) 0 S Q) (hs : 1 ≤ s) : Lim.lv Q = m / n ∧ Lim.lv S = (m % n) * s ∧ Lim.lv S / s = m % n := by
  have h1 := h.ssum
  have h2 := h.qsum
  simp only [Nat.pow_zero, Nat.div_one, Nat.mul_one, Nat.mod_one, Nat.add_zero] at h1 h2
  rw [Nat.mul_mod_mul_right] at h1
  rw [Nat.mul_div_mul_right _ _ (by omega)] at h2
  exact ⟨h2, h1, by rw [h1, Nat.mul_div_cancel _ (by omega)]⟩
/-- the scaled divisor -/
theorem scaled_top {n t s : Nat} (hk : Lim.nl n = t + 1) (hs : s = Lim.B / (Lim.pl n t + 1)) : Lim.nl (n * s) = t + 1 ∧ 500000000 ≤ Lim.pl (n * s) t ∧ 1 ≤ s ∧ s < Lim.B ∧ n * s < Lim.B ^ (t + 1) ∧ 0 < n * s := by
  have hn0 : n ≠ 0 := fun e => by rw [e, Lim.nl_zero] at hk; omega
  have h1 : n < Lim.B ^ (t + 1) := Lim.nl_le.1 (by omega)
  have h2 := (Lim.nl_ge hn0).2
  rw [hk, Nat.add_sub_cancel] at h2
  have hv : Lim.pl n t = n / Lim.B ^ t := Lim.pl_top h1
  have hv1 : 1 ≤ Lim.pl n t := by rw [hv]; exact (Nat.le_div_iff_mul_le (Lim.B_pow t)).2 (by omega)
  have hh := Lim.scale_half hv1 (Lim.pl_lt n t)
  rw [← hs] at hh
  have h3 : n < (Lim.pl n t + 1) * Lim.B ^ t := by rw [hv, Nat.mul_comm]; exact Nat.lt_mul_div_succ _ (Lim.B_pow t)
  have h4 : n * s < Lim.B ^ (t + 1) := by
    have h5 : n * s < (Lim.pl n t + 1) * Lim.B ^ t * s := Nat.mul_lt_mul_of_pos_right h3 (by omega)
    have h6 : (Lim.pl n t + 1) * s ≤ Lim.B := by rw [hs]; exact Nat.mul_div_le _ _
    have h7 : (Lim.pl n t + 1) * Lim.B ^ t * s ≤ Lim.B ^ (t + 1) := by
      rw [Nat.mul_right_comm, Nat.pow_succ, Nat.mul_comm (Lim.B ^ t)]
      exact Nat.mul_le_mul_right _ h6
    omega
  have h8 : Lim.pl n t * s * Lim.B ^ t ≤ n * s := by
    rw [Nat.mul_right_comm]
    exact Nat.mul_le_mul_right _ (by rw [hv]; exact Nat.div_mul_le_self _ _)
  have h9 : 500000000 ≤ Lim.pl (n * s) t := by
    rw [Lim.pl_top h4]
    exact Nat.le_trans hh.1 ((Nat.le_div_iff_mul_le (Lim.B_pow t)).2 h8)
  have hpos : 0 < n * s := Nat.mul_pos (by omega) (by omega)
  refine ⟨Lim.nl_eq h4 ?_, h9, hh.2.1, by rw [Lim.B_eq]; omega, h4, hpos⟩
  refine Nat.le_trans h2 (Nat.le_mul_of_pos_right _ (by omega))
end Go.Proofs.YtbcoblpnihdhgaaDoor
