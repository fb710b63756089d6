/-
  Plain mathematics of limbs, for layer 3: the value of a list of limbs, the limbs of a value, one limb of a sum or a difference, the estimate of a quotient by the highest limbs.
-/
import Derived.Lib.ItoaNum
import Derived.Test.YtbcoblpnihdhgaaDoorNatA
import Derived.Laws.OwnMore
import Derived.OwnWalk
import Derived.Deep.RegionHeld3
import Derived.Laws.EntriesVeiled
set_option linter.unusedVariables false
set_option maxRecDepth 100000
namespace Go.Proofs.YtbcoblpnihdhgaaDoor.Lim
def B : Nat := 1000000000
theorem B_eq : B = 1000000000 := rfl
theorem B_pos : 0 < B := by rw [B_eq]; omega
theorem B_pow (i : Nat) : 0 < B ^ i := Nat.pow_pos B_pos
def lv : List Nat → Nat
  | [] => 0
  | d :: l => d + B * lv l
def Lo (l : List Nat) : Prop := ∀ d ∈ l, d < B
theorem lv_nil : lv [] = 0 := rfl
theorem Lo.nil : Lo [] := fun d h => by cases h
theorem Lo.getD {l : List Nat} (h : Lo l) (j : Nat) : l.getD j 0 < B := by
  rw [List.getD_eq_getElem?_getD]
  by_cases hj : j < l.length
  · rw [List.getElem?_eq_getElem hj]; exact h _ (List.getElem_mem hj)
  · rw [List.getElem?_eq_none (by omega)]; exact B_pos
theorem Lo.set {l : List Nat} (h : Lo l) (j x : Nat) (hx : x < B) : Lo (l.set j x) := fun d hd => by
  rcases List.mem_or_eq_of_mem_set hd with h1 | h1
  · exact h d h1
  · subst h1; exact hx
theorem Lo.zeros (n : Nat) : Lo (List.replicate n 0) := fun d hd => by
  rw [List.eq_of_mem_replicate hd]; exact B_pos
theorem lv_zeros (n : Nat) : lv (List.replicate n 0) = 0 := by
  induction n with
  | zero => rfl
  | succ n ih => rw [List.replicate_succ, lv, ih]; simp
theorem lv_append (l m : List Nat) : lv (l ++ m) = lv l + lv m * B ^ l.length := by
  induction l with
  | nil => simp [lv]
  | cons d l ih =>
    simp only [List.cons_append, lv, ih, List.length_cons, Nat.pow_succ, Nat.mul_add]
    have : B * (lv m * B ^ l.length) = lv m * (B ^ l.length * B) := by rw [Nat.mul_comm B, Nat.mul_assoc]
    omega
theorem lv_snoc (l : List Nat) (d : Nat) : lv (l ++ [d]) = lv l + d * B ^ l.length := by
  rw [lv_append]; simp [lv]
theorem Lo.append {l m : List Nat} (h : Lo l) (k : Lo m) : Lo (l ++ m) := fun d hd => (List.mem_append.1 hd).elim (h d) (k d)
theorem Lo.one {d : Nat} (h : d < B) : Lo [d] := fun x hx => by rw [List.mem_singleton] at hx; subst hx; exact h
theorem lv_lt {l : List Nat} (h : Lo l) : lv l < B ^ l.length := by
  induction l with
  | nil => simp [lv]
  | cons d l ih =>
    have h1 := h d (by simp)
    have h2 := ih (fun x hx => h x (by simp [hx]))
    simp only [lv, List.length_cons, Nat.pow_succ]
    have : B * (lv l + 1) ≤ B * B ^ l.length := Nat.mul_le_mul_left _ h2
    rw [Nat.mul_comm (B ^ l.length)]
    rw [Nat.mul_add] at this
    omega
theorem lv_set (l : List Nat) (j x : Nat) (h : j < l.length) : lv (l.set j x) + l.getD j 0 * B ^ j = lv l + x * B ^ j := by
  induction l generalizing j with
  | nil => simp at h
  | cons d l ih =>
    cases j with
    | zero => simp [lv]; omega
    | succ j =>
      simp only [List.length_cons] at h
      have := ih j (by omega)
      simp only [List.set_cons_succ, lv, List.getD_cons_succ, Nat.pow_succ]
      have e1 : l.getD j 0 * (B ^ j * B) = B * (l.getD j 0 * B ^ j) := by rw [← Nat.mul_assoc, Nat.mul_comm]
      have e2 : x * (B ^ j * B) = B * (x * B ^ j) := by rw [← Nat.mul_assoc, Nat.mul_comm]
      rw [e1, e2]
      have := congrArg (B * ·) this
      simp only [Nat.mul_add] at this
      omega
/-- the limbs of a number -/
def ls (n : Nat) : List Nat := if h : n = 0 then [] else n % B :: ls (n / B)
termination_by n
decreasing_by exact Nat.div_lt_self (Nat.pos_of_ne_zero h) (by rw [B_eq]; omega)
theorem ls_zero : ls 0 = [] := by rw [ls]; simp
theorem ls_pos {n : Nat} (h : n ≠ 0) : ls n = n % B :: ls (n / B) := by rw [ls]; simp [h]
theorem lv_ls (n : Nat) : lv (ls n) = n := by
  induction n using Nat.strongRecOn with
  | _ n ih =>
    by_cases h : n = 0
    · subst h; rw [ls_zero]; rfl
    · rw [ls_pos h, lv, ih _ (Nat.div_lt_self (Nat.pos_of_ne_zero h) (by rw [B_eq]; omega))]
      exact Nat.mod_add_div n B
theorem ls_lo (n : Nat) : Lo (ls n) := by
  induction n using Nat.strongRecOn with
  | _ n ih =>
    by_cases h : n = 0
    · subst h; rw [ls_zero]; exact Lo.nil
    · rw [ls_pos h]
      intro d hd
      rcases List.mem_cons.1 hd with rfl | hd
      · exact Nat.mod_lt _ B_pos
      · exact ih _ (Nat.div_lt_self (Nat.pos_of_ne_zero h) (by rw [B_eq]; omega)) d hd
/-- how many limbs a number has -/
def nl (n : Nat) : Nat := (ls n).length
theorem nl_zero : nl 0 = 0 := by rw [nl, ls_zero]; rfl
theorem nl_lt (n : Nat) : n < B ^ nl n := by have := lv_lt (ls_lo n); rwa [lv_ls] at this
theorem nl_ge {n : Nat} (h : n ≠ 0) : 1 ≤ nl n ∧ B ^ (nl n - 1) ≤ n := by
  induction n using Nat.strongRecOn with
  | _ n ih =>
    have e : nl n = nl (n / B) + 1 := by rw [nl, ls_pos h]; rfl
    refine ⟨by omega, ?_⟩
    rw [e, Nat.add_sub_cancel]
    by_cases h0 : n / B = 0
    · rw [h0, nl_zero]; simp; omega
    · have h1 := ih _ (Nat.div_lt_self (Nat.pos_of_ne_zero h) (by rw [B_eq]; omega)) h0
      obtain ⟨k, hk⟩ : ∃ k, nl (n / B) = k + 1 := ⟨nl (n / B) - 1, by omega⟩
      rw [hk] at h1 ⊢
      rw [Nat.add_sub_cancel] at h1
      rw [Nat.pow_succ]
      exact (Nat.le_div_iff_mul_le B_pos).1 h1.2
theorem nl_le {n k : Nat} : nl n ≤ k ↔ n < B ^ k := by
  constructor
  · intro h
    exact Nat.lt_of_lt_of_le (nl_lt n) (Nat.pow_le_pow_right B_pos h)
  · intro h
    by_cases h0 : n = 0
    · subst h0; rw [nl_zero]; omega
    · have h1 := nl_ge h0
      have h2 := Nat.lt_of_le_of_lt h1.2 h
      have h3 := (Nat.pow_lt_pow_iff_right (show 1 < B by rw [B_eq]; omega)).1 h2
      omega
theorem nl_eq {n k : Nat} (h1 : n < B ^ (k + 1)) (h2 : B ^ k ≤ n) : nl n = k + 1 := by
  have a := nl_le.2 h1
  rcases Nat.lt_or_ge k (nl n) with q | q
  · omega
  · have := nl_le.1 q; omega
theorem nl_mono {m n : Nat} (h : m ≤ n) : nl m ≤ nl n := nl_le.2 (Nat.lt_of_le_of_lt h (nl_lt n))
theorem nl_pos {n : Nat} : 0 < nl n ↔ n ≠ 0 := by
  constructor
  · intro h e; subst e; rw [nl_zero] at h; omega
  · intro h; have := (nl_ge h).1; omega
theorem lt_of_nl {m n : Nat} (h : nl m < nl n) : m < n := by
  rcases Nat.lt_or_ge m n with q | q
  · exact q
  · have := nl_mono q; omega
/-- the limb of a number at a place -/
def pl (n i : Nat) : Nat := n / B ^ i % B
theorem pl_lt (n i : Nat) : pl n i < B := Nat.mod_lt _ B_pos
theorem mod_next (n i : Nat) : n % B ^ (i + 1) = n % B ^ i + pl n i * B ^ i := by
  rw [Nat.pow_succ, Nat.mod_mul, pl, Nat.mul_comm (B ^ i)]
theorem pl_ls (n i : Nat) : (ls n).getD i 0 = pl n i := by
  induction n using Nat.strongRecOn generalizing i with
  | _ n ih =>
    by_cases h : n = 0
    · subst h; rw [ls_zero]; simp [pl]
    · rw [ls_pos h]
      cases i with
      | zero => simp [pl]
      | succ i =>
        rw [List.getD_cons_succ, ih _ (Nat.div_lt_self (Nat.pos_of_ne_zero h) (by rw [B_eq]; omega)), pl, pl, Nat.div_div_eq_div_mul, Nat.pow_succ, Nat.mul_comm B]
theorem pl_out {n i : Nat} (h : nl n ≤ i) : pl n i = 0 := by
  rw [pl, Nat.div_eq_of_lt (nl_le.1 h), Nat.zero_mod]
theorem mod_all {n i : Nat} (h : nl n ≤ i) : n % B ^ i = n := Nat.mod_eq_of_lt (nl_le.1 h)
/-- a list of limbs of which the last one is not 0 -/
theorem ls_of : ∀ (k : Nat) (l : List Nat), l.length = k → Lo l → (∀ h : l ≠ [], l.getLast h ≠ 0) → ls (lv l) = l := by
  intro k
  induction k with
  | zero => intro l hl h1 h2; rw [List.length_eq_zero_iff.1 hl, lv_nil, ls_zero]
  | succ k ih =>
    intro l hl h1 h2
    cases l with
    | nil => simp at hl
    | cons d l =>
      have hd := h1 d (by simp)
      have hl2 : Lo l := fun x hx => h1 x (by simp [hx])
      simp only [List.length_cons] at hl
      have hne : lv (d :: l) ≠ 0 := by
        by_cases e : l = []
        · subst e
          have := h2 (by simp)
          simp at this
          simp [lv]; omega
        · have h3 := ih l (by omega) hl2 (fun h => by have := h2 (by simp); rwa [List.getLast_cons h] at this)
          intro e0
          have : lv l = 0 := by
            simp only [lv] at e0
            rcases Nat.eq_zero_or_pos (lv l) with q | q
            · exact q
            · have := Nat.mul_le_mul_left B q
              have := B_pos
              omega
          rw [this, ls_zero] at h3
          exact e h3.symm
      rw [ls_pos hne]
      have e1 : lv (d :: l) % B = d := by simp only [lv]; rw [Nat.add_mul_mod_self_left, Nat.mod_eq_of_lt hd]
      have e2 : lv (d :: l) / B = lv l := by
        simp only [lv]; rw [Nat.add_mul_div_left _ _ B_pos, Nat.div_eq_of_lt hd, Nat.zero_add]
      rw [e1, e2]
      by_cases e : l = []
      · subst e; rw [lv_nil, ls_zero]
      · rw [ih l (by omega) hl2 (fun h => by have := h2 (by simp); rwa [List.getLast_cons h] at this)]
/-- what trimmed leaves -/
theorem trim_done {l : List Nat} {n : Nat} (hl : Lo l) (hn : n ≤ l.length) (hv : lv (l.take n) = lv l) (h : 0 < n → l.getD (n - 1) 0 ≠ 0) : l.take n = ls (lv l) := by
  have h1 : (l.take n).length = n := by rw [List.length_take]; omega
  rw [← hv, ls_of n (l.take n) h1 (fun d hd => hl d (List.mem_of_mem_take hd)) (fun hne => ?_)]
  have h0 : 0 < n := by
    rcases Nat.eq_zero_or_pos n with q | q
    · subst q; simp at hne
    · exact q
  rw [List.getLast_eq_getElem]
  have := h h0
  rw [List.getD_eq_getElem?_getD, List.getElem?_eq_getElem (by omega)] at this
  simp only [Option.getD_some] at this
  simpa [h1] using this
theorem trim_step {l : List Nat} {n : Nat} (hn : n + 1 ≤ l.length) (hv : lv (l.take (n + 1)) = lv l) (h : l.getD n 0 = 0) : lv (l.take n) = lv l := by
  rw [← hv, List.take_succ_eq_append_getElem (by omega), lv_snoc]
  rw [List.getD_eq_getElem?_getD, List.getElem?_eq_getElem (by omega)] at h
  simp only [Option.getD_some] at h
  rw [h]; simp
/-- one limb of a sum into a row -/
theorem put_step {S : List Nat} {k x c y : Nat} (hk : k < S.length) (hx : S.getD k 0 = x) :
    lv (S.set k ((x + y + c) % B)) + (x + y + c) / B * B ^ (k + 1) = lv S + c * B ^ k + y * B ^ k := by
  have h1 := lv_set S k ((x + y + c) % B) hk
  rw [hx] at h1
  have h2 : (x + y + c) / B * B ^ (k + 1) = B * ((x + y + c) / B) * B ^ k := by
    rw [Nat.pow_succ, Nat.mul_comm (B ^ k), ← Nat.mul_assoc, Nat.mul_comm B]
  have h3 : ((x + y + c) % B + B * ((x + y + c) / B)) * B ^ k = (x + y + c) * B ^ k := by rw [Nat.mod_add_div]
  rw [Nat.add_mul] at h3
  rw [Nat.add_mul, Nat.add_mul] at h3
  omega
/-- one limb of a difference into a row: what is borrowed is 1 less the quotient -/
theorem take_step {S : List Nat} {k x a b w : Nat} (hk : k < S.length) (hx : S.getD k 0 = x) (ha : a < B) (hb : b < B) (hw : w ≤ 1) :
    lv (S.set k ((B + a - b - w) % B)) + x * B ^ k + b * B ^ k + w * B ^ k = lv S + a * B ^ k + (1 - (B + a - b - w) / B) * B ^ (k + 1) ∧ 1 - (B + a - b - w) / B ≤ 1 := by
  have h1 := lv_set S k ((B + a - b - w) % B) hk
  rw [hx] at h1
  refine ⟨?_, Nat.sub_le _ _⟩
  have e : (B + a - b - w) % B + b + w = a + (1 - (B + a - b - w) / B) * B := by
    rcases Nat.lt_or_ge (B + a - b - w) B with q | q
    · rw [Nat.mod_eq_of_lt q, Nat.div_eq_of_lt q]; omega
    · have : (B + a - b - w) / B = 1 := by
        apply Nat.div_eq_of_lt_le <;> omega
      have h2 := Nat.mod_add_div (B + a - b - w) B
      rw [this] at h2 ⊢
      omega
  have e2 := congrArg (· * B ^ k) e
  simp only [Nat.add_mul] at e2
  have e3 : (1 - (B + a - b - w) / B) * B * B ^ k = (1 - (B + a - b - w) / B) * B ^ (k + 1) := by
    rw [Nat.mul_assoc, Nat.pow_succ, Nat.mul_comm B]
  rw [e3] at e2
  omega
/-- a scaled highest limb is at least half the base -/
theorem scale_half {v : Nat} (h1 : 1 ≤ v) (h2 : v < B) : 500000000 ≤ v * (B / (v + 1)) ∧ 1 ≤ B / (v + 1) ∧ B / (v + 1) ≤ 500000000 := by
  have hs1 : 1 ≤ B / (v + 1) := Nat.div_pos (by omega) (by omega)
  have hs2 : B / (v + 1) ≤ 500000000 := by
    have : B / (v + 1) ≤ B / 2 := Nat.div_le_div_left (by omega) (by omega)
    rw [B_eq] at this ⊢; omega
  refine ⟨?_, hs1, hs2⟩
  rw [B_eq] at *
  obtain ⟨s, hs⟩ : ∃ s, s = 1000000000 / (v + 1) := ⟨_, rfl⟩
  rw [← hs] at hs1 ⊢
  have e := Nat.div_add_mod 1000000000 (v + 1)
  rw [← hs] at e
  have e2 := Nat.mod_lt 1000000000 (show 0 < v + 1 by omega)
  rcases Nat.lt_or_ge v 500000000 with q | q
  · obtain ⟨u, rfl⟩ : ∃ u, v = u + 1 := ⟨v - 1, by omega⟩
    obtain ⟨r, hr⟩ : ∃ r, 1000000000 % (u + 1 + 1) = r := ⟨_, rfl⟩
    rw [hr] at e e2
    -- (u+2) * s + r = B, r ≤ u+1
    have e3 : (u + 1 + 1) * s = (u + 1) * s + s := by rw [Nat.add_mul (u + 1) 1, Nat.one_mul]
    -- 2 (u+1) s (u+2) ≥ (B - 1) (u + 2)
    rcases Nat.lt_or_ge ((u + 1) * s) 500000000 with c | c
    · exfalso
      -- (u+1)*s ≤ 499999999, s ≥ B - r - 499999999 ≥ B - (u+1) - 499999999
      have h3 : 500000001 - (u + 1) ≤ s := by omega
      have h4 : (u + 1) * (500000001 - (u + 1)) ≤ (u + 1) * s := Nat.mul_le_mul_left _ h3
      obtain ⟨t, ht⟩ : ∃ t, 500000001 - (u + 1) = t + 1 := ⟨500000001 - (u + 1) - 1, by omega⟩
      rw [ht] at h4
      have h5 : (u + 1) * (t + 1) = u * t + u + t + 1 := by rw [Nat.add_mul, Nat.mul_add]; omega
      omega
    · exact c
  · have : v * 1 ≤ v * s := Nat.mul_le_mul_left _ hs1
    omega
/-- the estimate of a quotient by the highest limbs -/
theorem estimate_ok {u d k v1 v2 H u2 : Nat} (hk : 2 ≤ k) (hu : u < d * B) (hv : v1 = d / B ^ (k - 1)) (hv1 : 500000000 ≤ v1) (hv2 : v1 * B + v2 = d / B ^ (k - 2))
    (hH : H = u / B ^ (k - 1)) (hU : H * B + u2 = u / B ^ (k - 2)) :
    (¬ H / v1 * v2 > H % v1 * B + u2 → u / d ≤ H / v1 ∧ H / v1 ≤ u / d + 1) ∧ (H / v1 * v2 > H % v1 * B + u2 → 1 ≤ H / v1 ∧ u / d ≤ H / v1 - 1 ∧ H / v1 - 1 ≤ u / d + 1) := by
  obtain ⟨P, hP⟩ : ∃ P, P = B ^ (k - 2) := ⟨_, rfl⟩
  have hP0 : 0 < P := hP ▸ B_pow _
  have hQ : B ^ (k - 1) = P * B := by rw [hP, ← Nat.pow_succ]; congr 1; omega
  rw [hQ] at hv hH
  rw [← hP] at hv2 hU
  have hB := B_eq
  have hd0 : 0 < d := by
    rcases Nat.eq_zero_or_pos d with q | q
    · subst q; omega
    · exact q
  obtain ⟨q, hq⟩ : ∃ q, q = u / d := ⟨_, rfl⟩
  obtain ⟨e, he⟩ : ∃ e, e = H / v1 := ⟨_, rfl⟩
  obtain ⟨r, hr⟩ : ∃ r, r = H % v1 := ⟨_, rfl⟩
  have hHe : v1 * e + r = H := by rw [he, hr]; exact Nat.div_add_mod _ _
  have hr2 : r < v1 := by rw [hr]; exact Nat.mod_lt _ (by omega)
  rw [← hq, ← he, ← hr]
  have hPB : 0 < P * B := Nat.mul_pos hP0 B_pos
  have d1 : v1 * (P * B) ≤ d := by rw [hv]; exact Nat.div_mul_le_self _ _
  have d2 : d < (v1 + 1) * (P * B) := by rw [hv, Nat.mul_comm]; exact Nat.lt_mul_div_succ _ hPB
  have d3 : (v1 * B + v2) * P ≤ d := by rw [hv2]; exact Nat.div_mul_le_self _ _
  have d4 : d < (v1 * B + v2 + 1) * P := by rw [hv2, Nat.mul_comm]; exact Nat.lt_mul_div_succ _ hP0
  have u1 : H * (P * B) ≤ u := by rw [hH]; exact Nat.div_mul_le_self _ _
  have u2' : u < (H + 1) * (P * B) := by rw [hH, Nat.mul_comm]; exact Nat.lt_mul_div_succ _ hPB
  have u3 : (H * B + u2) * P ≤ u := by rw [hU]; exact Nat.div_mul_le_self _ _
  have u4 : u < (H * B + u2 + 1) * P := by rw [hU, Nat.mul_comm]; exact Nat.lt_mul_div_succ _ hP0
  have q1 : q * d ≤ u := by rw [hq]; exact Nat.div_mul_le_self _ _
  have q2 : ∀ x, x * d ≤ u → x ≤ q := fun x hx => by rw [hq]; exact (Nat.le_div_iff_mul_le hd0).2 hx
  -- q ≤ e
  have a1 : q ≤ e := by
    rw [he]
    refine (Nat.le_div_iff_mul_le (by omega)).2 ?_
    rw [hH]
    refine (Nat.le_div_iff_mul_le hPB).2 ?_
    rw [Nat.mul_assoc]
    exact Nat.le_trans (Nat.mul_le_mul_left _ d1) q1
  -- H < (v1 + 1) * B
  have hHs : H < (v1 + 1) * B := by
    have : H * (P * B) < (v1 + 1) * B * (P * B) := by
      refine Nat.lt_of_le_of_lt u1 (Nat.lt_of_lt_of_le hu ?_)
      have := Nat.mul_le_mul_right B (Nat.le_of_lt d2)
      rw [Nat.mul_right_comm] at this
      exact this
    exact Nat.lt_of_mul_lt_mul_right this
  -- e ≤ B + 1
  have hes : e ≤ B + 1 := by
    rcases Nat.lt_or_ge (B + 1) e with c | c
    · exfalso
      have : v1 * (B + 2) ≤ v1 * e := Nat.mul_le_mul_left _ c
      rw [Nat.mul_add] at this
      rw [Nat.add_mul] at hHs
      omega
    · exact c
  -- e * V2 against U3
  have hV : e * (v1 * B + v2) = v1 * e * B + e * v2 := by rw [Nat.mul_add, ← Nat.mul_assoc, Nat.mul_comm e v1]
  have hU3 : H * B + u2 = v1 * e * B + (r * B + u2) := by rw [← hHe, Nat.add_mul]; omega
  constructor
  · intro hle
    refine ⟨a1, ?_⟩
    have hle' : e * (v1 * B + v2) ≤ H * B + u2 := by rw [hV, hU3]; omega
    rcases Nat.eq_zero_or_pos e with c | c
    · omega
    · obtain ⟨f, rfl⟩ : ∃ f, e = f + 1 := ⟨e - 1, by omega⟩
      have : f ≤ q := by
        refine q2 f (Nat.le_trans (Nat.mul_le_mul_left f (Nat.le_of_lt d4)) ?_)
        rw [← Nat.mul_assoc]
        refine Nat.le_trans (Nat.mul_le_mul_right P ?_) u3
        refine Nat.le_trans ?_ hle'
        rw [Nat.mul_add, Nat.add_mul]
        have : v1 * B ≥ 500000000 * B := Nat.mul_le_mul_right _ hv1
        omega
      omega
  · intro hgt
    have hgt' : H * B + u2 < e * (v1 * B + v2) := by rw [hV, hU3]; omega
    have hqe : q < e := by
      rcases Nat.lt_or_ge q e with c | c
      · exact c
      · exfalso
        have h1 : e * (v1 * B + v2) * P ≤ u := by
          rw [Nat.mul_assoc]
          exact Nat.le_trans (Nat.mul_le_mul_left _ d3) (Nat.le_trans (Nat.mul_le_mul_right _ c) q1)
        have h2 := Nat.lt_of_le_of_lt h1 u4
        have h3 := Nat.lt_of_mul_lt_mul_right h2
        omega
    refine ⟨by omega, by omega, ?_⟩
    rcases Nat.lt_or_ge e 3 with c | c
    · omega
    · obtain ⟨f, rfl⟩ : ∃ f, e = f + 2 := ⟨e - 2, by omega⟩
      have : f ≤ q := by
        refine q2 f (Nat.le_trans (Nat.mul_le_mul_left f (Nat.le_of_lt d2)) ?_)
        rw [← Nat.mul_assoc]
        refine Nat.le_trans (Nat.mul_le_mul_right _ ?_) u1
        rw [Nat.mul_add, Nat.mul_one, Nat.mul_comm f]
        rw [Nat.mul_add] at hHe
        omega
      omega
/-- one round of the long division -/
theorem div_round {M d i R Q : Nat} (hd : 0 < d) (hR : R = M / B ^ (i + 1) % d) (hQ : Q = M / B ^ (i + 1) / d) :
    (R * B + pl M i) % d = M / B ^ i % d ∧ Q * B + (R * B + pl M i) / d = M / B ^ i / d ∧ R * B + pl M i < d * B := by
  have e : M / B ^ i = M / B ^ (i + 1) * B + pl M i := by
    rw [pl, Nat.pow_succ, ← Nat.div_div_eq_div_mul, Nat.mul_comm _ B, Nat.div_add_mod]
  have e2 : M / B ^ i = (d * (Q * B) + (R * B + pl M i)) := by
    rw [e]
    have := Nat.div_add_mod (M / B ^ (i + 1)) d
    rw [← hR, ← hQ] at this
    rw [← this, Nat.add_mul, Nat.mul_assoc]
    omega
  refine ⟨by rw [e2, Nat.mul_add_mod], by rw [e2, Nat.mul_add_div hd], ?_⟩
  have h1 : R < d := by rw [hR]; exact Nat.mod_lt _ hd
  have h2 := pl_lt M i
  have h3 : (R + 1) * B ≤ d * B := Nat.mul_le_mul_right _ h1
  rw [Nat.add_mul] at h3
  omega
end Go.Proofs.YtbcoblpnihdhgaaDoor.Lim

/-
  Lists of limbs in memory, a row of the call's own, the carry that a closure keeps, and the list without the zeros at its end.
-/
set_option linter.unusedVariables false
set_option maxRecDepth 100000
namespace Go.Proofs.YtbcoblpnihdhgaaDoor
open Go.RowKit
/-- a slice that holds a list, in a block with a property -/
structure IntsIn (p : Nat → Prop) (w : World) (v : Value) (l : List Nat) : Prop where
  open_ : ∃ a cap, v = .slice a l.length cap ∧ l.length ≤ cap ∧ cap ≤ 9223372036854775807 ∧ (0 < l.length → ∃ b off, a = some ⟨b, off, none⟩ ∧ p b ∧ ∀ j, j < l.length → w.cell? ⟨b, off + j, none⟩ = some (.int .i64 ((l.getD j 0 : Nat) : Int)))
theorem cell_lt {w : World} {b j : Nat} {v : Value} (h : w.cell? ⟨b, j, none⟩ = some v) : b < w.heap.size := by
  rcases Nat.lt_or_ge b w.heap.size with h' | h'
  · exact h'
  · simp [World.cell?, Array.getElem?_eq_none h'] at h
theorem IntsIn.keep {p : Nat → Prop} {w w' : World} {v : Value} {l : List Nat} (h : IntsIn p w v l) (hk : ∀ b, p b → b < w.heap.size → w'.heap[b]? = w.heap[b]?) : IntsIn p w' v l := by
  obtain ⟨a, cap, e, h1, h2, h3⟩ := h.open_
  refine ⟨a, cap, e, h1, h2, fun h0 => ?_⟩
  obtain ⟨b, off, e2, hp, hc⟩ := h3 h0
  refine ⟨b, off, e2, hp, fun j hj => ?_⟩
  rw [← hc j hj]
  simp only [World.cell?, hk b hp (cell_lt (hc j hj))]
theorem IntsIn.below {p : Nat → Prop} {w w' : World} {v : Value} {l : List Nat} (h : IntsIn p w v l) (hb : Below w.heap.size w w') : IntsIn p w' v l := h.keep fun b _ hlt => hb.block b hlt
theorem IntsIn.weaken {p q : Nat → Prop} {w : World} {v : Value} {l : List Nat} (h : IntsIn p w v l) (hq : ∀ b, p b → b < w.heap.size → q b) : IntsIn q w v l := by
  obtain ⟨a, cap, e, h1, h2, h3⟩ := h.open_
  refine ⟨a, cap, e, h1, h2, fun h0 => ?_⟩
  obtain ⟨b, off, e2, hp, hc⟩ := h3 h0
  exact ⟨b, off, e2, hq b hp (cell_lt (hc 0 h0)), hc⟩
theorem IntsIn.nil (p : Nat → Prop) (w : World) (a : Option Addr) (cap : Nat) (h : cap ≤ 9223372036854775807) : IntsIn p w (.slice a 0 cap) [] := ⟨a, cap, rfl, Nat.zero_le _, h, fun h0 => absurd h0 (by simp)⟩
def cellsI (S : List Nat) : List Value := S.map fun d : Nat => Value.int .i64 ((d : Nat) : Int)
theorem infoI : (Tryd.prog.info? 3).map (fun i => (i.zero, i.size, i.bytes)) = some (some (.int .i64 0), 1, 8) := by kernel_rfl
/-- a row of ints of the call's own -/
def RowAt (H L : Nat) (S : List Nat) (w : World) : Prop := S.length = L ∧ w.ownsRow H 3 1 (.slice (some ⟨H, 0, none⟩) L L) L (cellsI S)
theorem RowAt.cell {H L : Nat} {S : List Nat} {w : World} (h : RowAt H L S w) (j : Nat) (hj : j < L) : w.cell? ⟨H, j, none⟩ = some (.int .i64 ((S.getD j 0 : Nat) : Int)) := by
  rw [World.ownsRow.cellAt h.2 j (by omega)]
  have hl : j < S.length := by rw [h.1]; exact hj
  simp [cellsI, List.getD, hl]
theorem RowAt.frozen {H L : Nat} {S : List Nat} {w : World} (h : RowAt H L S w) (j : Nat) : w.frozen? ⟨H, j, none⟩ = false := World.ownsRow.frozenAt h.2 j
theorem RowAt.store {H L : Nat} {S : List Nat} {w : World} (h : RowAt H L S w) (j x : Nat) : RowAt H L (S.set j x) (w.setCell ⟨H, j, none⟩ (.int .i64 (x : Int))) := by
  refine ⟨by rw [List.length_set, h.1], ?_⟩
  have := (World.ownsRow.stored h.2 j (.int .i64 (x : Int))).1
  rw [show cellsI (S.set j x) = (cellsI S).set j (.int .i64 (x : Int)) by simp [cellsI, List.map_set]]
  exact this
theorem RowAt.lt {H L : Nat} {S : List Nat} {w : World} (h : RowAt H L S w) : H < w.heap.size := (World.ownsRow.lt h.2 H rfl).2
/-- all blocks but one are as they were -/
structure Bes (B : Nat) (w w' : World) : Prop where
  os : w'.os = w.os
  tape : w'.tape = w.tape
  output : w'.output = w.output
  size : w.heap.size ≤ w'.heap.size
  block : ∀ k, k < w.heap.size → k ≠ B → w'.heap[k]? = w.heap[k]?
theorem Bes.refl (B : Nat) (w : World) : Bes B w w := ⟨rfl, rfl, rfl, Nat.le_refl _, fun _ _ _ => rfl⟩
theorem Bes.trans {B : Nat} {a b c : World} (h : Bes B a b) (k : Bes B b c) : Bes B a c :=
  ⟨k.os.trans h.os, k.tape.trans h.tape, k.output.trans h.output, Nat.le_trans h.size k.size, fun i hi hn => (k.block i (Nat.lt_of_lt_of_le hi h.size) hn).trans (h.block i hi hn)⟩
theorem Bes.of {B : Nat} {w w' : World} (h : Below w.heap.size w w') : Bes B w w' := ⟨h.os, h.tape, h.output, h.size, fun k hk _ => h.block k hk⟩
theorem Bes.below {B : Nat} {w w' : World} (h : Bes B w w') (hB : B ≤ w.heap.size) : Below B w w' := ⟨h.os, h.tape, h.output, h.size, fun k hk => h.block k (by omega) (by omega)⟩
theorem Bes.cell {B : Nat} {w w' : World} {b j : Nat} {v : Value} (h : Bes B w w') (hn : b ≠ B) (hc : w.cell? ⟨b, j, none⟩ = some v) : w'.cell? ⟨b, j, none⟩ = some v := by
  rw [← hc]; simp only [World.cell?, h.block b (cell_lt hc) hn]
theorem Bes.set (w : World) (B i : Nat) (u : Value) : Bes B w (w.setCell ⟨B, i, none⟩ u) :=
  ⟨rfl, rfl, rfl, by simp [World.setCell], fun k _ hn => Below.heap_setCell _ _ _ _ hn⟩
theorem RowAt.bes {B H L : Nat} {S : List Nat} {w w' : World} (h : RowAt H L S w) (hb : Bes B w w') (hn : H ≠ B) : RowAt H L S w' :=
  ⟨h.1, World.ownsRow.kept (row := some B) h.2 ⟨hb.os, hb.tape, hb.output, hb.size, fun k hk hne => hb.block k hk (fun e => by subst e; exact hne rfl)⟩ (.inr (by simpa [Value.ownBlock] using hn))⟩
theorem RowAt.below {H L : Nat} {S : List Nat} {w w' : World} (h : RowAt H L S w) (hb : Below w.heap.size w w') : RowAt H L S w' :=
  h.bes (B := w.heap.size) (Bes.of hb) (Nat.ne_of_lt h.lt)
/-- a row serves as a list -/
theorem RowAt.ints {H L : Nat} {S : List Nat} {w : World} (p : Nat → Prop) (h : RowAt H L S w) (hp : p H) (hL : L ≤ 1000000) : IntsIn p w (.slice (some ⟨H, 0, none⟩) L L) S :=
  ⟨some ⟨H, 0, none⟩, L, by rw [h.1], by rw [h.1]; exact Nat.le_refl _, Nat.le_trans hL (by decide), fun _ => ⟨H, 0, rfl, hp, fun j hj => by rw [Nat.zero_add]; exact h.cell j (by rw [← h.1]; exact hj)⟩⟩
/-- the cell of a closure -/
def CarAt (C c : Nat) (w : World) : Prop := w.heap[C]? = some (.cells #[.int .i64 (c : Int)] 3 (0, 0))
theorem CarAt.cell {C c : Nat} {w : World} (h : CarAt C c w) : w.cell? ⟨C, 0, none⟩ = some (.int .i64 (c : Int)) := by rw [Lib.cell_of_heap h]; rfl
theorem CarAt.frozen {C c : Nat} {w : World} (h : CarAt C c w) : w.frozen? ⟨C, 0, none⟩ = false := Lib.frozen_of_heap h 0
theorem CarAt.lt {C c : Nat} {w : World} (h : CarAt C c w) : C < w.heap.size := cell_lt h.cell
theorem CarAt.store {C c : Nat} {w : World} (h : CarAt C c w) (d : Nat) : CarAt C d (w.setCell ⟨C, 0, none⟩ (.int .i64 (d : Int))) := by
  unfold CarAt; rw [heap_setCell_same w _ 0 _ _ _ h]; rfl
theorem CarAt.bes {B C c : Nat} {w w' : World} (h : CarAt C c w) (hb : Bes B w w') (hn : C ≠ B) : CarAt C c w' := (hb.block C h.lt hn).trans h
theorem carrier_any (w : World) : Calls Tryd.prog 71 #[] w fun e w' => e = .returned (.func (.func 83) #[] #[.pointer (some ⟨w.heap.size, 0, none⟩)]) ∧ w' = w.alloc (.cells #[.int .i64 0] 3) := by
  have hmf : ∀ (fn : Fn) (first cap : Array Value) (w : World), (Instr.makeFunc fn first cap).run Tryd.prog w = .ok (.func fn first cap) w := fun _ _ _ _ => rfl
  go_enter Tryd.func71, Tryd.ntmps71
  go_wp2_with fail
  go_ret
  exact ⟨rfl, rfl⟩
theorem borrower_any (w : World) : Calls Tryd.prog 74 #[] w fun e w' => e = .returned (.func (.func 84) #[] #[.pointer (some ⟨w.heap.size, 0, none⟩)]) ∧ w' = w.alloc (.cells #[.int .i64 0] 3) := by
  have hmf : ∀ (fn : Fn) (first cap : Array Value) (w : World), (Instr.makeFunc fn first cap).run Tryd.prog w = .ok (.func fn first cap) w := fun _ _ _ _ => rfl
  go_enter Tryd.func74, Tryd.ntmps74
  go_wp2_with fail
  go_ret
  exact ⟨rfl, rfl⟩
theorem carried_any (C x c : Nat) (w : World) (hC : CarAt C c w) (hx : x + c ≤ 4000000000000000000) :
    Calls Tryd.prog 83 #[.int .i64 (x : Int), .pointer (some ⟨C, 0, none⟩)] w fun e w' => e = .returned (.int .i64 (((x + c) % Lim.B : Nat) : Int)) ∧ w' = w.setCell ⟨C, 0, none⟩ (.int .i64 (((x + c) / Lim.B : Nat) : Int)) := by
  have c0 := hC.cell
  have f0 := hC.frozen
  clear hC
  obtain ⟨d, hd⟩ : ∃ d, d = (x + c) % Lim.B := ⟨_, rfl⟩
  obtain ⟨e, he⟩ : ∃ e, e = (x + c) / Lim.B := ⟨_, rfl⟩
  rw [← hd, ← he]
  rw [Lim.B_eq] at hd he
  have i1 : IntKind.i64.wrap ((x : Int) + (c : Int)) = (x : Int) + (c : Int) := IntWalk.i64_in _ (by omega)
  have r1 : ((x : Int) + (c : Int)).tmod 1000000000 = (d : Int) := by rw [Int.tmod_eq_emod_of_nonneg (by omega)]; omega
  have r2 : ((x : Int) + (c : Int)).tdiv 1000000000 = (e : Int) := by rw [Int.tdiv_eq_ediv_of_nonneg (by omega)]; omega
  have i2 : IntKind.i64.wrap (d : Int) = (d : Int) := IntWalk.i64_in _ (by omega)
  have i3 : IntKind.i64.wrap (e : Int) = (e : Int) := IntWalk.i64_in _ (by omega)
  clear hd he
  go_enter Tryd.func83, Tryd.ntmps83
  go_wp2_with fail
  go_ret
  exact ⟨rfl, rfl⟩
theorem carried_as (C x c d e' : Nat) (w : World) (hd : d = (x + c) % Lim.B) (he : e' = (x + c) / Lim.B) (hC : CarAt C c w) (hx : x + c ≤ 4000000000000000000) :
    Calls Tryd.prog 83 #[.int .i64 (x : Int), .pointer (some ⟨C, 0, none⟩)] w fun e w' => e = .returned (.int .i64 (d : Int)) ∧ w' = w.setCell ⟨C, 0, none⟩ (.int .i64 (e' : Int)) := by
  rw [hd, he]; exact carried_any C x c w hC hx
theorem carried_zero (C c : Nat) (w : World) (hC : CarAt C c w) (hc : c < Lim.B) :
    Calls Tryd.prog 83 #[.int .i64 0, .pointer (some ⟨C, 0, none⟩)] w fun e w' => e = .returned (.int .i64 (c : Int)) ∧ w' = w.setCell ⟨C, 0, none⟩ (.int .i64 ((0 : Nat) : Int)) :=
  carried_as C 0 c c 0 w (by rw [Nat.zero_add, Nat.mod_eq_of_lt hc]) (by rw [Nat.zero_add, Nat.div_eq_of_lt hc]) hC (by rw [Lim.B_eq] at hc; omega)
theorem less_any (C x y c : Nat) (w : World) (hC : CarAt C c w) (hx : x < Lim.B) (hy : y < Lim.B) (hc : c ≤ 1) :
    Calls Tryd.prog 84 #[.int .i64 (x : Int), .int .i64 (y : Int), .pointer (some ⟨C, 0, none⟩)] w fun e w' => e = .returned (.int .i64 (((Lim.B + x - y - c) % Lim.B : Nat) : Int)) ∧ w' = w.setCell ⟨C, 0, none⟩ (.int .i64 ((1 - (Lim.B + x - y - c) / Lim.B : Nat) : Int)) := by
  have c0 := hC.cell
  have f0 := hC.frozen
  clear hC
  obtain ⟨d, hd⟩ : ∃ d, d = (Lim.B + x - y - c) % Lim.B := ⟨_, rfl⟩
  obtain ⟨e, he⟩ : ∃ e, e = (Lim.B + x - y - c) / Lim.B := ⟨_, rfl⟩
  obtain ⟨b, hb⟩ : ∃ b, b = 1 - e := ⟨_, rfl⟩
  rw [← hd, ← he, ← hb]
  rw [Lim.B_eq] at hd he hx hy
  have he1 : e ≤ 1 := by omega
  have i1 : IntKind.i64.wrap ((1000000000 : Int) + (x : Int)) = 1000000000 + (x : Int) := IntWalk.i64_in _ (by omega)
  have i2 : IntKind.i64.wrap ((1000000000 : Int) + (x : Int) - (y : Int)) = 1000000000 + (x : Int) - (y : Int) := IntWalk.i64_in _ (by omega)
  have i3 : IntKind.i64.wrap ((1000000000 : Int) + (x : Int) - (y : Int) - (c : Int)) = 1000000000 + (x : Int) - (y : Int) - (c : Int) := IntWalk.i64_in _ (by omega)
  have r1 : ((1000000000 : Int) + (x : Int) - (y : Int) - (c : Int)).tmod 1000000000 = (d : Int) := by rw [Int.tmod_eq_emod_of_nonneg (by omega)]; omega
  have r2 : ((1000000000 : Int) + (x : Int) - (y : Int) - (c : Int)).tdiv 1000000000 = (e : Int) := by rw [Int.tdiv_eq_ediv_of_nonneg (by omega)]; omega
  have i4 : IntKind.i64.wrap (d : Int) = (d : Int) := IntWalk.i64_in _ (by omega)
  have i5 : IntKind.i64.wrap (e : Int) = (e : Int) := IntWalk.i64_in _ (by omega)
  have i6 : IntKind.i64.wrap ((1 : Int) - (e : Int)) = (b : Int) := by rw [IntWalk.i64_in _ (by omega)]; omega
  clear hd he hb
  go_enter Tryd.func84, Tryd.ntmps84
  go_wp2_with fail
  go_ret
  exact ⟨rfl, rfl⟩
theorem less_as (C x y c d e' : Nat) (w : World) (hd : d = (Lim.B + x - y - c) % Lim.B) (he : e' = 1 - (Lim.B + x - y - c) / Lim.B) (hC : CarAt C c w) (hx : x < Lim.B) (hy : y < Lim.B) (hc : c ≤ 1) :
    Calls Tryd.prog 84 #[.int .i64 (x : Int), .int .i64 (y : Int), .pointer (some ⟨C, 0, none⟩)] w fun e w' => e = .returned (.int .i64 (d : Int)) ∧ w' = w.setCell ⟨C, 0, none⟩ (.int .i64 (e' : Int)) := by
  rw [hd, he]; exact less_any C x y c w hC hx hy hc
theorem less_zero (C x c d e' : Nat) (w : World) (hd : d = (Lim.B + x - 0 - c) % Lim.B) (he : e' = 1 - (Lim.B + x - 0 - c) / Lim.B) (hC : CarAt C c w) (hx : x < Lim.B) (hc : c ≤ 1) :
    Calls Tryd.prog 84 #[.int .i64 (x : Int), .int .i64 0, .pointer (some ⟨C, 0, none⟩)] w fun e w' => e = .returned (.int .i64 (d : Int)) ∧ w' = w.setCell ⟨C, 0, none⟩ (.int .i64 (e' : Int)) :=
  less_as C x 0 c d e' w hd he hC hx Lim.B_pos hc
set_option maxHeartbeats 1000000 in
theorem trimmed_any (p : Nat → Prop) (v : Value) (l : List Nat) (w : World) (h : IntsIn p w v l) (hl : Lim.Lo l) :
    Calls Tryd.prog 69 #[v] w fun e w' => ∃ v', e = .returned v' ∧ IntsIn p w v' (Lim.ls (Lim.lv l)) ∧ w = w' := by
  have hfin : ∀ n, n ≤ l.length → Lim.lv (l.take n) = Lim.lv l → (0 < n → l.getD (n - 1) 0 ≠ 0) → ∀ a cap, v = .slice a l.length cap → ∃ v', (.slice a n cap : Value) = v' ∧ IntsIn p w v' (Lim.ls (Lim.lv l)) := by
    intro n hn hv hz a cap hva
    obtain ⟨a', cap', e, h1, h2, h3⟩ := h.open_
    rw [e] at hva
    cases hva
    refine ⟨_, rfl, ?_⟩
    rw [← Lim.trim_done hl hn hv hz]
    have hlen : (l.take n).length = n := by rw [List.length_take]; omega
    refine ⟨a, cap, by rw [hlen], by rw [hlen]; omega, h2, fun h0 => ?_⟩
    rw [hlen] at h0 ⊢
    obtain ⟨b, off, e2, hp, hc⟩ := h3 (by omega)
    refine ⟨b, off, e2, hp, fun j hj => ?_⟩
    rw [hc j (by omega)]
    simp [List.getD, hj]
  obtain ⟨a, cap, rfl, h1, h2, h3⟩ := h.open_
  have HF := Lib.hid hfin
  have H3 := Lib.hid h3
  have HL := Lib.hid hl
  clear hfin h3 h hl
  obtain ⟨L, hL⟩ : ∃ L, L = l.length := ⟨_, rfl⟩
  rw [← hL] at h1 ⊢
  have EL := Lib.hid hL
  clear hL
  go_enter Tryd.func69, Tryd.ntmps69
  go_wp2_with fail
  go_loop [3] (fun i => ∃ n : Nat, n ≤ L ∧ i = .int .i64 n ∧ Hid (Lim.lv (l.take n) = Lim.lv l)) (fun i => (intOf i).toNat)
  case atStart => exact ⟨L, Nat.le_refl _, rfl, Lib.hid (by rw [EL.out, List.take_length])⟩
  case round =>
    obtain ⟨n, hn, rfl, hv⟩ := hrel
    by_cases h0 : 0 < n
    · obtain ⟨k, rfl⟩ : ∃ k, n = k + 1 := ⟨n - 1, by omega⟩
      obtain ⟨b, off, rfl, hp, hc⟩ := H3.out (by rw [← EL.out]; omega)
      have hck := hc k (by rw [← EL.out]; omega)
      have HC := Lib.hid hc
      clear hc
      obtain ⟨x, hx⟩ : ∃ x, x = l.getD k 0 := ⟨_, rfl⟩
      rw [← hx] at hck
      have i1 : ((k + 1 : Nat) : Int) - 1 = (k : Int) := by omega
      have i2 : IntKind.i64.wrap (k : Int) = (k : Int) := IntWalk.i64_in _ (by omega)
      by_cases hz : x = 0
      · subst hz
        have HX := Lib.hid hx
        clear hx
        go_wp2_with fail
        go_round
        case rel => exact ⟨k, by omega, by go_num, Lib.hid (Lim.trim_step (by rw [← EL.out]; omega) hv.out HX.out.symm)⟩
        case measure => simp [intOf]
      · have hz2 : ((x : Int) == 0) = false := beq_eq_false_iff_ne.2 (by omega)
        have HX := Lib.hid hx
        clear hx
        go_wp2_with fail
        go_ret
        obtain ⟨v', e1, e2⟩ := HF.out (k + 1) (by rw [← EL.out]; omega) hv.out (fun _ => by rw [Nat.add_sub_cancel, ← HX.out]; exact hz) _ _ rfl
        exact ⟨v', by rw [← e1]; rfl, e2, rfl⟩
    · obtain rfl : n = 0 := by omega
      go_wp2_with fail
      go_ret
      obtain ⟨v', e1, e2⟩ := HF.out 0 (by omega) hv.out (fun h => absurd h (by omega)) _ _ rfl
      exact ⟨v', by rw [← e1]; rfl, e2, rfl⟩
end Go.Proofs.YtbcoblpnihdhgaaDoor
