/-
  Plain mathematics of decimal digits, for the natural numbers of layer 3: the value of a row of digits, the digits of a value, their number, their order.
-/
import Derived.Lib.ItoaNum
import Derived.Laws.Strings
import Derived.Test.YtbcoblpnihdhgaaDoorProg
import Derived.WalkKit
import Derived.Below
import Derived.Lib.Walk
import Derived.Lib.Hide
import Derived.WalkLawsBesides
import Derived.Lib.Builder
import Derived.Outline
import Derived.WalkSmall
import Derived.Laws.OwnMore
import Derived.OwnWalk
import Derived.Lib.Strings
import Derived.Laws.DeepStrings4
set_option linter.unusedVariables false
set_option maxRecDepth 100000
namespace Go.Proofs.YtbcoblpnihdhgaaDoor.Dec
/-- a decimal digit -/
def isD (b : UInt8) : Bool := decide (48 ≤ b.toNat) && decide (b.toNat ≤ 57)
theorem isD_iff (b : UInt8) : isD b = true ↔ 48 ≤ b.toNat ∧ b.toNat ≤ 57 := by simp [isD]
/-- the value of a digit, of a row of digits -/
def dv (b : UInt8) : Nat := b.toNat - 48
def val (l : List UInt8) : Nat := l.foldl (fun n b => n * 10 + dv b) 0
def AllD (l : List UInt8) : Prop := ∀ b ∈ l, isD b = true
theorem AllD.left {l m : List UInt8} (h : AllD (l ++ m)) : AllD l := fun b hb => h b (by simp [hb])
theorem AllD.right {l m : List UInt8} (h : AllD (l ++ m)) : AllD m := fun b hb => h b (by simp [hb])
theorem AllD.append {l m : List UInt8} (h : AllD l) (g : AllD m) : AllD (l ++ m) := fun b hb => (List.mem_append.1 hb).elim (h b) (g b)
theorem AllD.tail {b : UInt8} {l : List UInt8} (h : AllD (b :: l)) : AllD l := fun c hc => h c (by simp [hc])
theorem AllD.nil : AllD [] := fun b hb => by cases hb
theorem AllD.one {b : UInt8} (h : isD b = true) : AllD [b] := fun c hc => by simp only [List.mem_singleton] at hc; subst hc; exact h
theorem dv_lt {b : UInt8} (h : isD b = true) : dv b < 10 := by have := (isD_iff b).1 h; unfold dv; omega
theorem dv_of (b : UInt8) (h : isD b = true) : UInt8.ofNat (48 + dv b) = b := by
  have := (isD_iff b).1 h
  unfold dv
  rw [show 48 + (b.toNat - 48) = b.toNat by omega]
  simp
theorem dv_inj {a b : UInt8} (ha : isD a = true) (hb : isD b = true) (h : dv a = dv b) : a = b := by rw [← dv_of a ha, ← dv_of b hb, h]
theorem dig_toNat {d : Nat} (h : d < 10) : (UInt8.ofNat (48 + d)).toNat = 48 + d := by rw [UInt8.toNat_ofNat']; omega
theorem dig_isD {d : Nat} (h : d < 10) : isD (UInt8.ofNat (48 + d)) = true := by rw [isD_iff, dig_toNat h]; omega
theorem dig_dv {d : Nat} (h : d < 10) : dv (UInt8.ofNat (48 + d)) = d := by unfold dv; rw [dig_toNat h]; omega
theorem val_nil : val [] = 0 := rfl
theorem val_snoc (l : List UInt8) (b : UInt8) : val (l ++ [b]) = val l * 10 + dv b := by simp [val]
theorem val_one (b : UInt8) : val [b] = dv b := by simp [val]
theorem foldl_val (l : List UInt8) (n : Nat) : l.foldl (fun n b => n * 10 + dv b) n = n * 10 ^ l.length + val l := by
  induction l generalizing n with
  | nil => simp [val]
  | cons b l ih =>
    simp only [List.foldl_cons, val, List.length_cons]
    rw [ih, ih (0 * 10 + dv b), Nat.pow_succ]
    have : (n * 10 + dv b) * 10 ^ l.length = n * (10 ^ l.length * 10) + dv b * 10 ^ l.length := by
      rw [Nat.add_mul, Nat.mul_assoc, Nat.mul_comm 10]
    rw [this]
    simp [Nat.add_assoc]
theorem val_append (l m : List UInt8) : val (l ++ m) = val l * 10 ^ m.length + val m := by
  show List.foldl _ 0 (l ++ m) = _
  rw [List.foldl_append, foldl_val]; rfl
theorem val_cons (b : UInt8) (l : List UInt8) : val (b :: l) = dv b * 10 ^ l.length + val l := by
  have := val_append [b] l
  rw [val_one] at this
  exact this
theorem val_lt {l : List UInt8} (h : AllD l) : val l < 10 ^ l.length := by
  induction l with
  | nil => simp [val]
  | cons b l ih =>
    have h1 := dv_lt (h b (by simp))
    have h2 := ih h.tail
    rw [val_cons, List.length_cons, Nat.pow_succ]
    have : dv b * 10 ^ l.length ≤ 9 * 10 ^ l.length := Nat.mul_le_mul_right _ (by omega)
    omega
/-- the digits of a value -/
def digs (n : Nat) : List UInt8 := Lib.decDigits n
theorem digs_small {n : Nat} (h : n < 10) : digs n = [UInt8.ofNat (48 + n)] := Lib.decDigits_one h
theorem digs_big {n : Nat} (h : ¬ n < 10) : digs n = digs (n / 10) ++ [UInt8.ofNat (48 + n % 10)] := by
  unfold digs
  conv => lhs; rw [Lib.decDigits]
  rw [dif_neg h]
theorem digs_all (n : Nat) : AllD (digs n) := by
  induction n using Nat.strongRecOn with
  | _ n ih =>
    by_cases h : n < 10
    · rw [digs_small h]; exact AllD.one (dig_isD h)
    · rw [digs_big h]; exact (ih _ (by omega)).append (AllD.one (dig_isD (Nat.mod_lt _ (by omega))))
theorem digs_ne (n : Nat) : digs n ≠ [] := by
  by_cases h : n < 10
  · rw [digs_small h]; simp
  · rw [digs_big h]; simp
theorem val_digs (n : Nat) : val (digs n) = n := by
  induction n using Nat.strongRecOn with
  | _ n ih =>
    by_cases h : n < 10
    · rw [digs_small h, val_one, dig_dv h]
    · rw [digs_big h, val_snoc, ih _ (by omega), dig_dv (Nat.mod_lt _ (by omega))]; omega
theorem digs_inj {a b : Nat} (h : digs a = digs b) : a = b := by rw [← val_digs a, ← val_digs b, h]
theorem digs_len_pos (n : Nat) : 1 ≤ (digs n).length := by
  rcases Nat.eq_zero_or_pos (digs n).length with h | h
  · exact absurd (List.eq_nil_of_length_eq_zero h) (digs_ne n)
  · exact h
/-- a row of digits without needless zeros -/
structure Norm (l : List UInt8) : Prop where
  ne : l ≠ []
  all : AllD l
  lead : 1 < l.length → l.head? ≠ some 48
theorem Norm.head_pos {b : UInt8} {l : List UInt8} (h : Norm (b :: l)) (hl : l ≠ []) : 1 ≤ dv b := by
  have h1 := h.lead (by have := List.length_pos_iff.2 hl; simp; omega)
  have h2 := (isD_iff b).1 (h.all b (by simp))
  unfold dv
  rcases Nat.lt_or_ge b.toNat 49 with h3 | h3
  · exfalso
    apply h1
    have : b = 48 := by
      apply UInt8.toNat_inj.1
      show b.toNat = 48
      omega
    rw [this]; rfl
  · omega
theorem Norm.le {b : UInt8} {l : List UInt8} (h : Norm (b :: l)) (hl : l ≠ []) : 10 ^ l.length ≤ val (b :: l) := by
  rw [val_cons]
  have := h.head_pos hl
  have : 1 * 10 ^ l.length ≤ dv b * 10 ^ l.length := Nat.mul_le_mul_right _ this
  omega
theorem Norm.init {l : List UInt8} {b : UInt8} (h : Norm (l ++ [b])) (hl : l ≠ []) : Norm l := by
  refine ⟨hl, h.all.left, fun h1 => ?_⟩
  cases l with
  | nil => exact absurd rfl hl
  | cons c l => exact h.lead (by simp)
/-- such a row is the digits of its value -/
theorem digs_val : ∀ (n : Nat) (l : List UInt8), l.length = n → Norm l → digs (val l) = l := by
  intro n
  induction n with
  | zero => intro l hl h; exact absurd (List.eq_nil_of_length_eq_zero hl) h.ne
  | succ n ih =>
    intro l hl h
    obtain ⟨m, b, rfl⟩ : ∃ m b, l = m ++ [b] := ⟨l.dropLast, l.getLast h.ne, (List.dropLast_concat_getLast h.ne).symm⟩
    have hb := h.all b (by simp)
    by_cases hm : m = []
    · subst hm
      rw [List.nil_append, val_one, digs_small (dv_lt hb), dv_of b hb]
    · have e := ih m (by simpa using hl) (h.init hm)
      have hp : 1 ≤ val m := by
        cases m with
        | nil => exact absurd rfl hm
        | cons c m =>
          by_cases hm' : m = []
          · subst hm'
            have := h.head_pos (l := [b]) (by simp)
            rw [val_one]; exact this
          · have h2 := (h.init hm).le hm'
            have : 1 ≤ 10 ^ m.length := Nat.pow_pos (by omega)
            omega
      have hd := dv_lt hb
      rw [val_snoc, digs_big (by omega), show (val m * 10 + dv b) / 10 = val m by omega, show (val m * 10 + dv b) % 10 = dv b by omega, e, dv_of b hb]
theorem digs_norm (n : Nat) : Norm (digs n) := by
  refine ⟨digs_ne n, digs_all n, ?_⟩
  induction n using Nat.strongRecOn with
  | _ n ih =>
    intro h1 h2
    by_cases h : n < 10
    · rw [digs_small h] at h1; simp at h1
    · rw [digs_big h] at h2
      have hne := digs_ne (n / 10)
      have h3 : (digs (n / 10)).head? = some 48 := by
        cases e : digs (n / 10) with
        | nil => exact absurd e hne
        | cons c r => rw [e] at h2; simpa using h2
      by_cases h4 : 1 < (digs (n / 10)).length
      · exact ih _ (by omega) h4 h3
      · have h5 : (digs (n / 10)).length = 1 := by have := digs_len_pos (n / 10); omega
        by_cases h6 : n / 10 < 10
        · rw [digs_small h6] at h3
          simp only [List.head?_cons, Option.some.injEq] at h3
          have := congrArg UInt8.toNat h3
          rw [dig_toNat h6] at this
          have h48 : (48 : UInt8).toNat = 48 := rfl
          omega
        · rw [digs_big h6] at h5
          exact absurd (by simpa using h5) (digs_ne (n / 10 / 10))
theorem norm_iff {l : List UInt8} : Norm l ↔ ∃ n, l = digs n := ⟨fun h => ⟨val l, (digs_val _ l rfl h).symm⟩, fun ⟨n, h⟩ => h ▸ digs_norm n⟩
theorem digs_lt (n : Nat) : n < 10 ^ (digs n).length := by have := val_lt (digs_all n); rwa [val_digs] at this
theorem digs_len_le {n k : Nat} (hk : 1 ≤ k) : (digs n).length ≤ k ↔ n < 10 ^ k := by
  constructor
  · intro h
    exact Nat.lt_of_lt_of_le (digs_lt n) (Nat.pow_le_pow_right (by omega) h)
  · intro h
    rcases Nat.lt_or_ge k (digs n).length with h1 | h1
    · exfalso
      cases e : digs n with
      | nil => exact absurd e (digs_ne n)
      | cons b l =>
        have hn := digs_norm n
        rw [e] at hn h1
        have hl : l ≠ [] := by intro h2; subst h2; simp at h1; omega
        have h3 := hn.le hl
        rw [← e, val_digs] at h3
        simp only [List.length_cons] at h1
        have : 10 ^ k ≤ 10 ^ l.length := Nat.pow_le_pow_right (by omega) (by omega)
        omega
    · exact h1
/-- needless zeros struck -/
def trim : List UInt8 → List UInt8
  | [] => []
  | [b] => [b]
  | b :: c :: r => if b = 48 then trim (c :: r) else b :: c :: r
theorem trim_digs : ∀ (l : List UInt8), l ≠ [] → AllD l → trim l = digs (val l)
  | [], h, _ => absurd rfl h
  | [b], _, h => by
    have hb := h b (by simp)
    rw [trim, val_one, digs_small (dv_lt hb), dv_of b hb]
  | b :: c :: r, _, h => by
    rw [trim]
    by_cases e : b = 48
    · rw [if_pos e, trim_digs (c :: r) (by simp) h.tail, val_cons b]
      have : dv b = 0 := by rw [e]; rfl
      rw [this]; simp
    · rw [if_neg e]
      exact (digs_val _ _ rfl ⟨by simp, h, fun _ => by simpa using e⟩).symm
/-- the digit at a place from the right -/
def place (l : List UInt8) (p : Nat) : Nat := val l / 10 ^ p % 10
theorem place_out {l : List UInt8} {p : Nat} (h : AllD l) (hp : l.length ≤ p) : place l p = 0 := by
  unfold place
  have : val l < 10 ^ p := Nat.lt_of_lt_of_le (val_lt h) (Nat.pow_le_pow_right (by omega) hp)
  rw [Nat.div_eq_of_lt this]
theorem place_in {l : List UInt8} {p : Nat} (h : AllD l) (hp : p < l.length) : place l p = dv (l[l.length - 1 - p]) := by
  have e : l = l.take (l.length - 1 - p) ++ (l[l.length - 1 - p] :: l.drop (l.length - p)) := by
    have h1 := (List.take_append_drop (l.length - 1 - p) l).symm
    have h2 : l.drop (l.length - 1 - p) = l[l.length - 1 - p] :: l.drop (l.length - p) := by
      rw [List.drop_eq_getElem_cons (by omega)]
      congr 2; omega
    rw [h2] at h1; exact h1
  have hd := dv_lt (h _ (List.getElem_mem (show l.length - 1 - p < l.length by omega)))
  have hr : AllD (l.drop (l.length - p)) := fun b hb => h b (List.mem_of_mem_drop hb)
  have hv := val_lt hr
  have hlen : (l.drop (l.length - p)).length = p := by rw [List.length_drop]; omega
  unfold place
  conv => lhs; rw [e]
  rw [val_append, val_cons, List.length_cons, hlen]
  rw [hlen] at hv
  generalize val (l.drop (l.length - p)) = r at hv
  generalize dv l[l.length - 1 - p] = d at hd
  generalize val (l.take (l.length - 1 - p)) = t
  rw [Nat.pow_succ]
  have e1 : t * (10 ^ p * 10) + (d * 10 ^ p + r) = (t * 10 + d) * 10 ^ p + r := by
    rw [Nat.add_mul, Nat.mul_assoc, Nat.mul_comm 10]; omega
  rw [e1, Nat.mul_comm, Nat.mul_add_div (Nat.pow_pos (by omega)), Nat.div_eq_of_lt hv]
  omega
/-- the value of digits, the last one first -/
def valR : List Nat → Nat
  | [] => 0
  | d :: r => d + 10 * valR r
theorem valR_snoc (l : List Nat) (d : Nat) : valR (l ++ [d]) = valR l + d * 10 ^ l.length := by
  induction l with
  | nil => simp [valR]
  | cons c l ih =>
    simp only [List.cons_append, valR, ih, List.length_cons, Nat.pow_succ]
    rw [Nat.mul_add, Nat.add_assoc]
    congr 2
    rw [← Nat.mul_assoc, Nat.mul_comm 10, Nat.mul_assoc, Nat.mul_comm 10]
theorem val_reverse {l : List Nat} (h : ∀ d ∈ l, d < 10) : val ((l.map fun d => UInt8.ofNat (48 + d)).reverse) = valR l := by
  induction l with
  | nil => rfl
  | cons d l ih =>
    simp only [List.map_cons, List.reverse_cons, val_snoc, valR]
    rw [ih (fun c hc => h c (by simp [hc])), dig_dv (h d (by simp))]
    omega
/-- rows of one length are ordered as their values -/
theorem less_val : ∀ (l m : List UInt8), AllD l → AllD m → l.length = m.length → Op.bytesLess l m = decide (val l < val m)
  | [], [], _, _, _ => by simp [Op.bytesLess, val]
  | [], _ :: _, _, _, h => by simp at h
  | _ :: _, [], _, _, h => by simp at h
  | a :: l, b :: m, ha, hb, h => by
    have hlen : l.length = m.length := by simpa using h
    have e := less_val l m ha.tail hb.tail hlen
    have h1 := val_lt ha.tail
    have h2 := val_lt hb.tail
    have d1 := (isD_iff a).1 (ha a (by simp))
    have d2 := (isD_iff b).1 (hb b (by simp))
    rw [Op.bytesLess, e, val_cons, val_cons, hlen]
    rw [hlen] at h1
    generalize 10 ^ m.length = k at h1 h2
    have hk : ∀ x y : Nat, x < y → x * k + k ≤ y * k := fun x y hxy => by
      have : (x + 1) * k ≤ y * k := Nat.mul_le_mul_right k hxy
      rw [Nat.add_mul, Nat.one_mul] at this; exact this
    rcases Nat.lt_trichotomy a.toNat b.toNat with c | c | c
    · have c1 : a < b := UInt8.lt_iff_toNat_lt.2 c
      have c2 : dv a < dv b := by unfold dv; omega
      have := hk _ _ c2
      simp only [c1, decide_true, Bool.true_or]
      exact (decide_eq_true (by omega)).symm
    · have c1 : a = b := UInt8.toNat_inj.1 c
      subst c1
      simp
    · have c1 : ¬ a < b := fun h => by have := UInt8.lt_iff_toNat_lt.1 h; omega
      have c2 : ¬ a = b := fun h => by subst h; omega
      have c3 : dv b < dv a := by unfold dv; omega
      have := hk _ _ c3
      rw [show decide (a < b) = false from decide_eq_false c1, show (a == b) = false from beq_eq_false_iff_ne.2 c2]
      simp only [Bool.false_and, Bool.or_false]
      exact (decide_eq_false (by omega)).symm
/-- rows without needless zeros: the shorter one is less -/
theorem short_less {l m : List UInt8} (hl : Norm l) (hm : Norm m) (h : l.length < m.length) : val l < val m := by
  cases m with
  | nil => simp at h
  | cons b m =>
    have h1 := val_lt hl.all
    by_cases hm' : m = []
    · subst hm'
      simp only [List.length_cons, List.length_nil] at h
      exact absurd (List.eq_nil_of_length_eq_zero (by omega)) hl.ne
    · have h2 := hm.le hm'
      have : 10 ^ l.length ≤ 10 ^ m.length := Nat.pow_le_pow_right (by omega) (by simp at h; omega)
      omega
/-- less, as the reference decides it -/
def lessL (l m : List UInt8) : Bool := if l.length = m.length then Op.bytesLess l m else decide (l.length < m.length)
theorem lessL_val {l m : List UInt8} (hl : Norm l) (hm : Norm m) : lessL l m = decide (val l < val m) := by
  unfold lessL
  by_cases e : l.length = m.length
  · rw [if_pos e, less_val l m hl.all hm.all e]
  · rw [if_neg e]
    rcases Nat.lt_or_gt_of_ne e with h | h
    · rw [decide_eq_true h, decide_eq_true (short_less hl hm h)]
    · have := short_less hm hl h
      rw [decide_eq_false (by omega), decide_eq_false (by omega)]
end Go.Proofs.YtbcoblpnihdhgaaDoor.Dec

/-
  Plain mathematics of sums, differences and products digit by digit, for the natural numbers of layer 3.
-/
set_option linter.unusedVariables false
set_option maxRecDepth 100000
namespace Go.Proofs.YtbcoblpnihdhgaaDoor.Dec
theorem mod_next (v i : Nat) : v % 10 ^ (i + 1) = v % 10 ^ i + v / 10 ^ i % 10 * 10 ^ i := by
  rw [Nat.pow_succ, Nat.mod_mul, Nat.mul_comm (10 ^ i) (v / 10 ^ i % 10)]
/-- the digits of a sum up to a place, and what is carried -/
structure Adds (a b i : Nat) (D : List Nat) (c : Nat) : Prop where
  len : D.length = i
  small : ∀ d ∈ D, d < 10
  carry : c ≤ 1
  sum : valR D + c * 10 ^ i = a % 10 ^ i + b % 10 ^ i
theorem Adds.zero (a b : Nat) : Adds a b 0 [] 0 := ⟨rfl, fun d hd => by (cases hd), by omega, by simp [valR, Nat.mod_one]⟩
theorem Adds.next {a b i : Nat} {D : List Nat} {c : Nat} (h : Adds a b i D c) :
    Adds a b (i + 1) (D ++ [(a / 10 ^ i % 10 + b / 10 ^ i % 10 + c) % 10]) ((a / 10 ^ i % 10 + b / 10 ^ i % 10 + c) / 10) := by
  have h1 := Nat.mod_lt (a / 10 ^ i) (show 0 < 10 by omega)
  have h2 := Nat.mod_lt (b / 10 ^ i) (show 0 < 10 by omega)
  have h3 := h.carry
  have h4 := h.sum
  refine ⟨by rw [List.length_append, h.len]; rfl, ?_, by omega, ?_⟩
  · intro d hd
    rcases List.mem_append.1 hd with hd | hd
    · exact h.small d hd
    · simp only [List.mem_singleton] at hd; subst hd; exact Nat.mod_lt _ (by omega)
  · rw [mod_next a, mod_next b, valR_snoc, h.len, Nat.pow_succ]
    generalize a / 10 ^ i % 10 = x at *
    generalize b / 10 ^ i % 10 = y at *
    generalize 10 ^ i = k at *
    have e : (x + y + c) % 10 * k + (x + y + c) / 10 * (k * 10) = (x + y + c) * k := by
      rw [← Nat.mul_assoc, Nat.mul_right_comm, ← Nat.add_mul]
      congr 1; omega
    have e2 : (x + y + c) * k = x * k + y * k + c * k := by rw [Nat.add_mul, Nat.add_mul]
    omega
theorem Adds.done {a b i : Nat} {D : List Nat} (h : Adds a b i D 0) (ha : a < 10 ^ i) (hb : b < 10 ^ i) : valR D = a + b := by
  have := h.sum
  rw [Nat.mod_eq_of_lt ha, Nat.mod_eq_of_lt hb] at this
  omega
theorem Adds.last {a b i : Nat} {D : List Nat} {c : Nat} (h : Adds a b i D c) (ha : a < 10 ^ i) (hb : b < 10 ^ i) : (a / 10 ^ i % 10 + b / 10 ^ i % 10 + c) / 10 = 0 := by
  rw [Nat.div_eq_of_lt ha, Nat.div_eq_of_lt hb]
  have := h.carry
  omega
theorem valR_lt {D : List Nat} (h : ∀ d ∈ D, d < 10) : valR D < 10 ^ D.length := by
  induction D with
  | nil => simp [valR]
  | cons d D ih =>
    have h1 := h d (by simp)
    have h2 := ih (fun c hc => h c (by simp [hc]))
    rw [valR, List.length_cons, Nat.pow_succ]
    omega
/-- the digits of a difference up to a place, and what is borrowed -/
structure Subs (a b i : Nat) (D : List Nat) (c : Nat) : Prop where
  len : D.length = i
  small : ∀ d ∈ D, d < 10
  carry : c ≤ 1
  sum : a % 10 ^ i + c * 10 ^ i = valR D + b % 10 ^ i
theorem Subs.zero (a b : Nat) : Subs a b 0 [] 0 := ⟨rfl, fun d hd => by (cases hd), by omega, by simp [valR, Nat.mod_one]⟩
theorem Subs.next {a b i : Nat} {D : List Nat} {c : Nat} (h : Subs a b i D c) :
    Subs a b (i + 1) (D ++ [(a / 10 ^ i % 10 + 10 - b / 10 ^ i % 10 - c) % 10]) (1 - (a / 10 ^ i % 10 + 10 - b / 10 ^ i % 10 - c) / 10) := by
  have h1 := Nat.mod_lt (a / 10 ^ i) (show 0 < 10 by omega)
  have h2 := Nat.mod_lt (b / 10 ^ i) (show 0 < 10 by omega)
  have h3 := h.carry
  have h4 := h.sum
  refine ⟨by rw [List.length_append, h.len]; rfl, ?_, by omega, ?_⟩
  · intro d hd
    rcases List.mem_append.1 hd with hd | hd
    · exact h.small d hd
    · simp only [List.mem_singleton] at hd; subst hd; exact Nat.mod_lt _ (by omega)
  · rw [mod_next a, mod_next b, valR_snoc, h.len, Nat.pow_succ]
    generalize a / 10 ^ i % 10 = x at *
    generalize b / 10 ^ i % 10 = y at *
    generalize 10 ^ i = k at *
    obtain ⟨n, hn⟩ : ∃ n, n = x + 10 - y - c := ⟨_, rfl⟩
    rw [← hn]
    have hq : n / 10 ≤ 1 := by omega
    have e : (1 - n / 10) * (k * 10) = 10 * k - n / 10 * 10 * k := by
      rcases Nat.eq_or_lt_of_le hq with q | q
      · rw [q]; simp
      · have q0 : n / 10 = 0 := by omega
        rw [q0]; simp [Nat.mul_comm]
    have e1 : n / 10 * 10 * k ≤ 10 * k := Nat.mul_le_mul_right k (by omega)
    have e2 : n % 10 * k + n / 10 * 10 * k = n * k := by rw [← Nat.add_mul]; congr 1; omega
    have e3 : n * k + y * k + c * k = x * k + 10 * k := by
      rw [← Nat.add_mul, ← Nat.add_mul, ← Nat.add_mul]; congr 1; omega
    rw [e]
    omega
theorem Subs.done {a b i : Nat} {D : List Nat} {c : Nat} (h : Subs a b i D c) (ha : a < 10 ^ i) (hb : b ≤ a) : valR D = a - b := by
  have h1 := h.sum
  have h2 := valR_lt h.small
  rw [h.len] at h2
  rw [Nat.mod_eq_of_lt ha, Nat.mod_eq_of_lt (Nat.lt_of_le_of_lt hb ha)] at h1
  have h3 := h.carry
  rcases Nat.eq_or_lt_of_le h3 with q | q
  · subst q; omega
  · have : c = 0 := by omega
    subst this; omega
end Go.Proofs.YtbcoblpnihdhgaaDoor.Dec

/-
  The reference's small functions of layer 3: the digit at a place, leading zeros struck, digits to text.
-/
set_option linter.unusedVariables false
set_option maxRecDepth 100000
namespace Go.Proofs.YtbcoblpnihdhgaaDoor
open Go.RowKit
/-- the bytes of a text -/
def tl (s : ByteArray) : List UInt8 := s.data.toList
theorem tl_length (s : ByteArray) : (tl s).length = s.size := by simp [tl]
theorem tl_get (s : ByteArray) (k : Nat) (h : k < s.size) : (tl s)[k]'(by rw [tl_length]; exact h) = s[k] := by simp [tl]; rfl
/-- the text of digits -/
def bx (l : List UInt8) : ByteArray := ⟨l.toArray⟩
theorem tl_bx (l : List UInt8) : tl (bx l) = l := by simp [tl, bx]
theorem bx_tl (s : ByteArray) : bx (tl s) = s := by apply ByteArray.ext; simp [tl, bx]
theorem bx_size (l : List UInt8) : (bx l).size = l.length := by rw [← tl_length, tl_bx]
theorem tl_inj {s t : ByteArray} (h : tl s = tl t) : s = t := by rw [← bx_tl s, ← bx_tl t, h]
theorem tl_extract (s : ByteArray) (k : Nat) : tl (s.extract k s.size) = (tl s).drop k := by
  simp only [tl, ByteArray.data_extract, Array.toList_extract]
  rw [List.extract_eq_take_drop, List.take_of_length_le (by simp)]
theorem trim_end {s : ByteArray} {k : Nat} (hd : Dec.AllD (tl s)) (hk : k < s.size) (hv : Dec.val ((tl s).drop k) = Dec.val (tl s)) (h : k + 1 < s.size → s[k] ≠ 48) : s.extract k s.size = bx (Dec.digs (Dec.val (tl s))) := by
  apply tl_inj
  rw [tl_extract, tl_bx, ← hv]
  have hdr : (tl s).drop k = s[k] :: (tl s).drop (k + 1) := by
    rw [List.drop_eq_getElem_cons (by rw [tl_length]; exact hk), tl_get s k hk]
  refine (Dec.digs_val _ _ rfl ⟨by rw [hdr]; simp, fun b hb => hd b (List.mem_of_mem_drop hb), fun h1 => ?_⟩).symm
  rw [hdr]
  rw [List.length_drop, tl_length] at h1
  simpa using h (by omega)
end Go.Proofs.YtbcoblpnihdhgaaDoor

/-
  The reference's text of layer 3: digits, the last one first, to a number without needless zeros.
-/
set_option linter.unusedVariables false
set_option maxRecDepth 100000
namespace Go.Proofs.YtbcoblpnihdhgaaDoor
open Go.RowKit
/-- bytes with small values, as cells -/
def numCells (D : List Nat) : List Value := D.map fun d : Nat => Value.int .u8 ((d : Nat) : Int)
theorem numCells_length (D : List Nat) : (numCells D).length = D.length := by simp [numCells]
/-- a row of bytes of the call's own -/
def OwnN (B : Nat) (w : World) (v : Value) (D : List Nat) : Prop := w.ownsRow B 5 1 v D.length (numCells D)
theorem OwnN.nil (B : Nat) (w : World) : OwnN B w (.slice none 0 0) [] := World.ownsRow_nil _ _ _ _
theorem OwnN.below {B : Nat} {w w' : World} {v : Value} {D : List Nat} (h : OwnN B w v D) (hb : Below w.heap.size w w') : OwnN B w' v D := by
  by_cases e : v.ownBlock = none
  · exact World.ownsRow.kept (row := none) h ⟨hb.os, hb.tape, hb.output, hb.size, fun k hk _ => hb.block k hk⟩ (.inl e)
  · exact World.ownsRow.kept (row := none) h ⟨hb.os, hb.tape, hb.output, hb.size, fun k hk _ => hb.block k hk⟩ (.inr e)
theorem OwnN.open_ {B : Nat} {w : World} {v : Value} {D : List Nat} (h : OwnN B w v D) (h0 : 0 < D.length) :
    ∃ g cap, v = .slice (some ⟨g, 0, none⟩) D.length cap ∧ B ≤ g ∧ g < w.heap.size ∧ D.length ≤ cap ∧ ∀ j (hj : j < D.length), w.cell? ⟨g, j, none⟩ = some (.int .u8 (D[j] : Int)) := by
  rcases h.2 with ⟨rfl, h1⟩ | ⟨g, cap, cur, rfl, h2, hg, h3, h4, h5, h6⟩
  · omega
  · have hlt := World.ownsRow.lt (w := w) (base := B) h g rfl
    refine ⟨g, cap, rfl, hlt.1, hlt.2, h3, fun j hj => ?_⟩
    rw [World.ownsRow.cellAt h j (by omega)]
    simp [numCells, hj]
/-- the row of the text while it is written -/
def outN (D : List Nat) (k : Nat) : List Nat := List.replicate (D.length - k) 0 ++ ((D.take k).map (48 + ·)).reverse
theorem outN_zero (D : List Nat) : outN D 0 = List.replicate D.length 0 := by simp [outN]
theorem outN_length (D : List Nat) (k : Nat) (hk : k ≤ D.length) : (outN D k).length = D.length := by simp [outN]; omega
theorem outN_set (D : List Nat) (k : Nat) (hk : k < D.length) : (outN D k).set (D.length - 1 - k) (48 + D[k]) = outN D (k + 1) := by
  unfold outN
  have e1 : D.length - k = D.length - 1 - k + 1 := by omega
  rw [e1, List.replicate_succ', List.append_assoc, List.set_append_right _ _ (by simp)]
  simp only [List.length_replicate, Nat.sub_self, List.singleton_append, List.set_cons_zero]
  rw [List.take_succ_eq_append_getElem hk, List.map_append, List.reverse_append]
  rw [show D.length - (k + 1) = D.length - 1 - k by omega]
  simp
theorem outN_last (D : List Nat) : outN D D.length = ((D.map (48 + ·)).reverse) := by simp [outN]
theorem byte_of {d : Nat} (h : d < 10) : ((UInt8.ofNat (48 + d)).toNat : Int) = ((48 + d : Nat) : Int) := by rw [Dec.dig_toNat h]
theorem text_list (D : List Nat) (hs : ∀ d ∈ D, d < 10) : numCells (outN D D.length) = ((D.map fun d => UInt8.ofNat (48 + d)).reverse).map fun c => Value.int .u8 (c.toNat : Int) := by
  rw [outN_last, numCells, ← List.map_reverse, ← List.map_reverse, List.map_map, List.map_map]
  apply List.map_congr_left
  intro d hd
  show Value.int .u8 ((48 + d : Nat) : Int) = Value.int .u8 _
  rw [byte_of (hs d (by simpa using hd))]
theorem infoByte : (Tryd.prog.info? 5).map (fun i => (i.zero, i.size, i.bytes)) = some (some (.int .u8 0), 1, 1) := by kernel_rfl
theorem foldl_push (l : List UInt8) (a : ByteArray) : (l.map fun c => (c.toNat : Int)).foldl (fun b i => b.push (UInt8.ofNat i.toNat)) a = ⟨a.data ++ l.toArray⟩ := by
  induction l generalizing a with
  | nil => simp
  | cons b l ih =>
    rw [List.map_cons, List.foldl_cons, ih]
    congr 1
    apply Array.ext'
    simp
theorem numConv (l : List UInt8) (b off : Nat) (cap : Nat) (w : World) (h : ∀ j (hj : j < l.length), w.cell? ⟨b, off + j, none⟩ = some (.int .u8 (l[j].toNat : Int))) :
    (convert 101 9 (.slice (some ⟨b, off, none⟩) l.length cap)).run Tryd.prog w = .ok (.string ⟨l.toArray⟩) w := by
  rw [run_convert_bytes_string w 101 9 5 _ _ _ Tryd.underlying101 Tryd.underlying5 Tryd.underlying9]
  have hl := run_loadCells_list (P := Tryd.prog) w ⟨b, off, none⟩ (l.map fun c => Value.int .u8 (c.toNat : Int)) (by
    intro j v hj
    rw [List.getElem?_map] at hj
    have hlt : j < l.length := by
      rcases Nat.lt_or_ge j l.length with h' | h'
      · exact h'
      · rw [List.getElem?_eq_none h'] at hj; simp at hj
    rw [List.getElem?_eq_getElem hlt] at hj
    simp only [Option.map_some, Option.some.injEq] at hj
    subst hj
    have := h j hlt
    rw [show (⟨b, off, none⟩ : Addr).add j = ⟨b, off + j, none⟩ from by unfold Addr.add; split <;> simp_all]; exact this)
  rw [List.length_map] at hl
  have hr := run_bytesToString (P := Tryd.prog) w ⟨b, off, none⟩ l.length cap (l.map fun c => (c.toNat : Int)) (by rw [hl, List.map_map]; rfl)
  rw [hr, foldl_push, show ByteArray.empty.data ++ l.toArray = l.toArray from by simp]
end Go.Proofs.YtbcoblpnihdhgaaDoor

/-
  The reference's sums and differences of layer 3, digit by digit.
-/
set_option linter.unusedVariables false
set_option maxRecDepth 100000
namespace Go.Proofs.YtbcoblpnihdhgaaDoor
open Go.RowKit
theorem numCells_snoc (D : List Nat) (d : Nat) : numCells (D ++ [d]) = numCells D ++ [Value.int .u8 (d : Int)] := by simp [numCells]
theorem below_lit (w : World) (o : Obj) : Below w.heap.size w (w.alloc o) := (Below.refl _ _).alloc (Nat.le_refl _) _
/-- one digit more behind a row of the call's own -/
theorem wpList_snocN (w : World) {ops : Array Oper} {rest : List Oper} {o : Oper} {a : Act} {Q : Exit → Act → World → Prop} (hgd : o.guard = none) (s x : Operand)
    (ho : o.op = .call { callee := .builtin .append, args := #[s, x], argTypes := #[101, 101] })
    (B : Nat) (u : Value) (D : List Nat) (d : Nat) (hs : a.eval s = u) (hx : a.eval x = .slice (some ⟨w.heap.size, 0, none⟩) 1 1) (h1 : OwnN B w u D) (hn : D.length + 1 ≤ 1099511627776) (hB : B ≤ w.heap.size)
    (h : ∀ v' w', OwnN B w' v' (D ++ [d]) → (w.alloc (.cells #[.int .u8 (d : Int)] 5)).grownBy w' u.ownBlock → wpList Tryd.prog ops Q rest (a.put o.dst v') w') : wpList Tryd.prog ops Q (o :: rest) a (w.alloc (.cells #[.int .u8 (d : Int)] 5)) := by
  obtain ⟨i0, hi, hz0, hz1, hz2⟩ := info_parts infoByte
  refine wpList_append_own _ hgd s x 101 ho B 5 i0 (.int .u8 0) 1 1 Tryd.underlying101 hi hz0 hz1 hz2 rfl (by decide) u D.length (numCells D) hs (World.ownsRow.alloc h1 _) ⟨w.heap.size, 0, none⟩ 1 1 [.int .u8 (d : Int)] hx rfl ?_ ?_ (by unfold maxLen; omega) (by omega) (by simp; omega) ?_
  · intro j z hj
    match j, hj with
    | 0, hj => simp at hj; subst hj; simp [Addr.add]
  · intro z hz; simp at hz; subst hz; rfl
  · intro v' w' h2 h3 _
    refine h v' w' ?_ h3
    unfold OwnN
    rw [List.length_append, numCells_snoc]
    exact h2
theorem below_snoc {w wr w' : World} {u : Value} {D : List Nat} {o : Obj} (h : Below w.heap.size w wr) (hu : OwnN w.heap.size wr u D) (hg : (wr.alloc o).grownBy w' u.ownBlock) : Below w.heap.size w w' :=
  (h.alloc h.size o).grown hg (Nat.le_trans h.size (by simp)) (fun q hq => (World.ownsRow.lt (w := wr) (base := w.heap.size) hu q hq).1)
theorem place_lt (l : List UInt8) (p : Nat) : Dec.place l p < 10 := Nat.mod_lt _ (by omega)
theorem u8_in {d : Nat} (h : d < 10) : IntKind.u8.wrap (d : Int) = (d : Int) := by simp [IntKind.wrap, IntKind.bits, IntKind.signed]; omega
theorem val_bound {s : ByteArray} {k : Nat} (h : Dec.AllD (tl s)) (hk : s.size ≤ k) : Dec.val (tl s) < 10 ^ k := Nat.lt_of_lt_of_le (Dec.val_lt h) (Nat.pow_le_pow_right (by omega) (by rw [tl_length]; exact hk))
end Go.Proofs.YtbcoblpnihdhgaaDoor

/-
  The reference's differences of layer 3.
-/
set_option linter.unusedVariables false
set_option maxRecDepth 100000
namespace Go.Proofs.YtbcoblpnihdhgaaDoor
open Go.RowKit
end Go.Proofs.YtbcoblpnihdhgaaDoor

/-
  The reference's Valid, less and within of layer 3.
-/
set_option linter.unusedVariables false
set_option maxRecDepth 100000
namespace Go.Proofs.YtbcoblpnihdhgaaDoor
open Go.RowKit
def validL (l : List UInt8) : Bool := decide (1 ≤ l.length) && decide (l.length ≤ 1000) && (decide (l.length ≤ 1) || decide (l.head? ≠ some 48)) && l.all Dec.isD
/-- a natural number of layer 3 -/
def validB (s : ByteArray) : Bool := validL (tl s)
theorem validL_iff (l : List UInt8) : validL l = true ↔ Dec.Norm l ∧ l.length ≤ 1000 := by
  unfold validL
  simp only [Bool.and_eq_true, Bool.or_eq_true, decide_eq_true_eq, List.all_eq_true]
  constructor
  · rintro ⟨⟨⟨h1, h2⟩, h3⟩, h4⟩
    refine ⟨⟨by intro e; subst e; simp at h1, h4, fun h => ?_⟩, h2⟩
    rcases h3 with h3 | h3
    · omega
    · exact h3
  · rintro ⟨⟨h1, h2, h3⟩, h4⟩
    refine ⟨⟨⟨by have := List.length_pos_iff.2 h1; omega, h4⟩, ?_⟩, h2⟩
    by_cases h : l.length ≤ 1
    · exact .inl h
    · exact .inr (h3 (by omega))
theorem validB_iff (s : ByteArray) : validB s = true ↔ Dec.Norm (tl s) ∧ s.size ≤ 1000 := by
  unfold validB
  rw [validL_iff, tl_length]
theorem validB_digs {s : ByteArray} (h : validB s = true) : s = bx (Dec.digs (Dec.val (tl s))) := by
  rw [Dec.digs_val _ _ rfl ((validB_iff s).1 h).1, bx_tl]
theorem digs_valid (n : Nat) (h : (Dec.digs n).length ≤ 1000) : validB (bx (Dec.digs n)) = true := by
  rw [validB_iff, tl_bx, bx_size]
  exact ⟨Dec.digs_norm n, h⟩
theorem valid_inj {s t : ByteArray} (hs : validB s = true) (ht : validB t = true) (h : Dec.val (tl s) = Dec.val (tl t)) : s = t := by
  rw [validB_digs hs, validB_digs ht, h]
theorem nd_iff (b : UInt8) : Dec.isD b = false ↔ b.toNat < 48 ∨ 57 < b.toNat := by
  cases e : Dec.isD b with
  | true => have := (Dec.isD_iff b).1 e; simp; omega
  | false =>
    simp only [true_iff]
    rcases Nat.lt_or_ge b.toNat 48 with h | h
    · exact .inl h
    · rcases Nat.lt_or_ge 57 b.toNat with h2 | h2
      · exact .inr h2
      · have := (Dec.isD_iff b).2 ⟨h, h2⟩
        rw [this] at e; cases e
end Go.Proofs.YtbcoblpnihdhgaaDoor

/-
  The reference's division of layer 3, digit by digit.
-/
set_option linter.unusedVariables false
set_option maxRecDepth 100000
namespace Go.Proofs.YtbcoblpnihdhgaaDoor
open Go.RowKit
/-- the text of a number -/
def nS (n : Nat) : ByteArray := bx (Dec.digs n)
theorem tl_nS (n : Nat) : tl (nS n) = Dec.digs n := tl_bx _
theorem val_nS (n : Nat) : Dec.val (tl (nS n)) = n := by rw [tl_nS, Dec.val_digs]
theorem nS_norm (n : Nat) : Dec.Norm (tl (nS n)) := by rw [tl_nS]; exact Dec.digs_norm n
theorem nS_size {n k : Nat} (hk : 1 ≤ k) : (nS n).size ≤ k ↔ n < 10 ^ k := by unfold nS; rw [bx_size]; exact Dec.digs_len_le hk
theorem nS_pos (n : Nat) : 0 < (nS n).size := by unfold nS; rw [bx_size]; exact Dec.digs_len_pos n
theorem nS_of {s : ByteArray} (h : validB s = true) : s = nS (Dec.val (tl s)) := validB_digs h
theorem div_next {A b d : Nat} (hb : 0 < b) : (A * 10 + d) / b = A / b * 10 + (A % b * 10 + d) / b ∧ (A * 10 + d) % b = (A % b * 10 + d) % b := by
  have h := Nat.div_add_mod A b
  have e : A * 10 + d = b * (A / b * 10) + (A % b * 10 + d) := by
    rw [← Nat.mul_assoc]
    have : (b * (A / b) + A % b) * 10 = A * 10 := by rw [h]
    rw [Nat.add_mul] at this
    omega
  rw [e]
  exact ⟨Nat.mul_add_div hb _ _, Nat.mul_add_mod _ _ _⟩
theorem ten_more {v k : Nat} (h : v < 10 ^ k) : v * 10 < 10 ^ (k + 1) := by rw [Nat.pow_succ]; exact Nat.mul_lt_mul_of_pos_right h (by omega)
theorem nS_ten {V k : Nat} (h : V < 10 ^ k) : ∀ y, y < V * 10 → (nS y).size ≤ k + 1 := fun y hy => (nS_size (by omega)).2 (Nat.lt_trans hy (ten_more h))
theorem tl_one (s : ByteArray) (k : Nat) (h : k < s.size) : s.extract k (k + 1) = bx [s[k]] := by
  apply tl_inj
  rw [tl_bx]
  simp only [tl, ByteArray.data_extract, Array.toList_extract]
  rw [List.extract_eq_take_drop]
  have e : (s.data.toList).drop k = s[k] :: (s.data.toList).drop (k + 1) := by
    have := List.drop_eq_getElem_cons (l := tl s) (i := k) (by rw [tl_length]; exact h)
    rw [tl_get s k h] at this
    exact this
  rw [e, show k + 1 - k = 1 by omega]
  rfl
theorem nS_ten_of {t : ByteArray} {k : Nat} (hd : Dec.AllD (tl t)) (ht : t.size ≤ k) : ∀ y, y < Dec.val (tl t) * 10 → (nS y).size ≤ k + 1 := nS_ten (val_bound hd ht)
theorem run_cut1 (s : ByteArray) (k : Nat) (w : World) (h : k < s.size) : Sem.run Tryd.prog (Instr.slice 9 (.string s) (some (.int .i64 (k : Int))) (some (.int .i64 ((k : Int) + 1))) none) w = .ok (.string (bx [s[k]])) w := by
  rw [run_slice_string_if (P := Tryd.prog) w 9 s .i64 .i64 (k : Int) ((k : Int) + 1) Tryd.underlying9]
  rw [if_pos ⟨by omega, by omega⟩, if_pos ⟨by omega, by omega⟩]
  rw [show ((k : Int) + 1).toNat = k + 1 by omega, Int.toNat_natCast, tl_one s k h]
theorem digCut (w : World) (n : Nat) (h : n < 10) : (Instr.slice 9 (.string ⟨#[48, 49, 50, 51, 52, 53, 54, 55, 56, 57]⟩) (some (.int .i64 (n : Nat))) (some (.int .i64 ((n : Nat) + 1))) none).run Tryd.prog w = .ok (.string (bx [UInt8.ofNat (48 + n)])) w := by
  match n, h with
  | 0, _ => rfl
  | 1, _ => rfl
  | 2, _ => rfl
  | 3, _ => rfl
  | 4, _ => rfl
  | 5, _ => rfl
  | 6, _ => rfl
  | 7, _ => rfl
  | 8, _ => rfl
  | 9, _ => rfl
  | n + 10, h => exact absurd h (by omega)
theorem bx_cat (l m : List UInt8) : bx l ++ bx m = bx (l ++ m) := by
  apply tl_inj
  rw [tl_bx]
  simp [tl, bx]
end Go.Proofs.YtbcoblpnihdhgaaDoor

/-
  The reference's Add, Sub, Div and Gcd of layer 3: one contract for each that says all that it answers.
-/
set_option linter.unusedVariables false
set_option maxRecDepth 100000
namespace Go.Proofs.YtbcoblpnihdhgaaDoor
open Go.RowKit
/-- what Add answers -/
def within (n : Nat) : ByteArray × Int := if (nS n).size ≤ 1000 then (nS n, 0) else (⟨#[]⟩, 2)
def addR (a b : ByteArray) : ByteArray × Int := if validB a && validB b then within (Dec.val (tl a) + Dec.val (tl b)) else (⟨#[]⟩, 1)
def mulR (a b : ByteArray) : ByteArray × Int := if validB a && validB b then within (Dec.val (tl a) * Dec.val (tl b)) else (⟨#[]⟩, 1)
def subR (a b : ByteArray) : ByteArray × Int := if validB a && validB b then (if Dec.val (tl a) < Dec.val (tl b) then (⟨#[]⟩, 9) else (nS (Dec.val (tl a) - Dec.val (tl b)), 0)) else (⟨#[]⟩, 1)
def gcdR (a b : ByteArray) : ByteArray × Int := if validB a && validB b then (nS (Nat.gcd (Dec.val (tl a)) (Dec.val (tl b))), 0) else (⟨#[]⟩, 1)
def divR (a b : ByteArray) : ByteArray × ByteArray × Int := if validB a && validB b then (if Dec.val (tl b) = 0 then (⟨#[]⟩, ⟨#[]⟩, 14) else (nS (Dec.val (tl a) / Dec.val (tl b)), nS (Dec.val (tl a) % Dec.val (tl b)), 0)) else (⟨#[]⟩, ⟨#[]⟩, 1)
theorem two_not {x y : Bool} (h : ¬ (x = true ∧ y = true)) : (x && y) = false := by cases x <;> cases y <;> simp_all
/-- the same answers, or what a call with two results ends in -/
def Gives2 (r : ByteArray × Int) (w : World) (e : Ending) (w' : World) : Prop := e = .returned (.tuple #[.string r.1, .int .i64 r.2]) ∧ Below w.heap.size w w'
theorem valid_size {s : ByteArray} (h : validB s = true) : s.size ≤ 1000 := ((validB_iff s).1 h).2
theorem valid_norm {s : ByteArray} (h : validB s = true) : Dec.Norm (tl s) := ((validB_iff s).1 h).1
theorem valid_pos {s : ByteArray} (h : validB s = true) : 0 < s.size := by rw [← tl_length]; exact List.length_pos_iff.2 (valid_norm h).ne
theorem str_beq (a b : ByteArray) : (a.toList == b.toList) = decide (a = b) := by
  rw [Lib.toList_data, Lib.toList_data]
  by_cases h : a = b
  · subst h; rw [decide_eq_true rfl]; exact beq_self_eq_true _
  · rw [decide_eq_false h]; exact beq_eq_false_iff_ne.2 (fun e => h (tl_inj e))
theorem nS_inj {a b : Nat} (h : nS a = nS b) : a = b := by rw [← val_nS a, ← val_nS b, h]
theorem nS_zero : nS 0 = ⟨#[48]⟩ := by unfold nS; rw [Dec.digs_small (by omega)]; rfl
theorem nS_mono {a b : Nat} (h : a ≤ b) : (nS a).size ≤ (nS b).size := (nS_size (nS_pos b)).2 (Nat.lt_of_le_of_lt h ((nS_size (nS_pos b)).1 (Nat.le_refl _)))

def Gives3 (r : ByteArray × ByteArray × Int) (w : World) (e : Ending) (w' : World) : Prop := e = .returned (.tuple #[.string r.1, .string r.2.1, .int .i64 r.2.2]) ∧ Below w.heap.size w w'
theorem zero_list : ([48] : List UInt8) = (⟨#[48]⟩ : ByteArray).toList := by rw [Lib.toList_data]
theorem zero_str {b : ByteArray} (hb : validB b = true) : (b.toList == [48]) = decide (Dec.val (tl b) = 0) := by
  rw [zero_list, str_beq, nS_of hb, ← nS_zero, val_nS]
  by_cases h : Dec.val (tl b) = 0
  · rw [h, decide_eq_true rfl, decide_eq_true rfl]
  · rw [decide_eq_false h, decide_eq_false (fun e => h (nS_inj e))]
def strV : Value → Nat
  | .string s => Dec.val (tl s)
  | _ => 0
theorem strV_nS (n : Nat) : strV (.string (nS n)) = n := val_nS n
end Go.Proofs.YtbcoblpnihdhgaaDoor
