/-
  Plain mathematics of decimal digits, for the natural numbers of layer 3: the value of a row of digits, the digits of a value, their number, their order.
-/
import Derived.Lib.ItoaNum
import Derived.Laws.Strings
set_option linter.unusedVariables false
namespace Go.Proofs.YtfkdhkbegfbkaaaDoor.Dec
/-- a decimal digit -/
def isD (b : UInt8) : Bool := decide (48 ≤ b.toNat) && decide (b.toNat ≤ 57)
theorem isD_iff (b : UInt8) : isD b = true ↔ 48 ≤ b.toNat ∧ b.toNat ≤ 57 := by simp [isD]
/-- the value of a digit, of a row of digits -/
def dv (b : UInt8) : Nat := b.toNat - 48
def val (l : List UInt8) : Nat := l.foldl (fun n b => n * 10 + dv b) 0
def AllD (l : List UInt8) : Prop := ∀ b ∈ l, isD b = true
theorem AllD.left {l m : List UInt8} (h : AllD (l ++ m)) : AllD l := fun b hb => h b (by simp [hb])
theorem AllD.right {l m : List UInt8} (h : AllD (l ++ m)) : AllD m := fun b hb => h b (by simp [hb])
theorem AllD.append {l m : List UInt8} (h : AllD l) (g : AllD m) : AllD (l ++ m) := fun b hb => (List.mem_append.1 hb).elim (h b) (g b)
theorem AllD.tail {b : UInt8} {l : List UInt8} (h : AllD (b :: l)) : AllD l := fun c hc => h c (by simp [hc])
theorem AllD.nil : AllD [] := fun b hb => by cases hb
theorem AllD.one {b : UInt8} (h : isD b = true) : AllD [b] := fun c hc => by simp only [List.mem_singleton] at hc; subst hc; exact h
theorem dv_lt {b : UInt8} (h : isD b = true) : dv b < 10 := by have := (isD_iff b).1 h; unfold dv; omega
theorem dv_of (b : UInt8) (h : isD b = true) : UInt8.ofNat (48 + dv b) = b := by
  have := (isD_iff b).1 h
  unfold dv
  rw [show 48 + (b.toNat - 48) = b.toNat by omega]
  simp
theorem dv_inj {a b : UInt8} (ha : isD a = true) (hb : isD b = true) (h : dv a = dv b) : a = b := by rw [← dv_of a ha, ← dv_of b hb, h]
theorem dig_toNat {d : Nat} (h : d < 10) : (UInt8.ofNat (48 + d)).toNat = 48 + d := by rw [UInt8.toNat_ofNat']; omega
theorem dig_isD {d : Nat} (h : d < 10) : isD (UInt8.ofNat (48 + d)) = true := by rw [isD_iff, dig_toNat h]; omega
theorem dig_dv {d : Nat} (h : d < 10) : dv (UInt8.ofNat (48 + d)) = d := by unfold dv; rw [dig_toNat h]; omega
theorem val_nil : val [] = 0 := rfl
theorem val_snoc (l : List UInt8) (b : UInt8) : val (l ++ [b]) = val l * 10 + dv b := by simp [val]
theorem val_one (b : UInt8) : val [b] = dv b := by simp [val]
theorem foldl_val (l : List UInt8) (n : Nat) : l.foldl (fun n b => n * 10 + dv b) n = n * 10 ^ l.length + val l := by
  induction l generalizing n with
  | nil => simp [val]
  | cons b l ih =>
    simp only [List.foldl_cons, val, List.length_cons]
    rw [ih, ih (0 * 10 + dv b), Nat.pow_succ]
    have : (n * 10 + dv b) * 10 ^ l.length = n * (10 ^ l.length * 10) + dv b * 10 ^ l.length := by
      rw [Nat.add_mul, Nat.mul_assoc, Nat.mul_comm 10]
    rw [this]
    simp [Nat.add_assoc]
theorem val_append (l m : List UInt8) : val (l ++ m) = val l * 10 ^ m.length + val m := by
  show List.foldl _ 0 (l ++ m) = _
  rw [List.foldl_append, foldl_val]; rfl
theorem val_cons (b : UInt8) (l : List UInt8) : val (b :: l) = dv b * 10 ^ l.length + val l := by
  have := val_append [b] l
  rw [val_one] at this
  exact this
theorem val_lt {l : List UInt8} (h : AllD l) : val l < 10 ^ l.length := by
  induction l with
  | nil => simp [val]
  | cons b l ih =>
    have h1 := dv_lt (h b (by simp))
    have h2 := ih h.tail
    rw [val_cons, List.length_cons, Nat.pow_succ]
    have : dv b * 10 ^ l.length ≤ 9 * 10 ^ l.length := Nat.mul_le_mul_right _ (by omega)
    omega
/-- the digits of a value -/
def digs (n : Nat) : List UInt8 := Lib.decDigits n
theorem digs_small {n : Nat} (h : n < 10) : digs n = [UInt8.ofNat (48 + n)] := Lib.decDigits_one h
theorem digs_big {n : Nat} (h : ¬ n < 10) : digs n = digs (n / 10) ++ [UInt8.ofNat (48 + n % 10)] := by
  unfold digs
  conv => lhs; rw [Lib.decDigits]
  rw [dif_neg h]
theorem digs_all (n : Nat) : AllD (digs n) := by
  induction n using Nat.strongRecOn with
  | _ n ih =>
    by_cases h : n < 10
    · rw [digs_small h]; exact AllD.one (dig_isD h)
    · rw [digs_big h]; exact (ih _ (by omega)).append (AllD.one (dig_isD (Nat.mod_lt _ (by omega))))
theorem digs_ne (n : Nat) : digs n ≠ [] := by
  by_cases h : n < 10
  · rw [digs_small h]; simp
  · rw [digs_big h]; simp
theorem val_digs (n : Nat) : val (digs n) = n := by
  induction n using Nat.strongRecOn with
  | _ n ih =>
    by_cases h : n < 10
    · rw [digs_small h, val_one, dig_dv h]
    · rw [digs_big h, val_snoc, ih _ (by omega), dig_dv (Nat.mod_lt _ (by omega))]; omega
theorem digs_inj {a b : Nat} (h : digs a = digs b) : a = b := by rw [← val_digs a, ← val_digs b, h]
theorem digs_len_pos (n : Nat) : 1 ≤ (digs n).length := by
  rcases Nat.eq_zero_or_pos (digs n).length with h | h
  · exact absurd (List.eq_nil_of_length_eq_zero h) (digs_ne n)
  · exact h
/-- a row of digits without needless zeros -/
structure Norm (l : List UInt8) : Prop where
  ne : l ≠ []
  all : AllD l
  lead : 1 < l.length → l.head? ≠ some 48
theorem Norm.head_pos {b : UInt8} {l : List UInt8} (h : Norm (b :: l)) (hl : l ≠ []) : 1 ≤ dv b := by
  have h1 := h.lead (by have := List.length_pos_iff.2 hl; simp; omega)
  have h2 := (isD_iff b).1 (h.all b (by simp))
  unfold dv
  rcases Nat.lt_or_ge b.toNat 49 with h3 | h3
  · exfalso
    apply h1
    have : b = 48 := by
      apply UInt8.toNat_inj.1
      show b.toNat = 48
      omega
    rw [this]; rfl
  · omega
theorem Norm.le {b : UInt8} {l : List UInt8} (h : Norm (b :: l)) (hl : l ≠ []) : 10 ^ l.length ≤ val (b :: l) := by
  rw [val_cons]
  have := h.head_pos hl
  have : 1 * 10 ^ l.length ≤ dv b * 10 ^ l.length := Nat.mul_le_mul_right _ this
  omega
theorem Norm.init {l : List UInt8} {b : UInt8} (h : Norm (l ++ [b])) (hl : l ≠ []) : Norm l := by
  refine ⟨hl, h.all.left, fun h1 => ?_⟩
  cases l with
  | nil => exact absurd rfl hl
  | cons c l => exact h.lead (by simp)
/-- such a row is the digits of its value -/
theorem digs_val : ∀ (n : Nat) (l : List UInt8), l.length = n → Norm l → digs (val l) = l := by
  intro n
  induction n with
  | zero => intro l hl h; exact absurd (List.eq_nil_of_length_eq_zero hl) h.ne
  | succ n ih =>
    intro l hl h
    obtain ⟨m, b, rfl⟩ : ∃ m b, l = m ++ [b] := ⟨l.dropLast, l.getLast h.ne, (List.dropLast_concat_getLast h.ne).symm⟩
    have hb := h.all b (by simp)
    by_cases hm : m = []
    · subst hm
      rw [List.nil_append, val_one, digs_small (dv_lt hb), dv_of b hb]
    · have e := ih m (by simpa using hl) (h.init hm)
      have hp : 1 ≤ val m := by
        cases m with
        | nil => exact absurd rfl hm
        | cons c m =>
          by_cases hm' : m = []
          · subst hm'
            have := h.head_pos (l := [b]) (by simp)
            rw [val_one]; exact this
          · have h2 := (h.init hm).le hm'
            have : 1 ≤ 10 ^ m.length := Nat.pow_pos (by omega)
            omega
      have hd := dv_lt hb
      rw [val_snoc, digs_big (by omega), show (val m * 10 + dv b) / 10 = val m by omega, show (val m * 10 + dv b) % 10 = dv b by omega, e, dv_of b hb]
theorem digs_norm (n : Nat) : Norm (digs n) := by
  refine ⟨digs_ne n, digs_all n, ?_⟩
  induction n using Nat.strongRecOn with
  | _ n ih =>
    intro h1 h2
    by_cases h : n < 10
    · rw [digs_small h] at h1; simp at h1
    · rw [digs_big h] at h2
      have hne := digs_ne (n / 10)
      have h3 : (digs (n / 10)).head? = some 48 := by
        cases e : digs (n / 10) with
        | nil => exact absurd e hne
        | cons c r => rw [e] at h2; simpa using h2
      by_cases h4 : 1 < (digs (n / 10)).length
      · exact ih _ (by omega) h4 h3
      · have h5 : (digs (n / 10)).length = 1 := by have := digs_len_pos (n / 10); omega
        by_cases h6 : n / 10 < 10
        · rw [digs_small h6] at h3
          simp only [List.head?_cons, Option.some.injEq] at h3
          have := congrArg UInt8.toNat h3
          rw [dig_toNat h6] at this
          have h48 : (48 : UInt8).toNat = 48 := rfl
          omega
        · rw [digs_big h6] at h5
          exact absurd (by simpa using h5) (digs_ne (n / 10 / 10))
theorem norm_iff {l : List UInt8} : Norm l ↔ ∃ n, l = digs n := ⟨fun h => ⟨val l, (digs_val _ l rfl h).symm⟩, fun ⟨n, h⟩ => h ▸ digs_norm n⟩
theorem digs_lt (n : Nat) : n < 10 ^ (digs n).length := by have := val_lt (digs_all n); rwa [val_digs] at this
theorem digs_len_le {n k : Nat} (hk : 1 ≤ k) : (digs n).length ≤ k ↔ n < 10 ^ k := by
  constructor
  · intro h
    exact Nat.lt_of_lt_of_le (digs_lt n) (Nat.pow_le_pow_right (by omega) h)
  · intro h
    rcases Nat.lt_or_ge k (digs n).length with h1 | h1
    · exfalso
      cases e : digs n with
      | nil => exact absurd e (digs_ne n)
      | cons b l =>
        have hn := digs_norm n
        rw [e] at hn h1
        have hl : l ≠ [] := by intro h2; subst h2; simp at h1; omega
        have h3 := hn.le hl
        rw [← e, val_digs] at h3
        simp only [List.length_cons] at h1
        have : 10 ^ k ≤ 10 ^ l.length := Nat.pow_le_pow_right (by omega) (by omega)
        omega
    · exact h1
/-- needless zeros struck -/
def trim : List UInt8 → List UInt8
  | [] => []
  | [b] => [b]
  | b :: c :: r => if b = 48 then trim (c :: r) else b :: c :: r
theorem trim_digs : ∀ (l : List UInt8), l ≠ [] → AllD l → trim l = digs (val l)
  | [], h, _ => absurd rfl h
  | [b], _, h => by
    have hb := h b (by simp)
    rw [trim, val_one, digs_small (dv_lt hb), dv_of b hb]
  | b :: c :: r, _, h => by
    rw [trim]
    by_cases e : b = 48
    · rw [if_pos e, trim_digs (c :: r) (by simp) h.tail, val_cons b]
      have : dv b = 0 := by rw [e]; rfl
      rw [this]; simp
    · rw [if_neg e]
      exact (digs_val _ _ rfl ⟨by simp, h, fun _ => by simpa using e⟩).symm
/-- the digit at a place from the right -/
def place (l : List UInt8) (p : Nat) : Nat := val l / 10 ^ p % 10
theorem place_out {l : List UInt8} {p : Nat} (h : AllD l) (hp : l.length ≤ p) : place l p = 0 := by
  unfold place
  have : val l < 10 ^ p := Nat.lt_of_lt_of_le (val_lt h) (Nat.pow_le_pow_right (by omega) hp)
  rw [Nat.div_eq_of_lt this]
theorem place_in {l : List UInt8} {p : Nat} (h : AllD l) (hp : p < l.length) : place l p = dv (l[l.length - 1 - p]) := by
  have e : l = l.take (l.length - 1 - p) ++ (l[l.length - 1 - p] :: l.drop (l.length - p)) := by
    have h1 := (List.take_append_drop (l.length - 1 - p) l).symm
    have h2 : l.drop (l.length - 1 - p) = l[l.length - 1 - p] :: l.drop (l.length - p) := by
      rw [List.drop_eq_getElem_cons (by omega)]
      congr 2; omega
    rw [h2] at h1; exact h1
  have hd := dv_lt (h _ (List.getElem_mem (show l.length - 1 - p < l.length by omega)))
  have hr : AllD (l.drop (l.length - p)) := fun b hb => h b (List.mem_of_mem_drop hb)
  have hv := val_lt hr
  have hlen : (l.drop (l.length - p)).length = p := by rw [List.length_drop]; omega
  unfold place
  conv => lhs; rw [e]
  rw [val_append, val_cons, List.length_cons, hlen]
  rw [hlen] at hv
  generalize val (l.drop (l.length - p)) = r at hv
  generalize dv l[l.length - 1 - p] = d at hd
  generalize val (l.take (l.length - 1 - p)) = t
  rw [Nat.pow_succ]
  have e1 : t * (10 ^ p * 10) + (d * 10 ^ p + r) = (t * 10 + d) * 10 ^ p + r := by
    rw [Nat.add_mul, Nat.mul_assoc, Nat.mul_comm 10]; omega
  rw [e1, Nat.mul_comm, Nat.mul_add_div (Nat.pow_pos (by omega)), Nat.div_eq_of_lt hv]
  omega
/-- the value of digits, the last one first -/
def valR : List Nat → Nat
  | [] => 0
  | d :: r => d + 10 * valR r
theorem valR_snoc (l : List Nat) (d : Nat) : valR (l ++ [d]) = valR l + d * 10 ^ l.length := by
  induction l with
  | nil => simp [valR]
  | cons c l ih =>
    simp only [List.cons_append, valR, ih, List.length_cons, Nat.pow_succ]
    rw [Nat.mul_add, Nat.add_assoc]
    congr 2
    rw [← Nat.mul_assoc, Nat.mul_comm 10, Nat.mul_assoc, Nat.mul_comm 10]
theorem val_reverse {l : List Nat} (h : ∀ d ∈ l, d < 10) : val ((l.map fun d => UInt8.ofNat (48 + d)).reverse) = valR l := by
  induction l with
  | nil => rfl
  | cons d l ih =>
    simp only [List.map_cons, List.reverse_cons, val_snoc, valR]
    rw [ih (fun c hc => h c (by simp [hc])), dig_dv (h d (by simp))]
    omega
/-- rows of one length are ordered as their values -/
theorem less_val : ∀ (l m : List UInt8), AllD l → AllD m → l.length = m.length → Op.bytesLess l m = decide (val l < val m)
  | [], [], _, _, _ => by simp [Op.bytesLess, val]
  | [], _ :: _, _, _, h => by simp at h
  | _ :: _, [], _, _, h => by simp at h
  | a :: l, b :: m, ha, hb, h => by
    have hlen : l.length = m.length := by simpa using h
    have e := less_val l m ha.tail hb.tail hlen
    have h1 := val_lt ha.tail
    have h2 := val_lt hb.tail
    have d1 := (isD_iff a).1 (ha a (by simp))
    have d2 := (isD_iff b).1 (hb b (by simp))
    rw [Op.bytesLess, e, val_cons, val_cons, hlen]
    rw [hlen] at h1
    generalize 10 ^ m.length = k at h1 h2
    have hk : ∀ x y : Nat, x < y → x * k + k ≤ y * k := fun x y hxy => by
      have : (x + 1) * k ≤ y * k := Nat.mul_le_mul_right k hxy
      rw [Nat.add_mul, Nat.one_mul] at this; exact this
    rcases Nat.lt_trichotomy a.toNat b.toNat with c | c | c
    · have c1 : a < b := UInt8.lt_iff_toNat_lt.2 c
      have c2 : dv a < dv b := by unfold dv; omega
      have := hk _ _ c2
      simp only [c1, decide_true, Bool.true_or]
      exact (decide_eq_true (by omega)).symm
    · have c1 : a = b := UInt8.toNat_inj.1 c
      subst c1
      simp
    · have c1 : ¬ a < b := fun h => by have := UInt8.lt_iff_toNat_lt.1 h; omega
      have c2 : ¬ a = b := fun h => by subst h; omega
      have c3 : dv b < dv a := by unfold dv; omega
      have := hk _ _ c3
      rw [show decide (a < b) = false from decide_eq_false c1, show (a == b) = false from beq_eq_false_iff_ne.2 c2]
      simp only [Bool.false_and, Bool.or_false]
      exact (decide_eq_false (by omega)).symm
/-- rows without needless zeros: the shorter one is less -/
theorem short_less {l m : List UInt8} (hl : Norm l) (hm : Norm m) (h : l.length < m.length) : val l < val m := by
  cases m with
  | nil => simp at h
  | cons b m =>
    have h1 := val_lt hl.all
    by_cases hm' : m = []
    · subst hm'
      simp only [List.length_cons, List.length_nil] at h
      exact absurd (List.eq_nil_of_length_eq_zero (by omega)) hl.ne
    · have h2 := hm.le hm'
      have : 10 ^ l.length ≤ 10 ^ m.length := Nat.pow_le_pow_right (by omega) (by simp at h; omega)
      omega
/-- less, as the reference decides it -/
def lessL (l m : List UInt8) : Bool := if l.length = m.length then Op.bytesLess l m else decide (l.length < m.length)
theorem lessL_val {l m : List UInt8} (hl : Norm l) (hm : Norm m) : lessL l m = decide (val l < val m) := by
  unfold lessL
  by_cases e : l.length = m.length
  · rw [if_pos e, less_val l m hl.all hm.all e]
  · rw [if_neg e]
    rcases Nat.lt_or_gt_of_ne e with h | h
    · rw [decide_eq_true h, decide_eq_true (short_less hl hm h)]
    · have := short_less hm hl h
      rw [decide_eq_false (by omega), decide_eq_false (by omega)]
end Go.Proofs.YtfkdhkbegfbkaaaDoor.Dec
