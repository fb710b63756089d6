/-
  Rational numbers in lowest terms, as a sign and two natural numbers: pure facts.
-/
import Derived.Test.YtbcoblpnihdhgaaDoorNatA
namespace Go.Proofs.YtbcoblpnihdhgaaDoor.Rt
structure Q where
  neg : Bool
  num : Nat
  den : Nat
def sg (neg : Bool) (n : Nat) : Int := if neg then -(n : Int) else n
def Q.z (a : Q) : Int := sg a.neg a.num
def Q.ok (a : Q) : Prop := 0 < a.den ∧ Nat.gcd a.num a.den = 1 ∧ (a.num = 0 → a.neg = false)
def zeroQ : Q := ⟨false, 0, 1⟩
def low (neg : Bool) (n d : Nat) : Q := if n = 0 then zeroQ else ⟨neg, n / Nat.gcd n d, d / Nat.gcd n d⟩
def lowI (z : Int) (d : Nat) : Q := low (decide (z < 0)) z.natAbs d
theorem sg_natAbs (neg : Bool) (n : Nat) : (sg neg n).natAbs = n := by
  unfold sg; split <;> omega
theorem sg_abs (z : Int) : sg (decide (z < 0)) z.natAbs = z := by
  unfold sg; split
  · next h => have := of_decide_eq_true h; omega
  · next h => have : ¬ z < 0 := fun h' => h (decide_eq_true h'); omega
theorem sg_lt {neg : Bool} {n : Nat} (h : n = 0 → neg = false) : decide (sg neg n < 0) = neg := by
  unfold sg; cases neg with
  | false => exact decide_eq_false (by simp)
  | true => exact decide_eq_true (by have : n ≠ 0 := fun e => by cases h e
                                     simp; omega)
theorem sg_mul (neg : Bool) (n k : Nat) : sg neg (n * k) = sg neg n * k := by
  unfold sg; split <;> simp [Int.neg_mul]
theorem zeroQ_ok : zeroQ.ok := ⟨by decide, by decide, fun _ => rfl⟩
theorem low_zero (neg : Bool) (d : Nat) : low neg 0 d = zeroQ := rfl
theorem low_pos {neg : Bool} {n d : Nat} (h : n ≠ 0) : low neg n d = ⟨neg, n / Nat.gcd n d, d / Nat.gcd n d⟩ := if_neg h
theorem low_ok {neg : Bool} {n d : Nat} (hd : 0 < d) : (low neg n d).ok := by
  by_cases h : n = 0
  · subst h; exact zeroQ_ok
  · rw [low_pos h]
    have hg : 0 < Nat.gcd n d := Nat.gcd_pos_of_pos_right _ hd
    refine ⟨Nat.div_pos (Nat.le_of_dvd hd (Nat.gcd_dvd_right _ _)) hg, ?_, ?_⟩
    · exact Nat.gcd_div_gcd_div_gcd_of_pos_right hd
    · intro h0
      have := Nat.div_mul_cancel (Nat.gcd_dvd_left n d)
      simp only at h0
      rw [h0] at this; omega
theorem low_val {neg : Bool} {n d : Nat} (_hd : 0 < d) : (low neg n d).z * d = sg neg n * (low neg n d).den := by
  by_cases h : n = 0
  · subst h; rw [low_zero]; unfold Q.z sg zeroQ; cases neg <;> simp
  · rw [low_pos h]
    show sg neg (n / Nat.gcd n d) * (d : Int) = sg neg n * ((d / Nat.gcd n d : Nat) : Int)
    rw [← sg_mul, ← sg_mul]
    congr 1
    obtain ⟨p, hp⟩ := Nat.gcd_dvd_left n d
    obtain ⟨q, hq⟩ := Nat.gcd_dvd_right n d
    have hg : 0 < Nat.gcd n d := Nat.gcd_pos_of_pos_right _ _hd
    generalize Nat.gcd n d = g at *
    subst hp hq
    rw [Nat.mul_div_cancel_left _ hg, Nat.mul_div_cancel_left _ hg]
    grind
theorem low_le {neg : Bool} {n d : Nat} (hd : 0 < d) : (low neg n d).num ≤ n ∧ (low neg n d).den ≤ d := by
  by_cases h : n = 0
  · subst h; rw [low_zero]; exact ⟨Nat.le_refl _, hd⟩
  · rw [low_pos h]; exact ⟨Nat.div_le_self _ _, Nat.div_le_self _ _⟩
theorem coprime_eq {p q p' q' : Nat} (h : Nat.gcd p q = 1) (h' : Nat.gcd p' q' = 1) (hq : 0 < q) (hq' : 0 < q') (e : p * q' = p' * q) : p = p' ∧ q = q' := by
  have d1 : q ∣ q' := (Nat.Coprime.dvd_of_dvd_mul_left (Nat.coprime_comm.1 h) (by rw [e]; exact Nat.dvd_mul_left _ _))
  have d2 : q' ∣ q := (Nat.Coprime.dvd_of_dvd_mul_left (Nat.coprime_comm.1 h') (by rw [← e]; exact Nat.dvd_mul_left _ _))
  have hqq : q = q' := Nat.dvd_antisymm d1 d2
  subst hqq
  exact ⟨Nat.eq_of_mul_eq_mul_right hq e, rfl⟩
theorem Q.eq_of {a b : Q} (h1 : a.neg = b.neg) (h2 : a.num = b.num) (h3 : a.den = b.den) : a = b := by
  cases a; cases b; simp_all
theorem Q.z_neg {a : Q} (ha : a.ok) : decide (a.z < 0) = a.neg := sg_lt ha.2.2
theorem ok_eq {a b : Q} (ha : a.ok) (hb : b.ok) (h : a.z * b.den = b.z * a.den) : a = b := by
  have hn : a.num * b.den = b.num * a.den := by
    have := congrArg Int.natAbs h
    rw [Int.natAbs_mul, Int.natAbs_mul] at this
    simpa [Q.z, sg_natAbs] using this
  obtain ⟨e1, e2⟩ := coprime_eq ha.2.1 hb.2.1 ha.1 hb.1 hn
  refine Q.eq_of ?_ e1 e2
  rw [← Q.z_neg ha, ← Q.z_neg hb]
  have hz : a.z = b.z := by
    rw [e2] at h
    exact Int.eq_of_mul_eq_mul_right (by have := hb.1; omega) h
  rw [hz]
theorem low_self {a : Q} (ha : a.ok) : low a.neg a.num a.den = a :=
  ok_eq (low_ok ha.1) ha (low_val ha.1)
theorem lowI_ok {z : Int} {d : Nat} (hd : 0 < d) : (lowI z d).ok := low_ok hd
theorem lowI_val {z : Int} {d : Nat} (hd : 0 < d) : (lowI z d).z * d = z * (lowI z d).den := by
  have := low_val (neg := decide (z < 0)) (n := z.natAbs) hd
  rw [sg_abs] at this; exact this
theorem cancel {x y : Int} {k : Nat} (hk : 0 < k) (h : x * k = y * k) : x = y := Int.eq_of_mul_eq_mul_right (by omega) h
theorem lowI_eq {z z' : Int} {d d' : Nat} (hd : 0 < d) (hd' : 0 < d') (h : z * d' = z' * d) : lowI z d = lowI z' d' := by
  have v := lowI_val (z := z) hd
  have v' := lowI_val (z := z') hd'
  refine ok_eq (lowI_ok hd) (lowI_ok hd') ?_
  refine cancel hd (cancel hd' ?_)
  generalize (lowI z d).z = x at *
  generalize ((lowI z d).den : Int) = m at *
  generalize (lowI z' d').z = x' at *
  generalize ((lowI z' d').den : Int) = m' at *
  grind
theorem low_lowI {neg : Bool} {n d : Nat} (hd : 0 < d) : low neg n d = lowI (sg neg n) d :=
  ok_eq (low_ok hd) (lowI_ok hd) (by
    have a := low_val (neg := neg) (n := n) hd
    have b := lowI_val (z := sg neg n) hd
    refine cancel hd ?_
    generalize (low neg n d).z = x at *
    generalize ((low neg n d).den : Int) = m at *
    generalize (lowI (sg neg n) d).z = x' at *
    generalize ((lowI (sg neg n) d).den : Int) = m' at *
    grind)
theorem lowI_self {a : Q} (ha : a.ok) : lowI a.z a.den = a := by
  exact (low_lowI (neg := a.neg) (n := a.num) ha.1).symm.trans (low_self ha)
def addQ (a b : Q) : Q :=
  if a.neg = b.neg then low a.neg (a.num * b.den + b.num * a.den) (a.den * b.den)
  else if b.num * a.den ≤ a.num * b.den then low a.neg (a.num * b.den - b.num * a.den) (a.den * b.den)
  else low b.neg (b.num * a.den - a.num * b.den) (a.den * b.den)
def negQ (a : Q) : Q := if a.num = 0 then a else ⟨!a.neg, a.num, a.den⟩
def subQ (a b : Q) : Q := addQ a (negQ b)
def mulQ (a b : Q) : Q := low (a.neg != b.neg) (a.num * b.num) (a.den * b.den)
def invQ (a : Q) : Q := ⟨a.neg, a.den, a.num⟩
def divQ (a b : Q) : Q := mulQ a (invQ b)
def sgnI (z : Int) : Int := if z < 0 then -1 else if z = 0 then 0 else 1
def cmpQ (a b : Q) : Int := sgnI (a.z * b.den - b.z * a.den)
theorem addQ_lowI {a b : Q} (ha : 0 < a.den) (hb : 0 < b.den) : addQ a b = lowI (a.z * b.den + b.z * a.den) (a.den * b.den) := by
  have hd := Nat.mul_pos ha hb
  have e1 : a.z * b.den = sg a.neg (a.num * b.den) := (sg_mul _ _ _).symm
  have e2 : b.z * a.den = sg b.neg (b.num * a.den) := (sg_mul _ _ _).symm
  rw [e1, e2]
  unfold addQ
  generalize a.num * b.den = p
  generalize b.num * a.den = q
  generalize a.den * b.den = d at *
  cases a.neg <;> cases b.neg <;> simp only [if_true, reduceCtorEq, if_false]
  · rw [low_lowI hd]; congr 1
  · split
    · rw [low_lowI hd]; congr 1; unfold sg; simp <;> omega
    · rw [low_lowI hd]; congr 1; unfold sg; simp <;> omega
  · split
    · rw [low_lowI hd]; congr 1; unfold sg; simp <;> omega
    · rw [low_lowI hd]; congr 1; unfold sg; simp <;> omega
  · rw [low_lowI hd]; congr 1; unfold sg; simp <;> omega
theorem mulQ_lowI {a b : Q} (ha : 0 < a.den) (hb : 0 < b.den) : mulQ a b = lowI (a.z * b.z) (a.den * b.den) := by
  have hd := Nat.mul_pos ha hb
  unfold mulQ; rw [low_lowI hd]; congr 1
  unfold Q.z sg
  cases a.neg <;> cases b.neg <;> simp <;> grind
theorem negQ_z (a : Q) : (negQ a).z = - a.z := by
  unfold negQ; split
  · next h => unfold Q.z sg; rw [h]; split <;> simp
  · unfold Q.z sg; cases a.neg <;> simp
theorem negQ_den (a : Q) : (negQ a).den = a.den := by unfold negQ; split <;> rfl
theorem negQ_ok {a : Q} (ha : a.ok) : (negQ a).ok := by
  unfold negQ; split
  · exact ha
  · next h => exact ⟨ha.1, ha.2.1, fun e => absurd e h⟩
theorem addQ_ok {a b : Q} (ha : 0 < a.den) (hb : 0 < b.den) : (addQ a b).ok := by rw [addQ_lowI ha hb]; exact lowI_ok (Nat.mul_pos ha hb)
theorem mulQ_ok {a b : Q} (ha : 0 < a.den) (hb : 0 < b.den) : (mulQ a b).ok := by rw [mulQ_lowI ha hb]; exact lowI_ok (Nat.mul_pos ha hb)
theorem addQ_val {a b : Q} (ha : 0 < a.den) (hb : 0 < b.den) : (addQ a b).z * (a.den * b.den) = (a.z * b.den + b.z * a.den) * (addQ a b).den := by
  have := lowI_val (z := a.z * b.den + b.z * a.den) (Nat.mul_pos ha hb)
  rw [← addQ_lowI ha hb] at this; simpa using this
theorem mulQ_val {a b : Q} (ha : 0 < a.den) (hb : 0 < b.den) : (mulQ a b).z * (a.den * b.den) = a.z * b.z * (mulQ a b).den := by
  have := lowI_val (z := a.z * b.z) (Nat.mul_pos ha hb)
  rw [← mulQ_lowI ha hb] at this; simpa using this
theorem addQ_comm {a b : Q} (ha : 0 < a.den) (hb : 0 < b.den) : addQ a b = addQ b a := by
  rw [addQ_lowI ha hb, addQ_lowI hb ha, Nat.mul_comm, Int.add_comm]
theorem mulQ_comm {a b : Q} (ha : 0 < a.den) (hb : 0 < b.den) : mulQ a b = mulQ b a := by
  rw [mulQ_lowI ha hb, mulQ_lowI hb ha, Nat.mul_comm, Int.mul_comm]
theorem addQ_assoc {a b c : Q} (ha : 0 < a.den) (hb : 0 < b.den) (hc : 0 < c.den) : addQ (addQ a b) c = addQ a (addQ b c) := by
  have hx := (addQ_ok ha hb).1
  have hy := (addQ_ok hb hc).1
  rw [addQ_lowI hx hc, addQ_lowI ha hy]
  have v := addQ_val ha hb
  have v' := addQ_val hb hc
  refine lowI_eq (Nat.mul_pos hx hc) (Nat.mul_pos ha hy) (cancel (Nat.mul_pos ha (Nat.mul_pos hb hc)) ?_)
  generalize (addQ a b).z = x at *
  generalize (addQ a b).den = m at *
  generalize (addQ b c).z = y at *
  generalize (addQ b c).den = n at *
  simp only [Int.natCast_mul] at *
  grind
theorem mulQ_assoc {a b c : Q} (ha : 0 < a.den) (hb : 0 < b.den) (hc : 0 < c.den) : mulQ (mulQ a b) c = mulQ a (mulQ b c) := by
  have hx := (mulQ_ok ha hb).1
  have hy := (mulQ_ok hb hc).1
  rw [mulQ_lowI hx hc, mulQ_lowI ha hy]
  have v := mulQ_val ha hb
  have v' := mulQ_val hb hc
  refine lowI_eq (Nat.mul_pos hx hc) (Nat.mul_pos ha hy) (cancel (Nat.mul_pos ha (Nat.mul_pos hb hc)) ?_)
  generalize (mulQ a b).z = x at *
  generalize (mulQ a b).den = m at *
  generalize (mulQ b c).z = y at *
  generalize (mulQ b c).den = n at *
  simp only [Int.natCast_mul] at *
  grind
theorem mulQ_addQ {a b c : Q} (ha : 0 < a.den) (hb : 0 < b.den) (hc : 0 < c.den) : mulQ a (addQ b c) = addQ (mulQ a b) (mulQ a c) := by
  have hx := (addQ_ok hb hc).1
  have hy := (mulQ_ok ha hb).1
  have hw := (mulQ_ok ha hc).1
  rw [mulQ_lowI ha hx, addQ_lowI hy hw]
  have v := addQ_val hb hc
  have v' := mulQ_val ha hb
  have v'' := mulQ_val ha hc
  refine lowI_eq (Nat.mul_pos ha hx) (Nat.mul_pos hy hw) (cancel (Nat.mul_pos ha (Nat.mul_pos (Nat.mul_pos ha hb) hc)) ?_)
  generalize (addQ b c).z = x at *
  generalize (addQ b c).den = m at *
  generalize (mulQ a b).z = y at *
  generalize (mulQ a b).den = n at *
  generalize (mulQ a c).z = u at *
  generalize (mulQ a c).den = k at *
  simp only [Int.natCast_mul] at *
  grind
theorem subQ_lowI {a b : Q} (ha : 0 < a.den) (hb : 0 < b.den) : subQ a b = lowI (a.z * b.den - b.z * a.den) (a.den * b.den) := by
  unfold subQ
  rw [addQ_lowI ha (by rw [negQ_den]; exact hb), negQ_den, negQ_z, Int.neg_mul, ← Int.sub_eq_add_neg]
theorem subQ_ok {a b : Q} (ha : 0 < a.den) (hb : 0 < b.den) : (subQ a b).ok := by rw [subQ_lowI ha hb]; exact lowI_ok (Nat.mul_pos ha hb)
theorem subQ_val {a b : Q} (ha : 0 < a.den) (hb : 0 < b.den) : (subQ a b).z * (a.den * b.den) = (a.z * b.den - b.z * a.den) * (subQ a b).den := by
  have := lowI_val (z := a.z * b.den - b.z * a.den) (Nat.mul_pos ha hb)
  rw [← subQ_lowI ha hb] at this; simpa using this
theorem lowI_zero (d : Nat) : lowI 0 d = zeroQ := rfl
theorem zero_iff {a : Q} (ha : a.ok) : a = zeroQ ↔ a.num = 0 := by
  constructor
  · intro h; rw [h]; rfl
  · intro h
    have := low_self ha
    rw [h, low_zero] at this; exact this.symm
theorem z_zero {a : Q} : a.z = 0 ↔ a.num = 0 := by
  unfold Q.z sg; split <;> omega
theorem sub_self {a : Q} (ha : 0 < a.den) : subQ a a = zeroQ := by
  rw [subQ_lowI ha ha, Int.sub_self, lowI_zero]
theorem sub_add {a b : Q} (ha : a.ok) (hb : 0 < b.den) : subQ (addQ a b) b = a := by
  have hx := (addQ_ok ha.1 hb).1
  rw [subQ_lowI hx hb]
  have v := addQ_val ha.1 hb
  refine Eq.trans (lowI_eq (Nat.mul_pos hx hb) ha.1 (cancel (Nat.mul_pos ha.1 hb) ?_)) (lowI_self ha)
  generalize (addQ a b).z = x at *
  generalize (addQ a b).den = m at *
  simp only [Int.natCast_mul] at *
  grind
theorem mul_zero {a b : Q} (h : b.num = 0) : mulQ a b = zeroQ := by unfold mulQ; rw [h, Nat.mul_zero, low_zero]
theorem invQ_z {b : Q} : (invQ b).z * b.num = b.z * b.den := by
  unfold invQ Q.z sg; cases b.neg <;> simp <;> grind
theorem z_sq {b : Q} : b.z * b.z = b.num * b.num := by
  unfold Q.z sg; cases b.neg <;> simp <;> grind
theorem div_mul {a b : Q} (ha : a.ok) (hb : 0 < b.den) (h : b.num ≠ 0) : divQ (mulQ a b) b = a := by
  have hx := (mulQ_ok ha.1 hb).1
  have hn : 0 < b.num := by omega
  unfold divQ
  rw [mulQ_lowI hx (b := invQ b) hn]
  have v := mulQ_val ha.1 hb
  have i := invQ_z (b := b)
  have q := z_sq (b := b)
  show lowI _ ((mulQ a b).den * b.num) = a
  refine Eq.trans (lowI_eq (Nat.mul_pos hx hn) ha.1 (cancel (Nat.mul_pos (Nat.mul_pos ha.1 hb) hn) ?_)) (lowI_self ha)
  generalize (mulQ a b).z = x at *
  generalize (mulQ a b).den = m at *
  generalize (invQ b).z = y at *
  simp only [Int.natCast_mul] at *
  grind
theorem sgnI_neg (z : Int) : sgnI (-z) = - sgnI z := by
  unfold sgnI; split <;> split <;> (try split) <;> (try split) <;> omega
theorem sgnI_scale {x y : Int} {k m : Nat} (hk : 0 < k) (hm : 0 < m) (h : x * k = y * m) : sgnI x = sgnI y := by
  have hk' : (0 : Int) < k := by omega
  have hm' : (0 : Int) < m := by omega
  rcases Int.lt_trichotomy x 0 with c | c | c
  · have : y * m < 0 := by rw [← h]; exact Int.mul_neg_of_neg_of_pos c hk'
    have : y < 0 := by
      by_cases d : y < 0
      · exact d
      · have := Int.mul_nonneg (show 0 ≤ y by omega) (Int.le_of_lt hm'); omega
    simp [sgnI, c, this]
  · subst c
    have : y * m = 0 := by rw [← h]; simp
    have : y = 0 := by rcases Int.mul_eq_zero.1 this with d | d <;> omega
    rw [this]
  · have : 0 < y * m := by rw [← h]; exact Int.mul_pos c hk'
    have : 0 < y := by
      by_cases d : 0 < y
      · exact d
      · have := Int.mul_nonneg (show 0 ≤ -y by omega) (Int.le_of_lt hm'); rw [Int.neg_mul] at this; omega
    simp [sgnI, show ¬ x < 0 by omega, show ¬ x = 0 by omega, show ¬ y < 0 by omega, show ¬ y = 0 by omega]
theorem cmp_turn (a b : Q) : cmpQ b a = - cmpQ a b := by
  unfold cmpQ; rw [← sgnI_neg, Int.neg_sub]
theorem sgnI_zero {z : Int} : sgnI z = 0 ↔ z = 0 := by unfold sgnI; split <;> (try split) <;> omega
theorem sgnI_le {z : Int} : sgnI z ≤ 0 ↔ z ≤ 0 := by unfold sgnI; split <;> (try split) <;> omega
theorem sgnI_range (z : Int) : -1 ≤ sgnI z ∧ sgnI z ≤ 1 := by unfold sgnI; split <;> (try split) <;> omega
theorem cmp_zero {a b : Q} (ha : a.ok) (hb : b.ok) : cmpQ a b = 0 ↔ a = b := by
  unfold cmpQ; rw [sgnI_zero]
  constructor
  · intro h; exact ok_eq ha hb (by omega)
  · intro h; rw [h]; omega
theorem cmp_trans {a b c : Q} (ha : 0 < a.den) (hb : 0 < b.den) (hc : 0 < c.den) (h : cmpQ a b ≤ 0) (h' : cmpQ b c ≤ 0) : cmpQ a c ≤ 0 := by
  unfold cmpQ at *; rw [sgnI_le] at *
  have h1 : a.z * b.den ≤ b.z * a.den := by omega
  have h2 : b.z * c.den ≤ c.z * b.den := by omega
  have k1 := Int.mul_le_mul_of_nonneg_right h1 (show (0 : Int) ≤ c.den by omega)
  have k2 := Int.mul_le_mul_of_nonneg_right h2 (show (0 : Int) ≤ a.den by omega)
  have k3 : (a.z * c.den) * b.den ≤ (c.z * a.den) * b.den := by
    rw [show a.z * c.den * b.den = a.z * b.den * c.den by grind, show c.z * a.den * b.den = c.z * b.den * a.den by grind]
    refine Int.le_trans k1 ?_
    rw [show b.z * a.den * c.den = b.z * c.den * a.den by grind]; exact k2
  have := Int.le_of_mul_le_mul_right k3 (by omega)
  omega
theorem cmp_sub {a b : Q} (ha : 0 < a.den) (hb : 0 < b.den) : cmpQ (subQ a b) zeroQ = cmpQ a b := by
  have hx := (subQ_ok ha hb).1
  have v := subQ_val ha hb
  unfold cmpQ
  refine sgnI_scale (Nat.mul_pos ha hb) hx ?_
  show ((subQ a b).z * ((1 : Nat) : Int) - 0 * _) * _ = _
  generalize (subQ a b).z = x at *
  generalize (subQ a b).den = m at *
  simp only [Int.natCast_mul] at *
  grind
theorem cmp_add {a b c : Q} (ha : 0 < a.den) (hb : 0 < b.den) (hc : 0 < c.den) : cmpQ (addQ a c) (addQ b c) = cmpQ a b := by
  have hx := (addQ_ok ha hc).1
  have hy := (addQ_ok hb hc).1
  have v := addQ_val ha hc
  have v' := addQ_val hb hc
  unfold cmpQ
  refine sgnI_scale (k := a.den * b.den * (c.den * c.den)) (m := (addQ a c).den * (addQ b c).den * (c.den * c.den)) (Nat.mul_pos (Nat.mul_pos ha hb) (Nat.mul_pos hc hc)) (Nat.mul_pos (Nat.mul_pos hx hy) (Nat.mul_pos hc hc)) ?_
  generalize (addQ a c).z = x at *
  generalize (addQ a c).den = m at *
  generalize (addQ b c).z = y at *
  generalize (addQ b c).den = n at *
  simp only [Int.natCast_mul] at *
  grind
theorem cmp_mul {a b c : Q} (ha : 0 < a.den) (hb : 0 < b.den) (hc : 0 < c.den) (hp : c.neg = false) (h0 : c.num ≠ 0) : cmpQ (mulQ a c) (mulQ b c) = cmpQ a b := by
  have hx := (mulQ_ok ha hc).1
  have hy := (mulQ_ok hb hc).1
  have v := mulQ_val ha hc
  have v' := mulQ_val hb hc
  have hz : c.z = (c.num : Int) := by unfold Q.z sg; rw [hp]; rfl
  have hn : 0 < c.num := by omega
  rw [hz] at v v'
  unfold cmpQ
  refine sgnI_scale (k := a.den * b.den * (c.den * c.den)) (m := (mulQ a c).den * (mulQ b c).den * (c.den * c.num)) (Nat.mul_pos (Nat.mul_pos ha hb) (Nat.mul_pos hc hc)) (Nat.mul_pos (Nat.mul_pos hx hy) (Nat.mul_pos hc hn)) ?_
  generalize (mulQ a c).z = x at *
  generalize (mulQ a c).den = m at *
  generalize (mulQ b c).z = y at *
  generalize (mulQ b c).den = n at *
  simp only [Int.natCast_mul] at *
  grind
def ofQ (n d : Int) : Q := low (decide (n < 0) != decide (d < 0)) n.natAbs d.natAbs
theorem ofQ_lowI {n d : Int} (h : d ≠ 0) : ofQ n d = lowI (n * d) (d.natAbs * d.natAbs) := by
  have hd : 0 < d.natAbs := by omega
  unfold ofQ
  rw [low_lowI hd]
  refine lowI_eq hd (Nat.mul_pos hd hd) ?_
  rcases Int.natAbs_eq d with e | e <;> rcases Int.natAbs_eq n with f | f
  all_goals
    unfold sg
    by_cases c : n < 0 <;> by_cases c' : d < 0
    all_goals simp [c, c']
    all_goals first | omega | skip
    all_goals first | grind | skip
theorem ofQ_ok {n d : Int} (h : d ≠ 0) : (ofQ n d).ok := low_ok (by omega)
theorem ofQ_scale {n d k : Int} (h : d ≠ 0) (hk : k ≠ 0) : ofQ (n * k) (d * k) = ofQ n d := by
  have hdk : d * k ≠ 0 := Int.mul_ne_zero h hk
  have h1 : 0 < d.natAbs := by omega
  have h2 : 0 < (d * k).natAbs := by omega
  rw [ofQ_lowI hdk, ofQ_lowI h]
  refine lowI_eq (Nat.mul_pos h2 h2) (Nat.mul_pos h1 h1) ?_
  have q1 : ((d.natAbs : Int)) * d.natAbs = d * d := Int.natAbs_mul_self
  have q2 : (((d * k).natAbs : Int)) * (d * k).natAbs = (d * k) * (d * k) := Int.natAbs_mul_self
  rw [Int.natCast_mul, Int.natCast_mul, q1, q2]
  grind
theorem ofQ_one (n : Int) : ofQ n 1 = ⟨decide (n < 0), n.natAbs, 1⟩ := by
  have : ofQ n 1 = low (decide (n < 0)) n.natAbs 1 := by unfold ofQ; simp
  rw [this]
  exact low_self (a := ⟨decide (n < 0), n.natAbs, 1⟩) ⟨by show 0 < 1; omega, Nat.gcd_one_right _, fun e => by
    have : n = 0 := by simp only at e; omega
    subst this; rfl⟩
theorem ofQ_back {n d : Int} (h : d ≠ 0) : mulQ (ofQ n d) (ofQ d 1) = ofQ n 1 := by
  have h1 : 0 < d.natAbs := by omega
  have hx := (ofQ_ok (n := n) h).1
  have hy := (ofQ_ok (n := d) (d := 1) (by omega)).1
  have v : (ofQ n d).z * ((d.natAbs * d.natAbs : Nat) : Int) = n * d * (ofQ n d).den := by rw [ofQ_lowI h]; exact lowI_val (Nat.mul_pos h1 h1)
  have hz : (ofQ d 1).z = d := by rw [ofQ_one]; exact sg_abs d
  have hm : (ofQ d 1).den = 1 := by rw [ofQ_one]
  have hz' : (ofQ n 1).z = n := by rw [ofQ_one]; exact sg_abs n
  have hm' : (ofQ n 1).den = 1 := by rw [ofQ_one]
  rw [mulQ_lowI hx hy, hz, hm, Nat.mul_one]
  refine Eq.trans (lowI_eq hx (show 0 < (ofQ n 1).den by rw [hm']; omega) ?_) (lowI_self (ofQ_ok (by omega)))
  rw [hz', hm']
  refine cancel (Nat.mul_pos h1 h1) ?_
  have q1 : ((d.natAbs : Int)) * d.natAbs = d * d := Int.natAbs_mul_self
  rw [Int.natCast_mul, q1] at *
  generalize (ofQ n d).z = x at *
  generalize ((ofQ n d).den : Int) = m at *
  grind
/- the order by the integer parts and the reciprocals of what is left -/
theorem sgnI_parts {a b c d : Nat} (hb : 0 < b) (hd : 0 < d) :
    sgnI ((a : Int) * d - (c : Int) * b) = if a / b ≠ c / d then sgnI (((a / b : Nat) : Int) - ((c / d : Nat) : Int)) else sgnI (((a % b : Nat) : Int) * d - ((c % d : Nat) : Int) * b) := by
  have ea := Nat.div_add_mod a b
  have ec := Nat.div_add_mod c d
  have la := Nat.mod_lt a hb
  have lc := Nat.mod_lt c hd
  generalize a / b = p at *
  generalize a % b = r at *
  generalize c / d = q at *
  generalize c % d = s at *
  subst ea ec
  by_cases h : p = q
  · subst h
    simp only [ne_eq, not_true_eq_false, if_false]
    congr 1
    simp only [Int.natCast_add, Int.natCast_mul]
    grind
  · rw [if_pos h]
    have key : ((b * p + r : Nat) : Int) * d - ((d * q + s : Nat) : Int) * b = ((p : Int) - q) * (b * d) + ((r : Int) * d - (s : Int) * b) := by
      simp only [Int.natCast_add, Int.natCast_mul]; grind
    have l1 : (r : Int) * d < b * d := Int.mul_lt_mul_of_pos_right (by omega) (by omega)
    have l2 : (s : Int) * b < b * d := by rw [Int.mul_comm (b : Int)]; exact Int.mul_lt_mul_of_pos_right (by omega) (by omega)
    have l3 : 0 ≤ (r : Int) * d := Int.mul_nonneg (by omega) (by omega)
    have l4 : 0 ≤ (s : Int) * b := Int.mul_nonneg (by omega) (by omega)
    rw [key]
    generalize (r : Int) * d = R at *
    generalize (s : Int) * b = S at *
    have hp : 0 < (b : Int) * d := Int.mul_pos (by omega) (by omega)
    generalize (b : Int) * d = M at *
    rcases Nat.lt_or_gt_of_ne h with g | g
    · have : ((p : Int) - q) * M ≤ -1 * M := Int.mul_le_mul_of_nonneg_right (by omega) (by omega)
      unfold sgnI; rw [if_pos (by omega), if_pos (by omega)]
    · have : 1 * M ≤ ((p : Int) - q) * M := Int.mul_le_mul_of_nonneg_right (by omega) (by omega)
      unfold sgnI; rw [if_neg (by omega), if_neg (by omega), if_neg (by omega), if_neg (by omega)]
theorem cmpQ_sign {a b : Q} (h : a.neg = b.neg) : cmpQ a b = if a.neg then sgnI ((b.num : Int) * a.den - (a.num : Int) * b.den) else sgnI ((a.num : Int) * b.den - (b.num : Int) * a.den) := by
  unfold cmpQ Q.z sg
  rw [h]
  cases b.neg <;> simp
  congr 1
  grind
theorem cmpQ_diff {a b : Q} (ha : a.ok) (hb : b.ok) (h : a.neg ≠ b.neg) : cmpQ a b = if a.neg then -1 else 1 := by
  have za := ha.2.2
  have zb := hb.2.2
  have pa : (0 : Int) < a.den := by have := ha.1; omega
  have pb : (0 : Int) < b.den := by have := hb.1; omega
  unfold cmpQ Q.z sg
  cases ea : a.neg <;> cases eb : b.neg <;> simp_all [Int.neg_mul]
  · have : (0 : Int) < (b.num : Int) * a.den := Int.mul_pos (by omega) (by omega)
    have : (0 : Int) ≤ (a.num : Int) * b.den := Int.mul_nonneg (by omega) (by omega)
    unfold sgnI; rw [if_neg (by omega), if_neg (by omega)]
  · have : (0 : Int) < (a.num : Int) * b.den := Int.mul_pos (by omega) (by omega)
    have : (0 : Int) ≤ (b.num : Int) * a.den := Int.mul_nonneg (by omega) (by omega)
    unfold sgnI; rw [if_pos (by omega)]
theorem sgnI_step {a b c d : Nat} (hb : 0 < b) (hd : 0 < d) :
    sgnI ((a : Int) * d - (c : Int) * b) = if a / b ≠ c / d then sgnI (((a / b : Nat) : Int) - ((c / d : Nat) : Int)) else if a % b = 0 then (if c % d = 0 then 0 else -1) else if c % d = 0 then 1 else sgnI ((d : Int) * ((a % b : Nat) : Int) - (b : Int) * ((c % d : Nat) : Int)) := by
  rw [sgnI_parts hb hd]
  split
  · rfl
  · split
    · next h =>
      rw [h]
      split
      · next h' => rw [h']; simp [sgnI]
      · next h' =>
        have : (0 : Int) < ((c % d : Nat) : Int) * b := Int.mul_pos (by omega) (by omega)
        unfold sgnI; rw [if_pos (by simp only [Int.natCast_zero, Int.zero_mul]; omega)]
    · next h =>
      split
      · next h' =>
        have : (0 : Int) < ((a % b : Nat) : Int) * d := Int.mul_pos (by omega) (by omega)
        rw [h']
        unfold sgnI; rw [if_neg (by simp only [Int.natCast_zero, Int.zero_mul]; omega), if_neg (by simp only [Int.natCast_zero, Int.zero_mul]; omega)]
      · rw [Int.mul_comm, Int.mul_comm (b : Int)]
theorem addQ_le {a b : Q} (ha : 0 < a.den) (hb : 0 < b.den) : (addQ a b).num ≤ a.num * b.den + b.num * a.den ∧ (addQ a b).den ≤ a.den * b.den := by
  have hd := Nat.mul_pos ha hb
  unfold addQ
  split
  · exact low_le hd
  · split
    · exact ⟨Nat.le_trans (low_le hd).1 (by omega), (low_le hd).2⟩
    · exact ⟨Nat.le_trans (low_le hd).1 (by omega), (low_le hd).2⟩
theorem mulQ_le {a b : Q} (ha : 0 < a.den) (hb : 0 < b.den) : (mulQ a b).num ≤ a.num * b.num ∧ (mulQ a b).den ≤ a.den * b.den := low_le (Nat.mul_pos ha hb)
end Go.Proofs.YtbcoblpnihdhgaaDoor.Rt

/-
  The texts of rational numbers, as lists of bytes: pure facts.
-/
namespace Go.Proofs.YtbcoblpnihdhgaaDoor.Rt
def textL (a : Q) : List UInt8 := (if a.neg then [45] else []) ++ (Dec.digs a.num ++ (if a.den = 1 then [] else 47 :: Dec.digs a.den))
def cutSign (l : List UInt8) : Bool × List UInt8 := if l.head? = some 45 then (true, l.tail) else (false, l)
def parts (l : List UInt8) : Option (Bool × List UInt8 × List UInt8) :=
  match (cutSign l).2.dropWhile (fun c => c != 47) with
  | [] => some ((cutSign l).1, (cutSign l).2, [49])
  | _ :: d => if d = [49] then none else some ((cutSign l).1, (cutSign l).2.takeWhile (fun c => c != 47), d)
theorem digs_one : Dec.digs 1 = [49] := Dec.digs_small (by omega)
theorem digs_eq_one {n : Nat} : Dec.digs n = [49] ↔ n = 1 := by
  rw [← digs_one]; exact ⟨fun h => Dec.digs_inj h, fun h => by rw [h]⟩
theorem digs_no {n : Nat} {c : UInt8} (h : c ∈ Dec.digs n) : c ≠ 45 ∧ c ≠ 47 := by
  have := (Dec.isD_iff c).1 (Dec.digs_all n c h)
  constructor
  · intro e; subst e; exact absurd this.1 (by decide)
  · intro e; subst e; exact absurd this.1 (by decide)
theorem digs_slash (n : Nat) : ∀ c ∈ Dec.digs n, (c != 47) = true := fun c h => by simp [(digs_no h).2]
theorem cut_neg (m : List UInt8) : cutSign (45 :: m) = (true, m) := rfl
theorem cut_digs (n : Nat) (r : List UInt8) : cutSign (Dec.digs n ++ r) = (false, Dec.digs n ++ r) := by
  unfold cutSign
  rw [if_neg]
  intro h
  cases e : Dec.digs n with
  | nil => exact Dec.digs_ne n e
  | cons c l =>
    rw [e] at h
    simp only [List.cons_append, List.head?_cons, Option.some.injEq] at h
    exact (digs_no (n := n) (c := c) (by rw [e]; simp)).1 h
theorem cut_text (a : Q) : cutSign (textL a) = (a.neg, Dec.digs a.num ++ (if a.den = 1 then [] else 47 :: Dec.digs a.den)) := by
  unfold textL
  cases a.neg with
  | true => exact cut_neg _
  | false => exact cut_digs _ _
theorem parts_text (a : Q) : parts (textL a) = some (a.neg, Dec.digs a.num, Dec.digs a.den) := by
  unfold parts
  rw [cut_text]
  simp only
  rw [List.dropWhile_append_of_pos (digs_slash _), List.takeWhile_append_of_pos (digs_slash _)]
  by_cases h : a.den = 1
  · rw [if_pos h, h, digs_one]; simp
  · rw [if_neg h]
    simp only [List.dropWhile_cons, List.takeWhile_cons]
    simp [show ¬ Dec.digs a.den = [49] from fun e => h (digs_eq_one.1 e)]
theorem text_inj {a b : Q} (h : textL a = textL b) : a = b := by
  have := (parts_text a).symm.trans (h ▸ parts_text b)
  simp only [Option.some.injEq, Prod.mk.injEq] at this
  exact Q.eq_of this.1 (Dec.digs_inj this.2.1) (Dec.digs_inj this.2.2)
theorem text_parts {l : List UInt8} {a : Q} (h : parts l = some (a.neg, Dec.digs a.num, Dec.digs a.den)) : textL a = l := by
  have hs : l = (if (cutSign l).1 then [45] else []) ++ (cutSign l).2 := by
    unfold cutSign
    split
    · next h =>
      cases l with
      | nil => cases h
      | cons c m => simp only [List.head?_cons, Option.some.injEq] at h; subst h; rfl
    · rfl
  unfold parts at h
  generalize (cutSign l).1 = ng at *
  generalize (cutSign l).2 = m at *
  subst hs
  have split := List.takeWhile_append_dropWhile (p := fun c : UInt8 => c != 47) (l := m)
  have first : ∀ c r, m.dropWhile (fun c => c != 47) = c :: r → c = 47 := by
    intro c r e
    have := List.head_dropWhile_not (fun c : UInt8 => c != 47) (l := m) (by rw [e]; simp)
    simp only [e, List.head_cons] at this
    simpa using this
  cases e : m.dropWhile (fun c => c != 47) with
  | nil =>
    rw [e] at h
    simp only [Option.some.injEq, Prod.mk.injEq] at h
    obtain ⟨h1, h2, h3⟩ := h
    unfold textL
    rw [if_pos (digs_eq_one.1 h3.symm), ← h1, ← h2]; simp
  | cons c r =>
    rw [e] at h
    simp only at h
    by_cases q : r = [49]
    · rw [if_pos q] at h; cases h
    · rw [if_neg q] at h
      simp only [Option.some.injEq, Prod.mk.injEq] at h
      obtain ⟨h1, h2, h3⟩ := h
      have hc := first c r e
      subst hc
      unfold textL
      rw [if_neg (c := a.den = 1) (fun e1 => q (by rw [h3, e1, digs_one])), ← h1, ← h2, ← h3, ← e, split]
end Go.Proofs.YtbcoblpnihdhgaaDoor.Rt

/-
  Rational numbers as a sign and two texts, and the answers of layer 4 as functions of them: pure facts.
-/
namespace Go.Proofs.YtbcoblpnihdhgaaDoor.Rt
structure Raw where
  neg : Bool
  num : ByteArray
  den : ByteArray
def nv (s : ByteArray) : Nat := Dec.val (tl s)
def Raw.q (r : Raw) : Q := ⟨r.neg, nv r.num, nv r.den⟩
def Q.raw (a : Q) : Raw := ⟨a.neg, nS a.num, nS a.den⟩
def noRaw : Raw := ⟨false, ⟨#[]⟩, ⟨#[]⟩⟩
theorem Q.raw_q (a : Q) : a.raw.q = a := Q.eq_of rfl (val_nS _) (val_nS _)
theorem raw_inj {a b : Q} (h : a.raw = b.raw) : a = b := by rw [← a.raw_q, ← b.raw_q, h]
theorem Raw.eq_of {a b : Raw} (h1 : a.neg = b.neg) (h2 : a.num = b.num) (h3 : a.den = b.den) : a = b := by
  cases a; cases b; simp_all
def okQB (a : Q) : Bool := decide (0 < a.den) && (decide (Nat.gcd a.num a.den = 1) && (decide (a.num ≠ 0) || !a.neg))
theorem okQB_iff {a : Q} : okQB a = true ↔ a.ok := by
  unfold okQB Q.ok
  simp only [Bool.and_eq_true, decide_eq_true_eq, Bool.or_eq_true, Bool.not_eq_true']
  constructor
  · rintro ⟨h1, h2, h3⟩
    exact ⟨h1, h2, fun e => h3.elim (fun h => absurd e h) id⟩
  · rintro ⟨h1, h2, h3⟩
    refine ⟨h1, h2, ?_⟩
    by_cases e : a.num = 0
    · exact Or.inr (h3 e)
    · exact Or.inl e
def okR (r : Raw) : Bool := validB r.num && (validB r.den && okQB r.q)
theorem okR_raw {a : Q} (ha : a.ok) (h1 : (nS a.num).size ≤ 1000) (h2 : (nS a.den).size ≤ 1000) : okR a.raw = true := by
  unfold okR
  rw [Q.raw_q, okQB_iff.2 ha]
  simp only [Q.raw, (validB_iff _).2 ⟨nS_norm _, h1⟩, (validB_iff _).2 ⟨nS_norm _, h2⟩, Bool.and_self]
theorem okR_of {r : Raw} (h : okR r = true) : r.q.ok ∧ r.q.raw = r ∧ r.num.size ≤ 1000 ∧ r.den.size ≤ 1000 := by
  unfold okR at h
  simp only [Bool.and_eq_true] at h
  exact ⟨okQB_iff.1 h.2.2, Raw.eq_of rfl (nS_of h.1).symm (nS_of h.2.1).symm, valid_size h.1, valid_size h.2.1⟩
theorem okR_iff {r : Raw} : okR r = true ↔ ∃ a : Q, a.ok ∧ (nS a.num).size ≤ 1000 ∧ (nS a.den).size ≤ 1000 ∧ r = a.raw := by
  constructor
  · intro h
    obtain ⟨h1, h2, h3, h4⟩ := okR_of h
    refine ⟨r.q, h1, ?_, ?_, h2.symm⟩
    · rw [show nS r.q.num = r.q.raw.num from rfl, h2]; exact h3
    · rw [show nS r.q.den = r.q.raw.den from rfl, h2]; exact h4
  · rintro ⟨a, h1, h2, h3, rfl⟩; exact okR_raw h1 h2 h3
theorem okR_no : okR noRaw = false := by decide +kernel
def fit (n : Nat) : Bool := decide ((nS n).size ≤ 1000)
theorem fit_of {n k : Nat} (h : n < 10 ^ k) (hk : k ≤ 1000) (hk0 : 0 < k) : fit n = true := decide_eq_true (Nat.le_trans ((nS_size hk0).2 h) hk)
def addE (r s : Raw) : Raw × Int :=
  if okR r && okR s then
    (if fit (r.q.num * s.q.den) && (fit (s.q.num * r.q.den) && (fit (r.q.den * s.q.den) && (r.neg != s.neg || fit (r.q.num * s.q.den + s.q.num * r.q.den)))) then ((addQ r.q s.q).raw, 0) else (noRaw, 2))
  else (noRaw, 1)
def subE (r s : Raw) : Raw × Int := if okR r && okR s then addE r (negQ s.q).raw else (noRaw, 1)
def mulE (r s : Raw) : Raw × Int :=
  if okR r && okR s then (if fit (r.q.num * s.q.num) && fit (r.q.den * s.q.den) then ((mulQ r.q s.q).raw, 0) else (noRaw, 2)) else (noRaw, 1)
def divE (r s : Raw) : Raw × Int :=
  if okR r && okR s then (if s.q.num = 0 then (noRaw, 14) else if fit (r.q.num * s.q.den) && fit (r.q.den * s.q.num) then ((divQ r.q s.q).raw, 0) else (noRaw, 2)) else (noRaw, 1)
def cmpE (r s : Raw) : Int := if okR r && okR s then cmpQ r.q s.q else 0
def makeE (neg : Bool) (num den : ByteArray) : Raw × Int :=
  if validB num && validB den then (if nv den = 0 then (noRaw, 14) else ((low neg (nv num) (nv den)).raw, 0)) else (noRaw, 1)
def ofE (n d : Int) : Raw × Int := if d = 0 then (noRaw, 14) else ((ofQ n d).raw, 0)
def textE (r : Raw) : ByteArray × Int := if okR r then (bx (textL r.q), 0) else (⟨#[]⟩, 1)
def parseE (t : ByteArray) : Raw × Int :=
  match parts (tl t) with
  | none => (noRaw, 5)
  | some (g, n, d) => if okR ⟨g, bx n, bx d⟩ then (⟨g, bx n, bx d⟩, 0) else (noRaw, 5)
theorem addE_val {a b : Q} (ha : okR a.raw = true) (hb : okR b.raw = true) (h1 : fit (a.num * b.den) = true) (h2 : fit (b.num * a.den) = true) (h3 : fit (a.den * b.den) = true) (h4 : fit (a.num * b.den + b.num * a.den) = true) : addE a.raw b.raw = ((addQ a b).raw, 0) := by
  unfold addE
  rw [Q.raw_q, Q.raw_q, ha, hb, h1, h2, h3, h4]; simp
theorem mulE_val {a b : Q} (ha : okR a.raw = true) (hb : okR b.raw = true) (h1 : fit (a.num * b.num) = true) (h2 : fit (a.den * b.den) = true) : mulE a.raw b.raw = ((mulQ a b).raw, 0) := by
  unfold mulE
  rw [Q.raw_q, Q.raw_q, ha, hb, h1, h2]; rfl
theorem divE_val {a b : Q} (ha : okR a.raw = true) (hb : okR b.raw = true) (h0 : b.num ≠ 0) (h1 : fit (a.num * b.den) = true) (h2 : fit (a.den * b.num) = true) : divE a.raw b.raw = ((divQ a b).raw, 0) := by
  unfold divE
  rw [Q.raw_q, Q.raw_q, ha, hb, h1, h2, if_neg h0]; rfl
theorem divE_zero {a b : Q} (ha : okR a.raw = true) (hb : okR b.raw = true) (h0 : b.num = 0) : divE a.raw b.raw = (noRaw, 14) := by
  unfold divE
  rw [Q.raw_q, Q.raw_q, ha, hb, if_pos h0]; rfl
theorem negQ_raw {b : Q} (hb : okR b.raw = true) : okR (negQ b).raw = true := by
  obtain ⟨h1, h2, h3, h4⟩ := okR_of hb
  rw [Q.raw_q] at h1
  refine okR_raw (negQ_ok h1) ?_ (by rw [negQ_den]; exact h4)
  have : (negQ b).num = b.num := by unfold negQ; split <;> rfl
  rw [this]; exact h3
theorem negQ_num (b : Q) : (negQ b).num = b.num := by unfold negQ; split <;> rfl
theorem subE_val {a b : Q} (ha : okR a.raw = true) (hb : okR b.raw = true) (h1 : fit (a.num * b.den) = true) (h2 : fit (b.num * a.den) = true) (h3 : fit (a.den * b.den) = true) (h4 : fit (a.num * b.den + b.num * a.den) = true) : subE a.raw b.raw = ((subQ a b).raw, 0) := by
  unfold subE
  rw [Q.raw_q, ha, hb]
  simp only [Bool.and_self, if_true]
  exact addE_val ha (negQ_raw hb) (by rw [negQ_den]; exact h1) (by rw [negQ_num]; exact h2) (by rw [negQ_den]; exact h3) (by rw [negQ_den, negQ_num]; exact h4)
theorem cmpE_val {a b : Q} (ha : okR a.raw = true) (hb : okR b.raw = true) : cmpE a.raw b.raw = cmpQ a b := by
  unfold cmpE
  rw [Q.raw_q, Q.raw_q, ha, hb]; rfl
theorem bx_inj {l m : List UInt8} (h : bx l = bx m) : l = m := by rw [← tl_bx l, ← tl_bx m, h]
theorem parse_text {r : Raw} (h : okR r = true) : parseE (textE r).1 = (r, 0) := by
  obtain ⟨_, hr, _, _⟩ := okR_of h
  unfold textE parseE
  rw [if_pos h]
  simp only [tl_bx, parts_text]
  have e : (⟨r.q.neg, bx (Dec.digs r.q.num), bx (Dec.digs r.q.den)⟩ : Raw) = r := hr
  rw [e, if_pos h]
theorem text_parse {t : ByteArray} {r : Raw} (h : parseE t = (r, 0)) : textE r = (t, 0) := by
  unfold parseE at h
  split at h
  · cases h
  · next g n d hp =>
    split at h
    · next ho =>
      simp only [Prod.mk.injEq, and_true] at h
      subst h
      obtain ⟨_, hr, _, _⟩ := okR_of ho
      unfold textE
      rw [if_pos ho]
      have hn : Dec.digs (Raw.q ⟨g, bx n, bx d⟩).num = n := bx_inj (congrArg Raw.num hr)
      have hd : Dec.digs (Raw.q ⟨g, bx n, bx d⟩).den = d := bx_inj (congrArg Raw.den hr)
      have := text_parts (l := tl t) (a := Raw.q ⟨g, bx n, bx d⟩) (by rw [hn, hd]; exact hp)
      rw [this, bx_tl]
    · cases h
theorem parse_err {t : ByteArray} (h : (parseE t).2 ≠ 0) : parseE t = (noRaw, 5) := by
  unfold parseE at *
  split at h
  · rfl
  · split at h
    · exact absurd rfl h
    · next hp hn => rw [if_neg hn]
theorem text_same {r s : Raw} (hr : okR r = true) (hs : okR s = true) : (textE r).1 = (textE s).1 ↔ r = s := by
  constructor
  · intro h
    have := (parse_text hr).symm.trans (h ▸ parse_text hs)
    simpa using this
  · intro h; rw [h]
/-- a number in lowest terms with parts below a power of ten -/
def In (k : Nat) (a : Q) : Prop := a.ok ∧ a.num < 10 ^ k ∧ a.den < 10 ^ k
theorem In.okR {k : Nat} {a : Q} (h : In k a) (h0 : 0 < k) (h1 : k ≤ 1000) : okR a.raw = true :=
  okR_raw h.1 (Nat.le_trans ((nS_size h0).2 h.2.1) h1) (Nat.le_trans ((nS_size h0).2 h.2.2) h1)
theorem mul_in {x y k m : Nat} (hx : x < 10 ^ k) (hy : y < 10 ^ m) : x * y < 10 ^ (k + m) := by
  rw [Nat.pow_add]; exact Nat.mul_lt_mul'' hx hy
theorem add_in {x y k : Nat} (hx : x < 10 ^ k) (hy : y < 10 ^ k) : x + y < 10 ^ (k + 1) := by rw [Nat.pow_succ]; omega
theorem up_in {x k m : Nat} (hx : x < 10 ^ k) (h : k ≤ m) : x < 10 ^ m := Nat.lt_of_lt_of_le hx (Nat.pow_le_pow_right (by omega) h)
theorem In.up {k m : Nat} {a : Q} (h : In k a) (hm : k ≤ m) : In m a := ⟨h.1, up_in h.2.1 hm, up_in h.2.2 hm⟩
theorem In.neg {k : Nat} {a : Q} (h : In k a) : In k (negQ a) := ⟨negQ_ok h.1, by rw [negQ_num]; exact h.2.1, by rw [negQ_den]; exact h.2.2⟩
theorem In.add {k m : Nat} {a b : Q} (ha : In k a) (hb : In m b) : In (k + m + 1) (addQ a b) := by
  have l := addQ_le ha.1.1 hb.1.1
  have p := mul_in ha.2.1 hb.2.2
  have q := mul_in hb.2.1 ha.2.2
  have d := mul_in ha.2.2 hb.2.2
  rw [Nat.add_comm m k] at q
  exact ⟨addQ_ok ha.1.1 hb.1.1, Nat.lt_of_le_of_lt l.1 (add_in p q), up_in (Nat.lt_of_le_of_lt l.2 d) (by omega)⟩
theorem In.sub {k m : Nat} {a b : Q} (ha : In k a) (hb : In m b) : In (k + m + 1) (subQ a b) := ha.add hb.neg
theorem In.mul {k m : Nat} {a b : Q} (ha : In k a) (hb : In m b) : In (k + m) (mulQ a b) := by
  have l := mulQ_le ha.1.1 hb.1.1
  exact ⟨mulQ_ok ha.1.1 hb.1.1, Nat.lt_of_le_of_lt l.1 (mul_in ha.2.1 hb.2.1), Nat.lt_of_le_of_lt l.2 (mul_in ha.2.2 hb.2.2)⟩
theorem In.inv {k : Nat} {b : Q} (hb : In k b) (h0 : b.num ≠ 0) : In k (invQ b) := by
  refine ⟨⟨by show 0 < b.num; omega, ?_, fun e => ?_⟩, hb.2.2, hb.2.1⟩
  · show Nat.gcd b.den b.num = 1
    rw [Nat.gcd_comm]; exact hb.1.2.1
  · have := hb.1.1
    simp only [invQ] at e; omega
theorem In.div {k m : Nat} {a b : Q} (ha : In k a) (hb : In m b) (h0 : b.num ≠ 0) : In (k + m) (divQ a b) := ha.mul (hb.inv h0)
theorem vAdd {k m : Nat} {a b : Q} (ha : In k a) (hb : In m b) (hk : 0 < k) (hm : 0 < m) (h : k + m + 1 ≤ 1000) : addE a.raw b.raw = ((addQ a b).raw, 0) := by
  have q := mul_in hb.2.1 ha.2.2
  rw [Nat.add_comm m k] at q
  exact addE_val (ha.okR hk (by omega)) (hb.okR hm (by omega)) (fit_of (mul_in ha.2.1 hb.2.2) (by omega) (by omega)) (fit_of q (by omega) (by omega))
    (fit_of (mul_in ha.2.2 hb.2.2) (by omega) (by omega)) (fit_of (add_in (mul_in ha.2.1 hb.2.2) q) h (by omega))
theorem vSub {k m : Nat} {a b : Q} (ha : In k a) (hb : In m b) (hk : 0 < k) (hm : 0 < m) (h : k + m + 1 ≤ 1000) : subE a.raw b.raw = ((subQ a b).raw, 0) := by
  unfold subE
  rw [Q.raw_q, ha.okR hk (by omega), hb.okR hm (by omega)]
  simp only [Bool.and_self, if_true]
  exact vAdd ha hb.neg hk hm h
theorem vMul {k m : Nat} {a b : Q} (ha : In k a) (hb : In m b) (hk : 0 < k) (hm : 0 < m) (h : k + m ≤ 1000) : mulE a.raw b.raw = ((mulQ a b).raw, 0) :=
  mulE_val (ha.okR hk (by omega)) (hb.okR hm (by omega)) (fit_of (mul_in ha.2.1 hb.2.1) h (by omega)) (fit_of (mul_in ha.2.2 hb.2.2) h (by omega))
theorem vDiv {k m : Nat} {a b : Q} (ha : In k a) (hb : In m b) (hk : 0 < k) (hm : 0 < m) (h : k + m ≤ 1000) (h0 : b.num ≠ 0) : divE a.raw b.raw = ((divQ a b).raw, 0) :=
  divE_val (ha.okR hk (by omega)) (hb.okR hm (by omega)) h0 (fit_of (mul_in ha.2.1 hb.2.2) h (by omega)) (fit_of (mul_in ha.2.2 hb.2.1) h (by omega))
theorem in_of {r : Raw} {k : Nat} (hk : 0 < k) (h : Rt.okR r = true) (h1 : r.num.size ≤ k) (h2 : r.den.size ≤ k) : ∃ a, In k a ∧ r = a.raw := by
  obtain ⟨a1, a2, _, _⟩ := okR_of h
  refine ⟨r.q, ⟨a1, (nS_size hk).1 ?_, (nS_size hk).1 ?_⟩, a2.symm⟩
  · rw [show nS r.q.num = r.q.raw.num from rfl, a2]; exact h1
  · rw [show nS r.q.den = r.q.raw.den from rfl, a2]; exact h2
end Go.Proofs.YtbcoblpnihdhgaaDoor.Rt
