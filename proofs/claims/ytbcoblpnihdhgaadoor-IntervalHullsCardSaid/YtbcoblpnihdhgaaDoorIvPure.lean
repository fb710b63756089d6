/-
  Intervals of rational numbers, and the answers of layer 5 as functions of them: pure facts.
-/
import Derived.Test.YtbcoblpnihdhgaaDoorRmVX
namespace Go.Proofs.YtbcoblpnihdhgaaDoor.Rt
/-- an interval: its ends as signs and texts -/
structure Iv where
  low : Raw
  high : Raw
def noI : Iv := ⟨noRaw, noRaw⟩
theorem Iv.eq_of {a b : Iv} (h1 : a.low = b.low) (h2 : a.high = b.high) : a = b := by
  cases a; cases b; simp_all
def okI (i : Iv) : Bool := okR i.low && (okR i.high && decide (cmpE i.low i.high ≤ 0))
def hasI (i : Iv) (r : Raw) : Bool := okI i && (okR r && (decide (cmpE i.low r ≤ 0) && decide (cmpE r i.high ≤ 0)))
def minR (x y : Raw) : Raw := if cmpE y x < 0 then y else x
def maxR (x y : Raw) : Raw := if 0 < cmpE y x then y else x
def addI (a b : Iv) : Iv × Int :=
  if okI a && okI b then (if (addE a.low b.low).2 = 0 ∧ (addE a.high b.high).2 = 0 then (⟨(addE a.low b.low).1, (addE a.high b.high).1⟩, 0) else (noI, 2)) else (noI, 1)
def lowM (a b : Iv) : Raw := minR (minR (minR (mulE a.low b.low).1 (mulE a.low b.high).1) (mulE a.high b.low).1) (mulE a.high b.high).1
def highM (a b : Iv) : Raw := maxR (maxR (maxR (mulE a.low b.low).1 (mulE a.low b.high).1) (mulE a.high b.low).1) (mulE a.high b.high).1
def mulI (a b : Iv) : Iv × Int :=
  if okI a && okI b then
    (if (mulE a.low b.low).2 = 0 ∧ (mulE a.low b.high).2 = 0 ∧ (mulE a.high b.low).2 = 0 ∧ (mulE a.high b.high).2 = 0 then (⟨lowM a b, highM a b⟩, 0) else (noI, 2)) else (noI, 1)
def joinI (o i : Iv) : Iv := ⟨minR o.low i.low, maxR o.high i.high⟩
def hullI (l : List Iv) : Iv × Int :=
  if 1000 < l.length then (noI, 2) else if l.all okI then (match l with | [] => (noI, 10) | x :: t => (t.foldl joinI x, 0)) else (noI, 1)
def cutI (a b : Iv) : Iv := ⟨maxR a.low b.low, minR a.high b.high⟩
def meetI (a b : Iv) : Iv × Bool := if okI a && okI b then (if okI (cutI a b) then (cutI a b, true) else (noI, false)) else (noI, false)
-- the order of valid numbers
def LeR (a b : Raw) : Prop := cmpE a b ≤ 0
def LeQ (a b : Q) : Prop := cmpQ a b ≤ 0
theorem leQ_z {a b : Q} : LeQ a b ↔ a.z * b.den ≤ b.z * a.den := by
  unfold LeQ cmpQ; rw [sgnI_le]; omega
theorem leR_raw {a b : Q} (ha : okR a.raw = true) (hb : okR b.raw = true) : LeR a.raw b.raw ↔ LeQ a b := by
  unfold LeR LeQ; rw [cmpE_val ha hb]
theorem of_ok {r : Raw} (h : okR r = true) : ∃ x : Q, r = x.raw ∧ x.ok := ⟨r.q, (okR_of h).2.1.symm, (okR_of h).1⟩
theorem cmpE_turn {a b : Raw} (ha : okR a = true) (hb : okR b = true) : cmpE b a = - cmpE a b := by
  obtain ⟨x, rfl, _⟩ := of_ok ha
  obtain ⟨y, rfl, _⟩ := of_ok hb
  rw [cmpE_val ha hb, cmpE_val hb ha, cmp_turn]
theorem leR_refl {a : Raw} (ha : okR a = true) : LeR a a := by
  obtain ⟨x, rfl, hx⟩ := of_ok ha
  rw [leR_raw ha ha]; unfold LeQ; rw [(cmp_zero hx hx).2 rfl]; decide
theorem leR_trans {a b c : Raw} (ha : okR a = true) (hb : okR b = true) (hc : okR c = true) (h : LeR a b) (h' : LeR b c) : LeR a c := by
  obtain ⟨x, rfl, hx⟩ := of_ok ha
  obtain ⟨y, rfl, hy⟩ := of_ok hb
  obtain ⟨z, rfl, hz⟩ := of_ok hc
  rw [leR_raw ha hb] at h
  rw [leR_raw hb hc] at h'
  rw [leR_raw ha hc]
  exact cmp_trans hx.1 hy.1 hz.1 h h'
theorem leR_anti {a b : Raw} (ha : okR a = true) (hb : okR b = true) (h : LeR a b) (h' : LeR b a) : a = b := by
  obtain ⟨x, rfl, hx⟩ := of_ok ha
  obtain ⟨y, rfl, hy⟩ := of_ok hb
  rw [leR_raw ha hb] at h
  rw [leR_raw hb ha] at h'
  unfold LeQ at h h'
  rw [cmp_turn x y] at h'
  rw [(cmp_zero hx hy).1 (by omega)]
theorem leR_total {a b : Raw} (ha : okR a = true) (hb : okR b = true) : LeR a b ∨ LeR b a := by
  have := cmpE_turn ha hb
  unfold LeR; omega
theorem okI_iff {i : Iv} : okI i = true ↔ okR i.low = true ∧ okR i.high = true ∧ LeR i.low i.high := by
  unfold okI LeR; simp [Bool.and_eq_true]
theorem hasI_iff {i : Iv} {r : Raw} : hasI i r = true ↔ okI i = true ∧ okR r = true ∧ LeR i.low r ∧ LeR r i.high := by
  unfold hasI LeR; simp [Bool.and_eq_true]
structure MinOf (x y m : Raw) : Prop where
  ok : okR m = true
  left : LeR m x
  right : LeR m y
  one : m = x ∨ m = y
structure MaxOf (x y m : Raw) : Prop where
  ok : okR m = true
  left : LeR x m
  right : LeR y m
  one : m = x ∨ m = y
theorem min_of {x y : Raw} (hx : okR x = true) (hy : okR y = true) : MinOf x y (minR x y) := by
  have ht := cmpE_turn hx hy
  unfold minR
  split
  · next h => exact ⟨hy, by unfold LeR; omega, leR_refl hy, .inr rfl⟩
  · next h => exact ⟨hx, leR_refl hx, by unfold LeR; omega, .inl rfl⟩
theorem max_of {x y : Raw} (hx : okR x = true) (hy : okR y = true) : MaxOf x y (maxR x y) := by
  have ht := cmpE_turn hx hy
  unfold maxR
  split
  · next h => exact ⟨hy, by unfold LeR; omega, leR_refl hy, .inr rfl⟩
  · next h => exact ⟨hx, leR_refl hx, by unfold LeR; omega, .inl rfl⟩
theorem min_ge {x y z : Raw} (hx : LeR z x) (hy : LeR z y) : LeR z (minR x y) := by
  unfold minR; split <;> assumption
theorem max_le {x y z : Raw} (hx : LeR x z) (hy : LeR y z) : LeR (maxR x y) z := by
  unfold maxR; split <;> assumption
-- sums and products keep the order
theorem add_mono {a b c d : Q} (ha : 0 < a.den) (hb : 0 < b.den) (hc : 0 < c.den) (hd : 0 < d.den) (h : LeQ a b) (h' : LeQ c d) : LeQ (addQ a c) (addQ b d) := by
  have h1 : LeQ (addQ a c) (addQ b c) := by unfold LeQ; rw [cmp_add ha hb hc]; exact h
  have h2 : LeQ (addQ b c) (addQ b d) := by
    rw [addQ_comm hb hc, addQ_comm hb hd]; unfold LeQ; rw [cmp_add hc hd hb]; exact h'
  exact cmp_trans (addQ_ok ha hc).1 (addQ_ok hb hc).1 (addQ_ok hb hd).1 h1 h2
theorem mul_le {a b c : Q} (ha : 0 < a.den) (hb : 0 < b.den) (hc : 0 < c.den) (h : a.z * b.den * c.z ≤ b.z * a.den * c.z) : LeQ (mulQ a c) (mulQ b c) := by
  rw [leQ_z]
  have e1 := mulQ_val ha hc
  have e2 := mulQ_val hb hc
  have p1 := (mulQ_ok ha hc).1
  have p2 := (mulQ_ok hb hc).1
  generalize (mulQ a c).z = Az at *
  generalize (mulQ b c).z = Bz at *
  generalize (mulQ a c).den = Ad at *
  generalize (mulQ b c).den = Bd at *
  have pk : (0 : Int) < (a.den * c.den) * (b.den * c.den) := by
    have : 0 < (a.den * c.den) * (b.den * c.den) := Nat.mul_pos (Nat.mul_pos ha hc) (Nat.mul_pos hb hc)
    exact_mod_cast this
  have pm : (0 : Int) ≤ (c.den * (Ad * Bd)) := by
    have : 0 ≤ c.den * (Ad * Bd) := Nat.zero_le _
    exact_mod_cast this
  refine Int.le_of_mul_le_mul_right ?_ pk
  have l : Az * Bd * ((a.den * c.den) * (b.den * c.den)) = a.z * b.den * c.z * (c.den * (Ad * Bd)) := by
    have : Az * Bd * ((a.den * c.den) * (b.den * c.den)) = (Az * (a.den * c.den)) * (Bd * (b.den * c.den)) := by grind
    rw [this, e1]; grind
  have r : Bz * Ad * ((a.den * c.den) * (b.den * c.den)) = b.z * a.den * c.z * (c.den * (Ad * Bd)) := by
    have : Bz * Ad * ((a.den * c.den) * (b.den * c.den)) = (Bz * (b.den * c.den)) * (Ad * (a.den * c.den)) := by grind
    rw [this, e2]; grind
  rw [l, r]
  exact Int.mul_le_mul_of_nonneg_right h pm
theorem mul_up {a b c : Q} (ha : 0 < a.den) (hb : 0 < b.den) (hc : 0 < c.den) (h : LeQ a b) (h0 : 0 ≤ c.z) : LeQ (mulQ a c) (mulQ b c) :=
  mul_le ha hb hc (Int.mul_le_mul_of_nonneg_right (leQ_z.1 h) h0)
theorem mul_down {a b c : Q} (ha : 0 < a.den) (hb : 0 < b.den) (hc : 0 < c.den) (h : LeQ a b) (h0 : c.z ≤ 0) : LeQ (mulQ b c) (mulQ a c) :=
  mul_le hb ha hc (Int.mul_le_mul_of_nonpos_right (leQ_z.1 h) h0)
/-- between two numbers, in either order -/
def Betw (l m h : Q) : Prop := (LeQ l m ∧ LeQ m h) ∨ (LeQ h m ∧ LeQ m l)
theorem betw_mul {l m h c : Q} (hl : 0 < l.den) (hm : 0 < m.den) (hh : 0 < h.den) (hc : 0 < c.den) (h1 : LeQ l m) (h2 : LeQ m h) : Betw (mulQ l c) (mulQ m c) (mulQ h c) := by
  rcases Int.le_total 0 c.z with h0 | h0
  · exact .inl ⟨mul_up hl hm hc h1 h0, mul_up hm hh hc h2 h0⟩
  · exact .inr ⟨mul_down hm hh hc h2 h0, mul_down hl hm hc h1 h0⟩
theorem betw_mul' {l m h c : Q} (hl : 0 < l.den) (hm : 0 < m.den) (hh : 0 < h.den) (hc : 0 < c.den) (h1 : LeQ l m) (h2 : LeQ m h) : Betw (mulQ c l) (mulQ c m) (mulQ c h) := by
  rw [mulQ_comm hc hl, mulQ_comm hc hm, mulQ_comm hc hh]; exact betw_mul hl hm hh hc h1 h2
end Go.Proofs.YtbcoblpnihdhgaaDoor.Rt
