/-
  Intervals of rational numbers, and the answers of layer 5 as functions of them: pure facts.
-/
import Derived.Test.YtbcoblpnihdhgaaGreatDoorRmVX
namespace Go.Proofs.YtbcoblpnihdhgaaGreatDoor.Rt
/-- an interval: its ends as signs and texts -/
structure Iv where
  low : Raw
  high : Raw
def noI : Iv := ⟨noRaw, noRaw⟩
theorem Iv.eq_of {a b : Iv} (h1 : a.low = b.low) (h2 : a.high = b.high) : a = b := by
  cases a; cases b; simp_all
def okI (i : Iv) : Bool := okR i.low && (okR i.high && decide (cmpE i.low i.high ≤ 0))
def hasI (i : Iv) (r : Raw) : Bool := okI i && (okR r && (decide (cmpE i.low r ≤ 0) && decide (cmpE r i.high ≤ 0)))
def minR (x y : Raw) : Raw := if cmpE y x < 0 then y else x
def maxR (x y : Raw) : Raw := if 0 < cmpE y x then y else x
def addI (a b : Iv) : Iv × Int :=
  if okI a && okI b then (if (addE a.low b.low).2 = 0 ∧ (addE a.high b.high).2 = 0 then (⟨(addE a.low b.low).1, (addE a.high b.high).1⟩, 0) else (noI, 2)) else (noI, 1)
def lowM (a b : Iv) : Raw := minR (minR (minR (mulE a.low b.low).1 (mulE a.low b.high).1) (mulE a.high b.low).1) (mulE a.high b.high).1
def highM (a b : Iv) : Raw := maxR (maxR (maxR (mulE a.low b.low).1 (mulE a.low b.high).1) (mulE a.high b.low).1) (mulE a.high b.high).1
def mulI (a b : Iv) : Iv × Int :=
  if okI a && okI b then
    (if (mulE a.low b.low).2 = 0 ∧ (mulE a.low b.high).2 = 0 ∧ (mulE a.high b.low).2 = 0 ∧ (mulE a.high b.high).2 = 0 then (⟨lowM a b, highM a b⟩, 0) else (noI, 2)) else (noI, 1)
def joinI (o i : Iv) : Iv := ⟨minR o.low i.low, maxR o.high i.high⟩
def hullI (l : List Iv) : Iv × Int :=
  if 1000 < l.length then (noI, 2) else if l.all okI then (match l with | [] => (noI, 10) | x :: t => (t.foldl joinI x, 0)) else (noI, 1)
def cutI (a b : Iv) : Iv := ⟨maxR a.low b.low, minR a.high b.high⟩
def meetI (a b : Iv) : Iv × Bool := if okI a && okI b then (if okI (cutI a b) then (cutI a b, true) else (noI, false)) else (noI, false)
-- the order of valid numbers
def LeR (a b : Raw) : Prop := cmpE a b ≤ 0
def LeQ (a b : Q) : Prop := cmpQ a b ≤ 0
theorem leQ_z {a b : Q} : LeQ a b ↔ a.z * b.den ≤ b.z * a.den := by
  unfold LeQ cmpQ; rw [sgnI_le]; omega
theorem leR_raw {a b : Q} (ha : okR a.raw = true) (hb : okR b.raw = true) : LeR a.raw b.raw ↔ LeQ a b := by
  unfold LeR LeQ; rw [cmpE_val ha hb]
theorem of_ok {r : Raw} (h : okR r = true) : ∃ x : Q, r = x.raw ∧ x.ok := ⟨r.q, (okR_of h).2.1.symm, (okR_of h).1⟩
theorem cmpE_turn {a b : Raw} (ha : okR a = true) (hb : okR b = true) : cmpE b a = - cmpE a b := by
  obtain ⟨x, rfl, _⟩ := of_ok ha
  obtain ⟨y, rfl, _⟩ := of_ok hb
  rw [cmpE_val ha hb, cmpE_val hb ha, cmp_turn]
theorem leR_refl {a : Raw} (ha : okR a = true) : LeR a a := by
  obtain ⟨x, rfl, hx⟩ := of_ok ha
  rw [leR_raw ha ha]; unfold LeQ; rw [(cmp_zero hx hx).2 rfl]; decide
theorem leR_trans {a b c : Raw} (ha : okR a = true) (hb : okR b = true) (hc : okR c = true) (h : LeR a b) (h' : LeR b c) : LeR a c := by
  obtain ⟨x, rfl, hx⟩ := of_ok ha
  obtain ⟨y, rfl, hy⟩ := of_ok hb
  obtain ⟨z, rfl, hz⟩ := of_ok hc
  rw [leR_raw ha hb] at h
  rw [leR_raw hb hc] at h'
  rw [leR_raw ha hc]
  exact cmp_trans hx.1 hy.1 hz.1 h h'
theorem leR_anti {a b : Raw} (ha : okR a = true) (hb : okR b = true) (h : LeR a b) (h' : LeR b a) : a = b := by
  obtain ⟨x, rfl, hx⟩ := of_ok ha
  obtain ⟨y, rfl, hy⟩ := of_ok hb
  rw [leR_raw ha hb] at h
  rw [leR_raw hb ha] at h'
  unfold LeQ at h h'
  rw [cmp_turn x y] at h'
  rw [(cmp_zero hx hy).1 (by omega)]
theorem leR_total {a b : Raw} (ha : okR a = true) (hb : okR b = true) : LeR a b ∨ LeR b a := by
  have := cmpE_turn ha hb
  unfold LeR; omega
theorem okI_iff {i : Iv} : okI i = true ↔ okR i.low = true ∧ okR i.high = true ∧ LeR i.low i.high := by
  unfold okI LeR; simp [Bool.and_eq_true]
theorem hasI_iff {i : Iv} {r : Raw} : hasI i r = true ↔ okI i = true ∧ okR r = true ∧ LeR i.low r ∧ LeR r i.high := by
  unfold hasI LeR; simp [Bool.and_eq_true]
structure MinOf (x y m : Raw) : Prop where
  ok : okR m = true
  left : LeR m x
  right : LeR m y
  one : m = x ∨ m = y
structure MaxOf (x y m : Raw) : Prop where
  ok : okR m = true
  left : LeR x m
  right : LeR y m
  one : m = x ∨ m = y
theorem min_of {x y : Raw} (hx : okR x = true) (hy : okR y = true) : MinOf x y (minR x y) := by
  have ht := cmpE_turn hx hy
  unfold minR
  split
  · next h => exact ⟨hy, by unfold LeR; omega, leR_refl hy, .inr rfl⟩
  · next h => exact ⟨hx, leR_refl hx, by unfold LeR; omega, .inl rfl⟩
theorem max_of {x y : Raw} (hx : okR x = true) (hy : okR y = true) : MaxOf x y (maxR x y) := by
  have ht := cmpE_turn hx hy
  unfold maxR
  split
  · next h => exact ⟨hy, by unfold LeR; omega, leR_refl hy, .inr rfl⟩
  · next h => exact ⟨hx, leR_refl hx, by unfold LeR; omega, .inl rfl⟩
theorem min_ge {x y z : Raw} (hx : LeR z x) (hy : LeR z y) : LeR z (minR x y) := by
  unfold minR; split <;> assumption
theorem max_le {x y z : Raw} (hx : LeR x z) (hy : LeR y z) : LeR (maxR x y) z := by
  unfold maxR; split <;> assumption
-- sums and products keep the order
theorem add_mono {a b c d : Q} (ha : 0 < a.den) (hb : 0 < b.den) (hc : 0 < c.den) (hd : 0 < d.den) (h : LeQ a b) (h' : LeQ c d) : LeQ (addQ a c) (addQ b d) := by
  have h1 : LeQ (addQ a c) (addQ b c) := by unfold LeQ; rw [cmp_add ha hb hc]; exact h
  have h2 : LeQ (addQ b c) (addQ b d) := by
    rw [addQ_comm hb hc, addQ_comm hb hd]; unfold LeQ; rw [cmp_add hc hd hb]; exact h'
  exact cmp_trans (addQ_ok ha hc).1 (addQ_ok hb hc).1 (addQ_ok hb hd).1 h1 h2
theorem mul_le {a b c : Q} (ha : 0 < a.den) (hb : 0 < b.den) (hc : 0 < c.den) (h : a.z * b.den * c.z ≤ b.z * a.den * c.z) : LeQ (mulQ a c) (mulQ b c) := by
  rw [leQ_z]
  have e1 := mulQ_val ha hc
  have e2 := mulQ_val hb hc
  have p1 := (mulQ_ok ha hc).1
  have p2 := (mulQ_ok hb hc).1
  generalize (mulQ a c).z = Az at *
  generalize (mulQ b c).z = Bz at *
  generalize (mulQ a c).den = Ad at *
  generalize (mulQ b c).den = Bd at *
  have pk : (0 : Int) < (a.den * c.den) * (b.den * c.den) := by
    have : 0 < (a.den * c.den) * (b.den * c.den) := Nat.mul_pos (Nat.mul_pos ha hc) (Nat.mul_pos hb hc)
    exact_mod_cast this
  have pm : (0 : Int) ≤ (c.den * (Ad * Bd)) := by
    have : 0 ≤ c.den * (Ad * Bd) := Nat.zero_le _
    exact_mod_cast this
  refine Int.le_of_mul_le_mul_right ?_ pk
  have l : Az * Bd * ((a.den * c.den) * (b.den * c.den)) = a.z * b.den * c.z * (c.den * (Ad * Bd)) := by
    have : Az * Bd * ((a.den * c.den) * (b.den * c.den)) = (Az * (a.den * c.den)) * (Bd * (b.den * c.den)) := by grind
    rw [this, e1]; grind
  have r : Bz * Ad * ((a.den * c.den) * (b.den * c.den)) = b.z * a.den * c.z * (c.den * (Ad * Bd)) := by
    have : Bz * Ad * ((a.den * c.den) * (b.den * c.den)) = (Bz * (b.den * c.den)) * (Ad * (a.den * c.den)) := by grind
    rw [this, e2]; grind
  rw [l, r]
  exact Int.mul_le_mul_of_nonneg_right h pm
theorem mul_up {a b c : Q} (ha : 0 < a.den) (hb : 0 < b.den) (hc : 0 < c.den) (h : LeQ a b) (h0 : 0 ≤ c.z) : LeQ (mulQ a c) (mulQ b c) :=
  mul_le ha hb hc (Int.mul_le_mul_of_nonneg_right (leQ_z.1 h) h0)
theorem mul_down {a b c : Q} (ha : 0 < a.den) (hb : 0 < b.den) (hc : 0 < c.den) (h : LeQ a b) (h0 : c.z ≤ 0) : LeQ (mulQ b c) (mulQ a c) :=
  mul_le hb ha hc (Int.mul_le_mul_of_nonpos_right (leQ_z.1 h) h0)
/-- between two numbers, in either order -/
def Betw (l m h : Q) : Prop := (LeQ l m ∧ LeQ m h) ∨ (LeQ h m ∧ LeQ m l)
theorem betw_mul {l m h c : Q} (hl : 0 < l.den) (hm : 0 < m.den) (hh : 0 < h.den) (hc : 0 < c.den) (h1 : LeQ l m) (h2 : LeQ m h) : Betw (mulQ l c) (mulQ m c) (mulQ h c) := by
  rcases Int.le_total 0 c.z with h0 | h0
  · exact .inl ⟨mul_up hl hm hc h1 h0, mul_up hm hh hc h2 h0⟩
  · exact .inr ⟨mul_down hm hh hc h2 h0, mul_down hl hm hc h1 h0⟩
theorem betw_mul' {l m h c : Q} (hl : 0 < l.den) (hm : 0 < m.den) (hh : 0 < h.den) (hc : 0 < c.den) (h1 : LeQ l m) (h2 : LeQ m h) : Betw (mulQ c l) (mulQ c m) (mulQ c h) := by
  rw [mulQ_comm hc hl, mulQ_comm hc hm, mulQ_comm hc hh]; exact betw_mul hl hm hh hc h1 h2
end Go.Proofs.YtbcoblpnihdhgaaGreatDoor.Rt

/-
  The element of a list that no other one comes before; the answers of layer 5 by it: pure facts.
-/
namespace Go.Proofs.YtbcoblpnihdhgaaGreatDoor.Rt
/-- the element that is chosen: the first one, unless a later one comes before it -/
def sel {α : Type} (d : α) (bf : α → α → Bool) : List α → α
  | [] => d
  | x :: t => t.foldl (fun f e => if bf e f then e else f) x
theorem sel_snoc {α : Type} (d : α) (bf : α → α → Bool) (m : List α) (e : α) : sel d bf (m ++ [e]) = if m.isEmpty || bf e (sel d bf m) then e else sel d bf m := by
  cases m with
  | nil => rfl
  | cons x t => simp [sel, List.foldl_append]
def lessR (x y : Raw) : Bool := decide (cmpE x y < 0)
def moreR (x y : Raw) : Bool := lessR y x
theorem cmpE_back (a b : Raw) : cmpE b a = - cmpE a b := by
  by_cases h : (okR a && okR b) = true
  · rw [Bool.and_eq_true] at h; exact cmpE_turn h.1 h.2
  · have h1 : cmpE a b = 0 := by unfold cmpE; rw [if_neg h]
    have h2 : cmpE b a = 0 := by unfold cmpE; rw [if_neg (by rw [Bool.and_comm]; exact h)]
    rw [h1, h2]; rfl
theorem minR_sel (x y : Raw) : (if lessR y x then y else x) = minR x y := by unfold lessR minR; simp only [decide_eq_true_eq]
theorem maxR_sel (x y : Raw) : (if moreR y x then y else x) = maxR x y := by
  unfold moreR lessR maxR
  have := cmpE_back x y
  by_cases h : cmpE x y < 0
  · rw [if_pos (by simpa using h), if_pos (by omega)]
  · rw [if_neg (by simpa using h), if_neg (by omega)]
theorem okI_less (i : Iv) : okI i = (okR i.low && (okR i.high && !lessR i.high i.low)) := by
  unfold okI lessR
  have := cmpE_back i.low i.high
  congr 2
  by_cases h : cmpE i.high i.low < 0
  · rw [decide_eq_true h, decide_eq_false (by omega)]; rfl
  · rw [decide_eq_false h, decide_eq_true (by omega)]; rfl
theorem hasI_less (i : Iv) (r : Raw) : hasI i r = (okI i && (okR r && (!lessR r i.low && !lessR i.high r))) := by
  unfold hasI lessR
  have h1 := cmpE_back i.low r
  have h2 := cmpE_back r i.high
  congr 2
  by_cases h : cmpE r i.low < 0
  · rw [decide_eq_true h, decide_eq_false (by omega)]; rfl
  · rw [decide_eq_false h, decide_eq_true (by omega : cmpE i.low r ≤ 0)]
    simp only [Bool.true_and, Bool.not_false]
    by_cases h' : cmpE i.high r < 0
    · rw [decide_eq_true h', decide_eq_false (by omega)]; rfl
    · rw [decide_eq_false h', decide_eq_true (by omega)]; rfl
theorem addE_kind {a b : Raw} (ha : okR a = true) (hb : okR b = true) : (addE a b).2 = 0 ∨ (addE a b).2 = 2 := by
  unfold addE; rw [ha, hb]; simp only [Bool.and_self, if_true]; split <;> simp
theorem mulE_kind {a b : Raw} (ha : okR a = true) (hb : okR b = true) : (mulE a b).2 = 0 ∨ (mulE a b).2 = 2 := by
  unfold mulE; rw [ha, hb]; simp only [Bool.and_self, if_true]; split <;> simp
-- products
/-- the four products, in the program's order -/
def prods (a b : Iv) : List (Raw × Int) := [mulE a.low b.low, mulE a.low b.high, mulE a.high b.low, mulE a.high b.high]
theorem mulI_prods {a b : Iv} (h : (okI a && okI b) = true) (h0 : ∀ x ∈ prods a b, x.2 = 0) : mulI a b = (⟨sel noRaw lessR ((prods a b).map Prod.fst), sel noRaw moreR ((prods a b).map Prod.fst)⟩, 0) := by
  unfold mulI
  rw [h, if_pos (by rfl), if_pos ⟨h0 _ (by simp [prods]), h0 _ (by simp [prods]), h0 _ (by simp [prods]), h0 _ (by simp [prods])⟩]
  simp only [prods, List.map_cons, List.map_nil, sel, List.foldl_cons, List.foldl_nil, minR_sel, maxR_sel]
  rfl
theorem mulI_bad {a b : Iv} (h : (okI a && okI b) = true) {x : Raw × Int} (hx : x ∈ prods a b) (h0 : x.2 ≠ 0) : mulI a b = (noI, 2) ∧ x.2 = 2 := by
  rw [Bool.and_eq_true] at h
  have ha := okI_iff.1 h.1
  have hb := okI_iff.1 h.2
  have hk : x.2 = 2 := by
    simp only [prods, List.mem_cons, List.not_mem_nil, or_false] at hx
    rcases hx with rfl | rfl | rfl | rfl
    · exact (mulE_kind ha.1 hb.1).resolve_left h0
    · exact (mulE_kind ha.1 hb.2.1).resolve_left h0
    · exact (mulE_kind ha.2.1 hb.1).resolve_left h0
    · exact (mulE_kind ha.2.1 hb.2.1).resolve_left h0
  refine ⟨?_, hk⟩
  unfold mulI
  rw [h.1, h.2, if_pos (by rfl), if_neg]
  rintro ⟨h1, h2, h3, h4⟩
  simp only [prods, List.mem_cons, List.not_mem_nil, or_false] at hx
  rcases hx with rfl | rfl | rfl | rfl <;> contradiction
-- hulls
def lessL (x y : Iv) : Bool := lessR x.low y.low
def moreH (x y : Iv) : Bool := lessR y.high x.high
theorem fold_low : ∀ (t : List Iv) (x y : Iv), x.low = y.low → (t.foldl (fun f e => if lessL e f then e else f) x).low = (t.foldl joinI y).low
  | [], _, _, h => h
  | e :: t, x, y, h => by
    rw [List.foldl_cons, List.foldl_cons]
    refine fold_low t _ _ ?_
    show (if lessR e.low x.low then e else x).low = minR y.low e.low
    rw [← minR_sel, h]; split <;> simp [*]
theorem fold_high : ∀ (t : List Iv) (x y : Iv), x.high = y.high → (t.foldl (fun f e => if moreH e f then e else f) x).high = (t.foldl joinI y).high
  | [], _, _, h => h
  | e :: t, x, y, h => by
    rw [List.foldl_cons, List.foldl_cons]
    refine fold_high t _ _ ?_
    show (if lessR x.high e.high then e else x).high = maxR y.high e.high
    rw [← maxR_sel, ← h]; unfold moreR; split <;> simp [*]
theorem hullI_sel {l : List Iv} (h0 : l ≠ []) (hl : l.length ≤ 1000) (hok : l.all okI = true) : hullI l = (⟨(sel noI lessL l).low, (sel noI moreH l).high⟩, 0) := by
  cases l with
  | nil => exact absurd rfl h0
  | cons x t =>
    unfold hullI; rw [if_neg (by omega), hok]
    simp only [if_true, sel, fold_low t x x rfl, fold_high t x x rfl]
-- meets
def moreL (x y : Iv) : Bool := lessR y.low x.low
def lessH (x y : Iv) : Bool := lessR x.high y.high
theorem cutI_sel (a b : Iv) : (⟨(sel noI moreL [a, b]).low, (sel noI lessH [a, b]).high⟩ : Iv) = cutI a b := by
  unfold cutI
  simp only [sel, List.foldl_cons, List.foldl_nil]
  rw [← maxR_sel, ← minR_sel]
  refine Iv.eq_of ?_ ?_
  · show (if lessR a.low b.low then b else a).low = if moreR b.low a.low then b.low else a.low
    unfold moreR; split <;> rfl
  · show (if lessR b.high a.high then b else a).high = if lessR b.high a.high then b.high else a.high
    split <;> rfl
end Go.Proofs.YtbcoblpnihdhgaaGreatDoor.Rt

/-
  What the statements of layer 5 ask of the answers: pure facts of intervals.
-/
namespace Go.Proofs.YtbcoblpnihdhgaaGreatDoor.Rt
abbrev Sz (r : Raw) : Prop := r.num.size ≤ 60 ∧ r.den.size ≤ 60
abbrev SzI (a : Iv) : Prop := Sz a.low ∧ Sz a.high
theorem in60 {r : Raw} (h : okR r = true) (hs : Sz r) : ∃ x : Q, In 60 x ∧ r = x.raw := in_of (by decide) h hs.1 hs.2
/-- a sum of valid numbers of at most 60 digits -/
theorem sum60 {r s : Raw} (hr : okR r = true) (hs : okR s = true) (zr : Sz r) (zs : Sz s) : ∃ x y : Q, x.ok ∧ y.ok ∧ r = x.raw ∧ s = y.raw ∧ addE r s = ((addQ x y).raw, 0) ∧ okR (addQ x y).raw = true := by
  obtain ⟨x, hx, rfl⟩ := in60 hr zr
  obtain ⟨y, hy, rfl⟩ := in60 hs zs
  exact ⟨x, y, hx.1, hy.1, rfl, rfl, vAdd hx hy (by decide) (by decide) (by decide), (hx.add hy).okR (by decide) (by decide)⟩
theorem prod60 {r s : Raw} (hr : okR r = true) (hs : okR s = true) (zr : Sz r) (zs : Sz s) : ∃ x y : Q, x.ok ∧ y.ok ∧ r = x.raw ∧ s = y.raw ∧ mulE r s = ((mulQ x y).raw, 0) ∧ okR (mulQ x y).raw = true := by
  obtain ⟨x, hx, rfl⟩ := in60 hr zr
  obtain ⟨y, hy, rfl⟩ := in60 hs zs
  exact ⟨x, y, hx.1, hy.1, rfl, rfl, vMul hx hy (by decide) (by decide) (by decide), (hx.mul hy).okR (by decide) (by decide)⟩
theorem sum_ok {r s : Raw} (hr : okR r = true) (hs : okR s = true) (zr : Sz r) (zs : Sz s) : addE r s = ((addE r s).1, 0) ∧ okR (addE r s).1 = true := by
  obtain ⟨x, y, _, _, _, _, e, o⟩ := sum60 hr hs zr zs
  rw [e]; exact ⟨rfl, o⟩
theorem prod_ok {r s : Raw} (hr : okR r = true) (hs : okR s = true) (zr : Sz r) (zs : Sz s) : mulE r s = ((mulE r s).1, 0) ∧ okR (mulE r s).1 = true := by
  obtain ⟨x, y, _, _, _, _, e, o⟩ := prod60 hr hs zr zs
  rw [e]; exact ⟨rfl, o⟩
theorem sum_mono {a b c d : Raw} (ha : okR a = true) (hb : okR b = true) (hc : okR c = true) (hd : okR d = true) (za : Sz a) (zb : Sz b) (zc : Sz c) (zd : Sz d) (h : LeR a b) (h' : LeR c d) : LeR (addE a c).1 (addE b d).1 := by
  obtain ⟨x, hx, rfl⟩ := in60 ha za
  obtain ⟨y, hy, rfl⟩ := in60 hb zb
  obtain ⟨z, hz, rfl⟩ := in60 hc zc
  obtain ⟨u, hu, rfl⟩ := in60 hd zd
  rw [vAdd hx hz (by decide) (by decide) (by decide), vAdd hy hu (by decide) (by decide) (by decide)]
  rw [leR_raw ha hb] at h
  rw [leR_raw hc hd] at h'
  exact (leR_raw ((hx.add hz).okR (by decide) (by decide)) ((hy.add hu).okR (by decide) (by decide))).2 (add_mono hx.1.1 hy.1.1 hz.1.1 hu.1.1 h h')
theorem sum_comm {a b : Raw} (ha : okR a = true) (hb : okR b = true) (za : Sz a) (zb : Sz b) : addE a b = addE b a := by
  obtain ⟨x, hx, rfl⟩ := in60 ha za
  obtain ⟨y, hy, rfl⟩ := in60 hb zb
  rw [vAdd hx hy (by decide) (by decide) (by decide), vAdd hy hx (by decide) (by decide) (by decide), addQ_comm hx.1.1 hy.1.1]
theorem prod_comm {a b : Raw} (ha : okR a = true) (hb : okR b = true) (za : Sz a) (zb : Sz b) : mulE a b = mulE b a := by
  obtain ⟨x, hx, rfl⟩ := in60 ha za
  obtain ⟨y, hy, rfl⟩ := in60 hb zb
  rw [vMul hx hy (by decide) (by decide) (by decide), vMul hy hx (by decide) (by decide) (by decide), mulQ_comm hx.1.1 hy.1.1]
def BetwR (l m h : Raw) : Prop := (LeR l m ∧ LeR m h) ∨ (LeR h m ∧ LeR m l)
theorem prod_betw {l m h c : Raw} (ol : okR l = true) (om : okR m = true) (oh : okR h = true) (oc : okR c = true) (zl : Sz l) (zm : Sz m) (zh : Sz h) (zc : Sz c) (h1 : LeR l m) (h2 : LeR m h) :
    BetwR (mulE l c).1 (mulE m c).1 (mulE h c).1 := by
  obtain ⟨x, hx, rfl⟩ := in60 ol zl
  obtain ⟨y, hy, rfl⟩ := in60 om zm
  obtain ⟨z, hz, rfl⟩ := in60 oh zh
  obtain ⟨u, hu, rfl⟩ := in60 oc zc
  rw [vMul hx hu (by decide) (by decide) (by decide), vMul hy hu (by decide) (by decide) (by decide), vMul hz hu (by decide) (by decide) (by decide)]
  rw [leR_raw ol om] at h1
  rw [leR_raw om oh] at h2
  have o1 := (hx.mul hu).okR (by decide) (by decide)
  have o2 := (hy.mul hu).okR (by decide) (by decide)
  have o3 := (hz.mul hu).okR (by decide) (by decide)
  have hb := betw_mul hx.1.1 hy.1.1 hz.1.1 hu.1.1 h1 h2
  unfold BetwR
  rw [leR_raw o1 o2, leR_raw o2 o3, leR_raw o3 o2, leR_raw o2 o1]
  exact hb
theorem betw_ge {l m h z : Raw} (ol : okR l = true) (om : okR m = true) (oh : okR h = true) (oz : okR z = true) (hb : BetwR l m h) (h1 : LeR z l) (h2 : LeR z h) : LeR z m := by
  rcases hb with h | h
  · exact leR_trans oz ol om h1 h.1
  · exact leR_trans oz oh om h2 h.1
theorem betw_le {l m h z : Raw} (ol : okR l = true) (om : okR m = true) (oh : okR h = true) (oz : okR z = true) (hb : BetwR l m h) (h1 : LeR l z) (h2 : LeR h z) : LeR m z := by
  rcases hb with h | h
  · exact leR_trans om oh oz h.2 h2
  · exact leR_trans om ol oz h.2 h1
/-- the least and the greatest of four numbers -/
structure Ends4 (p q r s m n : Raw) : Prop where
  okm : okR m = true
  okn : okR n = true
  lo : LeR m p ∧ LeR m q ∧ LeR m r ∧ LeR m s
  hi : LeR p n ∧ LeR q n ∧ LeR r n ∧ LeR s n
  onem : m = p ∨ m = q ∨ m = r ∨ m = s
  onen : n = p ∨ n = q ∨ n = r ∨ n = s
theorem ends4 {p q r s : Raw} (hp : okR p = true) (hq : okR q = true) (hr : okR r = true) (hs : okR s = true) : Ends4 p q r s (minR (minR (minR p q) r) s) (maxR (maxR (maxR p q) r) s) := by
  have a1 := min_of hp hq
  have a2 := min_of a1.ok hr
  have a3 := min_of a2.ok hs
  have b1 := max_of hp hq
  have b2 := max_of b1.ok hr
  have b3 := max_of b2.ok hs
  have c2 := leR_trans a3.ok a2.ok a1.ok a3.left a2.left
  have d2 := leR_trans b1.ok b2.ok b3.ok b2.left b3.left
  refine ⟨a3.ok, b3.ok, ⟨leR_trans a3.ok a1.ok hp c2 a1.left, leR_trans a3.ok a1.ok hq c2 a1.right, leR_trans a3.ok a2.ok hr a3.left a2.right, a3.right⟩,
    ⟨leR_trans hp b1.ok b3.ok b1.left d2, leR_trans hq b1.ok b3.ok b1.right d2, leR_trans hr b2.ok b3.ok b2.right b3.left, b3.right⟩, ?_, ?_⟩
  · rcases a3.one with e | e
    · rw [e]; rcases a2.one with e | e
      · rw [e]; rcases a1.one with e | e
        · exact .inl e
        · exact .inr (.inl e)
      · exact .inr (.inr (.inl e))
    · exact .inr (.inr (.inr e))
  · rcases b3.one with e | e
    · rw [e]; rcases b2.one with e | e
      · rw [e]; rcases b1.one with e | e
        · exact .inl e
        · exact .inr (.inl e)
      · exact .inr (.inr (.inl e))
    · exact .inr (.inr (.inr e))
theorem ends4_same {p q r s m n m' n' : Raw} (h : Ends4 p q r s m n) (h' : Ends4 p r q s m' n') : m = m' ∧ n = n' := by
  constructor
  · refine leR_anti h.okm h'.okm ?_ ?_
    · rcases h'.onem with e | e | e | e <;> rw [e]
      · exact h.lo.1
      · exact h.lo.2.2.1
      · exact h.lo.2.1
      · exact h.lo.2.2.2
    · rcases h.onem with e | e | e | e <;> rw [e]
      · exact h'.lo.1
      · exact h'.lo.2.2.1
      · exact h'.lo.2.1
      · exact h'.lo.2.2.2
  · refine leR_anti h.okn h'.okn ?_ ?_
    · rcases h.onen with e | e | e | e <;> rw [e]
      · exact h'.hi.1
      · exact h'.hi.2.2.1
      · exact h'.hi.2.1
      · exact h'.hi.2.2.2
    · rcases h'.onen with e | e | e | e <;> rw [e]
      · exact h.hi.1
      · exact h.hi.2.2.1
      · exact h.hi.2.1
      · exact h.hi.2.2.2
theorem mul_val {a b : Iv} (ha : okI a = true) (hb : okI b = true) (za : SzI a) (zb : SzI b) :
    Ends4 (mulE a.low b.low).1 (mulE a.low b.high).1 (mulE a.high b.low).1 (mulE a.high b.high).1 (lowM a b) (highM a b) ∧ mulI a b = (⟨lowM a b, highM a b⟩, 0) ∧ okI ⟨lowM a b, highM a b⟩ = true := by
  have ha' := okI_iff.1 ha
  have hb' := okI_iff.1 hb
  have p := prod_ok ha'.1 hb'.1 za.1 zb.1
  have q := prod_ok ha'.1 hb'.2.1 za.1 zb.2
  have r := prod_ok ha'.2.1 hb'.1 za.2 zb.1
  have s := prod_ok ha'.2.1 hb'.2.1 za.2 zb.2
  have h := ends4 p.2 q.2 r.2 s.2
  refine ⟨h, ?_, okI_iff.2 ⟨h.okm, h.okn, leR_trans h.okm p.2 h.okn h.lo.1 h.hi.1⟩⟩
  unfold mulI
  rw [ha, hb, if_pos (by rfl), if_pos ⟨by rw [p.1], by rw [q.1], by rw [r.1], by rw [s.1]⟩]
theorem add_val {a b : Iv} (ha : okI a = true) (hb : okI b = true) (za : SzI a) (zb : SzI b) :
    addI a b = (⟨(addE a.low b.low).1, (addE a.high b.high).1⟩, 0) ∧ okI ⟨(addE a.low b.low).1, (addE a.high b.high).1⟩ = true := by
  have ha' := okI_iff.1 ha
  have hb' := okI_iff.1 hb
  have p := sum_ok ha'.1 hb'.1 za.1 zb.1
  have q := sum_ok ha'.2.1 hb'.2.1 za.2 zb.2
  refine ⟨?_, okI_iff.2 ⟨p.2, q.2, sum_mono ha'.1 ha'.2.1 hb'.1 hb'.2.1 za.1 za.2 zb.1 zb.2 ha'.2.2 hb'.2.2⟩⟩
  unfold addI
  rw [ha, hb, if_pos (by rfl), if_pos ⟨by rw [p.1], by rw [q.1]⟩]
theorem bad_val {a b : Iv} (h : (okI a && okI b) = false) : addI a b = (noI, 1) ∧ mulI a b = (noI, 1) := by
  unfold addI mulI; rw [h]; exact ⟨rfl, rfl⟩
/-- P5.2 -/
theorem has_sum {a b : Iv} {r s : Raw} (hr : hasI a r = true) (hs : hasI b s = true) (za : SzI a) (zb : SzI b) (zr : Sz r) (zs : Sz s) :
    hasI ⟨(addE a.low b.low).1, (addE a.high b.high).1⟩ (addE r s).1 = true := by
  obtain ⟨ha, or, h1, h2⟩ := hasI_iff.1 hr
  obtain ⟨hb, os, h3, h4⟩ := hasI_iff.1 hs
  have ha' := okI_iff.1 ha
  have hb' := okI_iff.1 hb
  exact hasI_iff.2 ⟨(add_val ha hb za zb).2, (sum_ok or os zr zs).2, sum_mono ha'.1 or hb'.1 os za.1 zr zb.1 zs h1 h3, sum_mono or ha'.2.1 os hb'.2.1 zr za.2 zs zb.2 h2 h4⟩
theorem has_prod {a b : Iv} {r s : Raw} (hr : hasI a r = true) (hs : hasI b s = true) (za : SzI a) (zb : SzI b) (zr : Sz r) (zs : Sz s) :
    hasI ⟨lowM a b, highM a b⟩ (mulE r s).1 = true := by
  obtain ⟨ha, or, h1, h2⟩ := hasI_iff.1 hr
  obtain ⟨hb, os, h3, h4⟩ := hasI_iff.1 hs
  have ha' := okI_iff.1 ha
  have hb' := okI_iff.1 hb
  obtain ⟨he, _, ho⟩ := mul_val ha hb za zb
  have p := prod_ok ha'.1 hb'.1 za.1 zb.1
  have q := prod_ok ha'.1 hb'.2.1 za.1 zb.2
  have r' := prod_ok ha'.2.1 hb'.1 za.2 zb.1
  have s' := prod_ok ha'.2.1 hb'.2.1 za.2 zb.2
  have l' := prod_ok ha'.1 os za.1 zs
  have h' := prod_ok ha'.2.1 os za.2 zs
  have o := prod_ok or os zr zs
  have b0 := prod_betw ha'.1 or ha'.2.1 os za.1 zr za.2 zs h1 h2
  have b1 := prod_betw hb'.1 os hb'.2.1 ha'.1 zb.1 zs zb.2 za.1 h3 h4
  have b2 := prod_betw hb'.1 os hb'.2.1 ha'.2.1 zb.1 zs zb.2 za.2 h3 h4
  rw [prod_comm hb'.1 ha'.1 zb.1 za.1, prod_comm os ha'.1 zs za.1, prod_comm hb'.2.1 ha'.1 zb.2 za.1] at b1
  rw [prod_comm hb'.1 ha'.2.1 zb.1 za.2, prod_comm os ha'.2.1 zs za.2, prod_comm hb'.2.1 ha'.2.1 zb.2 za.2] at b2
  refine hasI_iff.2 ⟨ho, o.2, ?_, ?_⟩
  · exact betw_ge l'.2 o.2 h'.2 he.okm b0 (betw_ge p.2 l'.2 q.2 he.okm b1 he.lo.1 he.lo.2.1) (betw_ge r'.2 h'.2 s'.2 he.okm b2 he.lo.2.2.1 he.lo.2.2.2)
  · exact betw_le l'.2 o.2 h'.2 he.okn b0 (betw_le p.2 l'.2 q.2 he.okn b1 he.hi.1 he.hi.2.1) (betw_le r'.2 h'.2 s'.2 he.okn b2 he.hi.2.2.1 he.hi.2.2.2)
theorem contains_pure {a b : Iv} {r s : Raw} (hr : hasI a r = true) (hs : hasI b s = true) (za : SzI a) (zb : SzI b) (zr : Sz r) (zs : Sz s) :
    ∃ (c d : Iv) (x y : Raw), addI a b = (c, 0) ∧ mulI a b = (d, 0) ∧ addE r s = (x, 0) ∧ mulE r s = (y, 0) ∧ hasI c x = true ∧ hasI d y = true := by
  obtain ⟨ha, or, _, _⟩ := hasI_iff.1 hr
  obtain ⟨hb, os, _, _⟩ := hasI_iff.1 hs
  exact ⟨_, _, _, _, (add_val ha hb za zb).1, (mul_val ha hb za zb).2.1, (sum_ok or os zr zs).1, (prod_ok or os zr zs).1, has_sum hr hs za zb zr zs, has_prod hr hs za zb zr zs⟩
/-- P5.3 -/
theorem ends_pure {a b : Iv} (ha : okI a = true) (hb : okI b = true) (za : SzI a) (zb : SzI b) :
    ∃ (x y p q r s : Raw) (d : Iv), addE a.low b.low = (x, 0) ∧ addE a.high b.high = (y, 0) ∧ addI a b = (⟨x, y⟩, 0) ∧ okI ⟨x, y⟩ = true ∧
      mulE a.low b.low = (p, 0) ∧ mulE a.low b.high = (q, 0) ∧ mulE a.high b.low = (r, 0) ∧ mulE a.high b.high = (s, 0) ∧ mulI a b = (d, 0) ∧ okI d = true ∧
      (d.low = p ∨ d.low = q ∨ d.low = r ∨ d.low = s) ∧ (d.high = p ∨ d.high = q ∨ d.high = r ∨ d.high = s) := by
  have ha' := okI_iff.1 ha
  have hb' := okI_iff.1 hb
  obtain ⟨he, hm, ho⟩ := mul_val ha hb za zb
  obtain ⟨hs, hso⟩ := add_val ha hb za zb
  exact ⟨_, _, _, _, _, _, _, (sum_ok ha'.1 hb'.1 za.1 zb.1).1, (sum_ok ha'.2.1 hb'.2.1 za.2 zb.2).1, hs, hso, (prod_ok ha'.1 hb'.1 za.1 zb.1).1, (prod_ok ha'.1 hb'.2.1 za.1 zb.2).1,
    (prod_ok ha'.2.1 hb'.1 za.2 zb.1).1, (prod_ok ha'.2.1 hb'.2.1 za.2 zb.2).1, hm, ho, he.onem, he.onen⟩
/-- P5.5 -/
theorem meets_pure (a b : Iv) : (∃ c, meetI a b = (c, true) ∧ okI a = true ∧ okI b = true ∧ okI c = true ∧ ∀ r, (hasI a r && hasI b r) = hasI c r) ∨ (meetI a b = (noI, false) ∧ ∀ r, (hasI a r && hasI b r) = false) := by
  by_cases h : (okI a && okI b) = true
  case neg =>
    right
    refine ⟨by unfold meetI; rw [if_neg h], fun r => ?_⟩
    rw [Bool.eq_false_iff]
    intro e
    rw [Bool.and_eq_true, hasI_iff, hasI_iff] at e
    exact h (by rw [e.1.1, e.2.1]; rfl)
  have h' := h
  rw [Bool.and_eq_true] at h'
  have ha' := okI_iff.1 h'.1
  have hb' := okI_iff.1 h'.2
  have hm := max_of ha'.1 hb'.1
  have hn := min_of ha'.2.1 hb'.2.1
  have key : ∀ r, okR r = true → ((hasI a r && hasI b r) = true ↔ LeR (maxR a.low b.low) r ∧ LeR r (minR a.high b.high)) := by
    intro r hr
    rw [Bool.and_eq_true, hasI_iff, hasI_iff]
    constructor
    · rintro ⟨⟨_, _, l1, u1⟩, ⟨_, _, l2, u2⟩⟩
      exact ⟨max_le l1 l2, min_ge u1 u2⟩
    · rintro ⟨l, u⟩
      exact ⟨⟨h'.1, hr, leR_trans ha'.1 hm.ok hr hm.left l, leR_trans hr hn.ok ha'.2.1 u hn.left⟩, ⟨h'.2, hr, leR_trans hb'.1 hm.ok hr hm.right l, leR_trans hr hn.ok hb'.2.1 u hn.right⟩⟩
  by_cases hc : okI (cutI a b) = true
  · left
    refine ⟨cutI a b, by unfold meetI; rw [if_pos h, if_pos hc], h'.1, h'.2, hc, fun r => ?_⟩
    rw [Bool.eq_iff_iff]
    by_cases hr : okR r = true
    · rw [key r hr, hasI_iff]
      exact ⟨fun e => ⟨hc, hr, e.1, e.2⟩, fun e => ⟨e.2.2.1, e.2.2.2⟩⟩
    · constructor
      · intro e; rw [Bool.and_eq_true, hasI_iff] at e; exact absurd e.1.2.1 hr
      · intro e; rw [hasI_iff] at e; exact absurd e.2.1 hr
  · right
    refine ⟨by unfold meetI; rw [if_pos h, if_neg hc], fun r => ?_⟩
    rw [Bool.eq_false_iff]
    intro e
    have hr : okR r = true := by have := e; rw [Bool.and_eq_true, hasI_iff] at this; exact this.1.2.1
    have := (key r hr).1 e
    exact hc (okI_iff.2 ⟨hm.ok, hn.ok, leR_trans hm.ok hr hn.ok this.1 this.2⟩)
/-- P5.6 -/
theorem add_swap {a b : Iv} (za : SzI a) (zb : SzI b) : addI a b = addI b a := by
  by_cases ha : okI a = true
  · by_cases hb : okI b = true
    · have ha' := okI_iff.1 ha
      have hb' := okI_iff.1 hb
      rw [(add_val ha hb za zb).1, (add_val hb ha zb za).1, sum_comm ha'.1 hb'.1 za.1 zb.1, sum_comm ha'.2.1 hb'.2.1 za.2 zb.2]
    · have hb := Bool.eq_false_iff.2 hb
      rw [(bad_val (a := a) (b := b) (by rw [hb]; simp)).1, (bad_val (a := b) (b := a) (by rw [hb]; rfl)).1]
  · have ha := Bool.eq_false_iff.2 ha
    rw [(bad_val (a := a) (b := b) (by rw [ha]; rfl)).1, (bad_val (a := b) (b := a) (by rw [ha]; simp)).1]
theorem mul_swap {a b : Iv} (za : SzI a) (zb : SzI b) : mulI a b = mulI b a := by
  by_cases ha : okI a = true
  · by_cases hb : okI b = true
    · have ha' := okI_iff.1 ha
      have hb' := okI_iff.1 hb
      obtain ⟨e1, m1, _⟩ := mul_val ha hb za zb
      obtain ⟨e2, m2, _⟩ := mul_val hb ha zb za
      rw [prod_comm hb'.1 ha'.1 zb.1 za.1, prod_comm hb'.1 ha'.2.1 zb.1 za.2, prod_comm hb'.2.1 ha'.1 zb.2 za.1, prod_comm hb'.2.1 ha'.2.1 zb.2 za.2] at e2
      have := ends4_same e1 e2
      rw [m1, m2, this.1, this.2]
    · have hb := Bool.eq_false_iff.2 hb
      rw [(bad_val (a := a) (b := b) (by rw [hb]; simp)).2, (bad_val (a := b) (b := a) (by rw [hb]; rfl)).2]
  · have ha := Bool.eq_false_iff.2 ha
    rw [(bad_val (a := a) (b := b) (by rw [ha]; rfl)).2, (bad_val (a := b) (b := a) (by rw [ha]; simp)).2]
theorem min_swap {x y : Raw} (hx : okR x = true) (hy : okR y = true) : minR x y = minR y x :=
  leR_anti (min_of hx hy).ok (min_of hy hx).ok (min_ge (min_of hx hy).right (min_of hx hy).left) (min_ge (min_of hy hx).right (min_of hy hx).left)
theorem max_swap {x y : Raw} (hx : okR x = true) (hy : okR y = true) : maxR x y = maxR y x :=
  leR_anti (max_of hx hy).ok (max_of hy hx).ok (max_le (max_of hy hx).right (max_of hy hx).left) (max_le (max_of hx hy).right (max_of hx hy).left)
theorem meet_swap (a b : Iv) : meetI a b = meetI b a := by
  unfold meetI
  rw [Bool.and_comm (okI b) (okI a)]
  by_cases h : (okI a && okI b) = true
  · rw [if_pos h, if_pos h]
    rw [Bool.and_eq_true] at h
    have ha' := okI_iff.1 h.1
    have hb' := okI_iff.1 h.2
    have e : cutI a b = cutI b a := Iv.eq_of (max_swap ha'.1 hb'.1) (min_swap ha'.2.1 hb'.2.1)
    rw [e]
  · rw [if_neg h, if_neg h]
theorem wider_pure {a b c : Iv} (ha : okI a = true) (h1 : hasI b a.low = true) (h2 : hasI b a.high = true) (za : SzI a) (zb : SzI b) (zc : SzI c) :
    (okI c = false ∧ addI a c = (noI, 1) ∧ addI b c = (noI, 1) ∧ mulI a c = (noI, 1) ∧ mulI b c = (noI, 1)) ∨
    (okI c = true ∧ ∃ p q x y : Iv, addI a c = (p, 0) ∧ addI b c = (q, 0) ∧ mulI a c = (x, 0) ∧ mulI b c = (y, 0) ∧ hasI q p.low = true ∧ hasI q p.high = true ∧ hasI y x.low = true ∧ hasI y x.high = true) := by
  by_cases hc : okI c = true
  case neg =>
    have hc := Bool.eq_false_iff.2 hc
    left
    have e1 : (okI a && okI c) = false := by rw [hc]; simp
    have e2 : (okI b && okI c) = false := by rw [hc]; simp
    exact ⟨hc, (bad_val e1).1, (bad_val e2).1, (bad_val e1).2, (bad_val e2).2⟩
  right
  have hb := (hasI_iff.1 h1).1
  have ha' := okI_iff.1 ha
  have hc' := okI_iff.1 hc
  have c1 : hasI c c.low = true := hasI_iff.2 ⟨hc, hc'.1, leR_refl hc'.1, hc'.2.2⟩
  have c2 : hasI c c.high = true := hasI_iff.2 ⟨hc, hc'.2.1, hc'.2.2, leR_refl hc'.2.1⟩
  obtain ⟨e1, m1, _⟩ := mul_val ha hc za zc
  obtain ⟨e2, m2, _⟩ := mul_val hb hc zb zc
  have k1 := has_prod h1 c1 zb zc za.1 zc.1
  have k2 := has_prod h1 c2 zb zc za.1 zc.2
  have k3 := has_prod h2 c1 zb zc za.2 zc.1
  have k4 := has_prod h2 c2 zb zc za.2 zc.2
  refine ⟨hc, _, _, _, _, (add_val ha hc za zc).1, (add_val hb hc zb zc).1, m1, m2, has_sum h1 c1 zb zc za.1 zc.1, has_sum h2 c2 zb zc za.2 zc.2, ?_, ?_⟩
  · show hasI _ (lowM a c) = true
    rcases e1.onem with e | e | e | e <;> rw [e] <;> assumption
  · show hasI _ (highM a c) = true
    rcases e1.onen with e | e | e | e <;> rw [e] <;> assumption
/-- P5.4: what a hull is -/
structure HullOf (l : List Iv) (h : Iv) : Prop where
  okl : okR h.low = true
  okh : okR h.high = true
  lo : ∀ i ∈ l, LeR h.low i.low
  hi : ∀ i ∈ l, LeR i.high h.high
  onel : ∃ i ∈ l, i.low = h.low
  oneh : ∃ i ∈ l, i.high = h.high
theorem hull_one {x : Iv} (hx : okI x = true) : HullOf [x] x := by
  have h := okI_iff.1 hx
  exact ⟨h.1, h.2.1, by intro i hi; simp only [List.mem_singleton] at hi; subst hi; exact leR_refl h.1, by intro i hi; simp only [List.mem_singleton] at hi; subst hi; exact leR_refl h.2.1, ⟨x, by simp, rfl⟩, ⟨x, by simp, rfl⟩⟩
theorem hull_snoc {l : List Iv} {h x : Iv} (hl : ∀ i ∈ l, okI i = true) (hh : HullOf l h) (hx : okI x = true) : HullOf (l ++ [x]) (joinI h x) := by
  have hx' := okI_iff.1 hx
  have m := min_of hh.okl hx'.1
  have n := max_of hh.okh hx'.2.1
  refine ⟨m.ok, n.ok, ?_, ?_, ?_, ?_⟩
  · intro i hi
    rcases List.mem_append.1 hi with hi | hi
    · exact leR_trans m.ok hh.okl (okI_iff.1 (hl i hi)).1 m.left (hh.lo i hi)
    · simp only [List.mem_singleton] at hi; subst hi; exact m.right
  · intro i hi
    rcases List.mem_append.1 hi with hi | hi
    · exact leR_trans (okI_iff.1 (hl i hi)).2.1 hh.okh n.ok (hh.hi i hi) n.left
    · simp only [List.mem_singleton] at hi; subst hi; exact n.right
  · rcases m.one with e | e
    · obtain ⟨i, hi, e'⟩ := hh.onel
      exact ⟨i, List.mem_append.2 (.inl hi), e'.trans e.symm⟩
    · exact ⟨x, by simp, e.symm⟩
  · rcases n.one with e | e
    · obtain ⟨i, hi, e'⟩ := hh.oneh
      exact ⟨i, List.mem_append.2 (.inl hi), e'.trans e.symm⟩
    · exact ⟨x, by simp, e.symm⟩
theorem hull_fold : ∀ (t l : List Iv) (h : Iv), (∀ i ∈ l, okI i = true) → (∀ i ∈ t, okI i = true) → HullOf l h → HullOf (l ++ t) (t.foldl joinI h)
  | [], l, h, _, _, hh => by simpa using hh
  | x :: t, l, h, hl, ht, hh => by
    have hx := ht x (by simp)
    have := hull_fold t (l ++ [x]) (joinI h x) (by
      intro i hi
      rcases List.mem_append.1 hi with hi | hi
      · exact hl i hi
      · simp only [List.mem_singleton] at hi; subst hi; exact hx) (fun i hi => ht i (by simp [hi])) (hull_snoc hl hh hx)
    simpa [List.append_assoc] using this
theorem hull_same {l m : List Iv} {h k : Iv} (hm : ∀ i, i ∈ l ↔ i ∈ m) (hh : HullOf l h) (hk : HullOf m k) : h = k := by
  refine Iv.eq_of (leR_anti hh.okl hk.okl ?_ ?_) (leR_anti hh.okh hk.okh ?_ ?_)
  · obtain ⟨i, hi, e⟩ := hk.onel; rw [← e]; exact hh.lo i ((hm i).2 hi)
  · obtain ⟨i, hi, e⟩ := hh.onel; rw [← e]; exact hk.lo i ((hm i).1 hi)
  · obtain ⟨i, hi, e⟩ := hh.oneh; rw [← e]; exact hk.hi i ((hm i).1 hi)
  · obtain ⟨i, hi, e⟩ := hk.oneh; rw [← e]; exact hh.hi i ((hm i).2 hi)
theorem hull_val {l : List Iv} (h0 : l ≠ []) (hl : l.length ≤ 1000) (hok : ∀ i ∈ l, okI i = true) : ∃ h, hullI l = (h, 0) ∧ HullOf l h := by
  cases l with
  | nil => exact absurd rfl h0
  | cons x t =>
    have ha : (x :: t).all okI = true := by rw [List.all_eq_true]; exact hok
    refine ⟨t.foldl joinI x, ?_, ?_⟩
    · unfold hullI; rw [if_neg (by omega), ha]; rfl
    · have := hull_fold t [x] x (by intro i hi; simp only [List.mem_singleton] at hi; subst hi; exact hok _ (by simp)) (fun i hi => hok i (by simp [hi])) (hull_one (hok x (by simp)))
      simpa using this
theorem hulls_pure {l : List Iv} (hlen : l.length ≤ 12) :
    (l = [] ∧ hullI l = (noI, 10)) ∨ (l ≠ [] ∧ hullI l = (noI, 1)) ∨
    (l ≠ [] ∧ ∃ h, hullI l = (h, 0) ∧ hullI l.reverse = (h, 0) ∧ okI h = true ∧ (∀ i ∈ l, (∀ r, hasI i r = true → hasI h r = true) ∧ hasI h i.low = true ∧ hasI h i.high = true) ∧ (∃ i ∈ l, i.low = h.low) ∧ (∃ i ∈ l, i.high = h.high)) := by
  by_cases h0 : l = []
  · left; subst h0; exact ⟨rfl, rfl⟩
  by_cases ha : l.all okI = true
  case neg =>
    right; left
    refine ⟨h0, ?_⟩
    unfold hullI; rw [if_neg (by omega), if_neg ha]
  right; right
  rw [List.all_eq_true] at ha
  obtain ⟨h, e, hh⟩ := hull_val h0 (by omega) ha
  obtain ⟨k, e', hk⟩ := hull_val (l := l.reverse) (by simpa using h0) (by simp; omega) (fun i hi => ha i (by simpa using hi))
  have hs : h = k := hull_same (fun i => by simp) hh hk
  subst hs
  have hoh : okI h = true := by
    obtain ⟨i, hi, e⟩ := hh.onel
    have h' := okI_iff.1 (ha i hi)
    refine okI_iff.2 ⟨hh.okl, hh.okh, ?_⟩
    rw [← e]; exact leR_trans h'.1 h'.2.1 hh.okh h'.2.2 (hh.hi i hi)
  refine ⟨h0, h, e, e', hoh, fun i hi => ?_, hh.onel, hh.oneh⟩
  have h' := okI_iff.1 (ha i hi)
  refine ⟨fun r hr => ?_, ?_, ?_⟩
  · obtain ⟨_, o, l1, u1⟩ := hasI_iff.1 hr
    exact hasI_iff.2 ⟨hoh, o, leR_trans hh.okl h'.1 o (hh.lo i hi) l1, leR_trans o h'.2.1 hh.okh u1 (hh.hi i hi)⟩
  · exact hasI_iff.2 ⟨hoh, h'.1, hh.lo i hi, leR_trans h'.1 h'.2.1 hh.okh h'.2.2 (hh.hi i hi)⟩
  · exact hasI_iff.2 ⟨hoh, h'.2.1, leR_trans hh.okl h'.1 h'.2.1 (hh.lo i hi) h'.2.2, hh.hi i hi⟩
end Go.Proofs.YtbcoblpnihdhgaaGreatDoor.Rt

/-
  The chapter's examples of layer 5, as the answers have them.
-/
namespace Go.Proofs.YtbcoblpnihdhgaaGreatDoor.Rt
/-- the interval of two quotients -/
def iv (a b c d : Int) : Iv := ⟨(ofE a b).1, (ofE c d).1⟩
theorem iv_is {a b c d : Int} {x y : Q} (hb : b ≠ 0) (hd : d ≠ 0) (hx : ofQ a b = x) (hy : ofQ c d = y) : iv a b c d = ⟨x.raw, y.raw⟩ := by
  unfold iv; rw [ofE_val hb, ofE_val hd, hx, hy]
theorem sm_in {x : Q} (h : okQB x = true) (h1 : x.num < 10 ^ 2) (h2 : x.den < 10 ^ 2) : In 2 x := ⟨okQB_iff.1 h, h1, h2⟩
theorem sm_ok {x : Q} (h : In 2 x) : okR x.raw = true := h.okR (by decide) (by decide)
theorem okI_val {x y : Q} (hx : In 2 x) (hy : In 2 y) : okI ⟨x.raw, y.raw⟩ = decide (cmpQ x y ≤ 0) := by
  unfold okI; simp only [sm_ok hx, sm_ok hy, cmpE_val (sm_ok hx) (sm_ok hy), Bool.true_and]
theorem minR_lt {x y : Q} (hx : In 2 x) (hy : In 2 y) (h : cmpQ y x < 0) : minR x.raw y.raw = y.raw := by
  unfold minR; rw [cmpE_val (sm_ok hy) (sm_ok hx), if_pos h]
theorem minR_ge {x y : Q} (hx : In 2 x) (hy : In 2 y) (h : ¬ cmpQ y x < 0) : minR x.raw y.raw = x.raw := by
  unfold minR; rw [cmpE_val (sm_ok hy) (sm_ok hx), if_neg h]
theorem maxR_lt {x y : Q} (hx : In 2 x) (hy : In 2 y) (h : 0 < cmpQ y x) : maxR x.raw y.raw = y.raw := by
  unfold maxR; rw [cmpE_val (sm_ok hy) (sm_ok hx), if_pos h]
theorem maxR_ge {x y : Q} (hx : In 2 x) (hy : In 2 y) (h : ¬ 0 < cmpQ y x) : maxR x.raw y.raw = x.raw := by
  unfold maxR; rw [cmpE_val (sm_ok hy) (sm_ok hx), if_neg h]
theorem add_q {x y z : Q} (hx : In 2 x) (hy : In 2 y) (h : addQ x y = z) : addE x.raw y.raw = (z.raw, 0) := by
  rw [vAdd hx hy (by decide) (by decide) (by decide), h]
theorem mul_q {x y z : Q} (hx : In 2 x) (hy : In 2 y) (h : mulQ x y = z) : mulE x.raw y.raw = (z.raw, 0) := by
  rw [vMul hx hy (by decide) (by decide) (by decide), h]
abbrev qn (n : Nat) : Q := ⟨false, n, 1⟩
abbrev qm (n : Nat) : Q := ⟨true, n, 1⟩
abbrev qh : Q := ⟨false, 1, 2⟩
theorem qn_in (n : Nat) (h : n < 100) : In 2 (qn n) := sm_in (by simp [okQB]) (by simpa using h) (by simp)
theorem qm_in (n : Nat) (h : n < 100) (h0 : n ≠ 0) : In 2 (qm n) := sm_in (by simp [okQB, h0]) (by simpa using h) (by simp)
theorem qh_in : In 2 qh := sm_in (by decide) (by decide) (by decide)
theorem e_add : addI (iv 1 2 1 1) (iv (-1) 1 2 1) = (iv (-1) 2 3 1, 0) := by
  rw [iv_is (x := qh) (y := qn 1) (by decide) (by decide) rfl rfl, iv_is (x := qm 1) (y := qn 2) (by decide) (by decide) rfl rfl, iv_is (x := ⟨true, 1, 2⟩) (y := qn 3) (by decide) (by decide) rfl rfl]
  unfold addI
  rw [okI_val qh_in (qn_in 1 (by decide)), okI_val (qm_in 1 (by decide) (by decide)) (qn_in 2 (by decide)), if_pos (by decide)]
  simp only
  rw [add_q qh_in (qm_in 1 (by decide) (by decide)) (z := ⟨true, 1, 2⟩) rfl, add_q (qn_in 1 (by decide)) (qn_in 2 (by decide)) (z := qn 3) rfl]
  rfl
theorem e_mul : mulI (iv (-2) 1 3 1) (iv (-1) 1 4 1) = (iv (-8) 1 12 1, 0) := by
  rw [iv_is (x := qm 2) (y := qn 3) (by decide) (by decide) rfl rfl, iv_is (x := qm 1) (y := qn 4) (by decide) (by decide) rfl rfl, iv_is (x := qm 8) (y := qn 12) (by decide) (by decide) rfl rfl]
  unfold mulI lowM highM
  rw [okI_val (qm_in 2 (by decide) (by decide)) (qn_in 3 (by decide)), okI_val (qm_in 1 (by decide) (by decide)) (qn_in 4 (by decide)), if_pos (by decide)]
  simp only
  rw [mul_q (qm_in 2 (by decide) (by decide)) (qm_in 1 (by decide) (by decide)) (z := qn 2) rfl, mul_q (qm_in 2 (by decide) (by decide)) (qn_in 4 (by decide)) (z := qm 8) rfl,
    mul_q (qn_in 3 (by decide)) (qm_in 1 (by decide) (by decide)) (z := qm 3) rfl, mul_q (qn_in 3 (by decide)) (qn_in 4 (by decide)) (z := qn 12) rfl]
  simp only [and_self, if_true]
  rw [minR_lt (qn_in 2 (by decide)) (qm_in 8 (by decide) (by decide)) (by decide), maxR_ge (qn_in 2 (by decide)) (qm_in 8 (by decide) (by decide)) (by decide), minR_ge (qm_in 8 (by decide) (by decide)) (qm_in 3 (by decide) (by decide)) (by decide), maxR_ge (qn_in 2 (by decide)) (qm_in 3 (by decide) (by decide)) (by decide), minR_ge (qm_in 8 (by decide) (by decide)) (qn_in 12 (by decide)) (by decide), maxR_lt (qn_in 2 (by decide)) (qn_in 12 (by decide)) (by decide)]
theorem e_hull : hullI [iv 1 1 2 1, iv 5 1 6 1, iv 0 1 1 2] = (iv 0 1 6 1, 0) := by
  rw [iv_is (x := qn 1) (y := qn 2) (by decide) (by decide) rfl rfl, iv_is (x := qn 5) (y := qn 6) (by decide) (by decide) rfl rfl, iv_is (x := qn 0) (y := qh) (by decide) (by decide) rfl rfl, iv_is (x := qn 0) (y := qn 6) (by decide) (by decide) rfl rfl]
  have o1 : okI ⟨(qn 1).raw, (qn 2).raw⟩ = true := by rw [okI_val (qn_in 1 (by decide)) (qn_in 2 (by decide))]; decide
  have o2 : okI ⟨(qn 5).raw, (qn 6).raw⟩ = true := by rw [okI_val (qn_in 5 (by decide)) (qn_in 6 (by decide))]; decide
  have o3 : okI ⟨(qn 0).raw, qh.raw⟩ = true := by rw [okI_val (qn_in 0 (by decide)) qh_in]; decide
  unfold hullI
  rw [if_neg (by simp)]
  simp only [List.all_cons, List.all_nil, o1, o2, o3, Bool.and_self, if_true, List.foldl_cons, List.foldl_nil, joinI]
  rw [minR_ge (qn_in 1 (by decide)) (qn_in 5 (by decide)) (by decide), maxR_lt (qn_in 2 (by decide)) (qn_in 6 (by decide)) (by decide), minR_lt (qn_in 1 (by decide)) (qn_in 0 (by decide)) (by decide), maxR_ge (qn_in 6 (by decide)) qh_in (by decide)]
theorem e_none : hullI [] = (noI, 10) := rfl
theorem e_meet : meetI (iv 0 1 2 1) (iv 2 1 3 1) = (iv 2 1 2 1, true) := by
  rw [iv_is (x := qn 0) (y := qn 2) (by decide) (by decide) rfl rfl, iv_is (x := qn 2) (y := qn 3) (by decide) (by decide) rfl rfl, iv_is (x := qn 2) (y := qn 2) (by decide) (by decide) rfl rfl]
  unfold meetI cutI
  rw [okI_val (qn_in 0 (by decide)) (qn_in 2 (by decide)), okI_val (qn_in 2 (by decide)) (qn_in 3 (by decide)), if_pos (by decide)]
  simp only
  rw [maxR_lt (qn_in 0 (by decide)) (qn_in 2 (by decide)) (by decide), minR_ge (qn_in 2 (by decide)) (qn_in 3 (by decide)) (by decide), okI_val (qn_in 2 (by decide)) (qn_in 2 (by decide)), if_pos (by decide)]
theorem e_apart : meetI (iv 0 1 1 1) (iv 2 1 3 1) = (noI, false) := by
  rw [iv_is (x := qn 0) (y := qn 1) (by decide) (by decide) rfl rfl, iv_is (x := qn 2) (y := qn 3) (by decide) (by decide) rfl rfl]
  unfold meetI cutI
  rw [okI_val (qn_in 0 (by decide)) (qn_in 1 (by decide)), okI_val (qn_in 2 (by decide)) (qn_in 3 (by decide)), if_pos (by decide)]
  simp only
  rw [maxR_lt (qn_in 0 (by decide)) (qn_in 2 (by decide)) (by decide), minR_ge (qn_in 1 (by decide)) (qn_in 3 (by decide)) (by decide), okI_val (qn_in 2 (by decide)) (qn_in 1 (by decide)), if_neg (by decide)]
theorem e_ok : okI (iv 1 1 1 1) = true := by
  rw [iv_is (x := qn 1) (y := qn 1) (by decide) (by decide) rfl rfl, okI_val (qn_in 1 (by decide)) (qn_in 1 (by decide))]; decide
theorem e_no : okI (iv 2 1 1 1) = false := by
  rw [iv_is (x := qn 2) (y := qn 1) (by decide) (by decide) rfl rfl, okI_val (qn_in 2 (by decide)) (qn_in 1 (by decide))]; decide
theorem e_zero : okI noI = false := by unfold okI noI; rw [okR_no]; rfl
theorem e_has : hasI (iv 0 1 2 1) (iv 1 3 1 1).low = true := by
  have e : (iv 1 3 1 1).low = (⟨false, 1, 3⟩ : Q).raw := by rw [iv_is (x := ⟨false, 1, 3⟩) (y := qn 1) (by decide) (by decide) rfl rfl]
  have h3 : In 2 (⟨false, 1, 3⟩ : Q) := sm_in (by decide) (by decide) (by decide)
  rw [e, iv_is (x := qn 0) (y := qn 2) (by decide) (by decide) rfl rfl]
  unfold hasI
  rw [okI_val (qn_in 0 (by decide)) (qn_in 2 (by decide)), sm_ok h3, cmpE_val (sm_ok (qn_in 0 (by decide))) (sm_ok h3), cmpE_val (sm_ok h3) (sm_ok (qn_in 2 (by decide)))]
  decide
end Go.Proofs.YtbcoblpnihdhgaaGreatDoor.Rt
