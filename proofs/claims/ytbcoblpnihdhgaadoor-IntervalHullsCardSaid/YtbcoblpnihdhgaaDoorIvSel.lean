/-
  The element of a list that no other one comes before; the answers of layer 5 by it: pure facts.
-/
import Derived.Test.YtbcoblpnihdhgaaDoorIvPure
namespace Go.Proofs.YtbcoblpnihdhgaaDoor.Rt
/-- the element that is chosen: the first one, unless a later one comes before it -/
def sel {α : Type} (d : α) (bf : α → α → Bool) : List α → α
  | [] => d
  | x :: t => t.foldl (fun f e => if bf e f then e else f) x
theorem sel_snoc {α : Type} (d : α) (bf : α → α → Bool) (m : List α) (e : α) : sel d bf (m ++ [e]) = if m.isEmpty || bf e (sel d bf m) then e else sel d bf m := by
  cases m with
  | nil => rfl
  | cons x t => simp [sel, List.foldl_append]
def lessR (x y : Raw) : Bool := decide (cmpE x y < 0)
def moreR (x y : Raw) : Bool := lessR y x
theorem cmpE_back (a b : Raw) : cmpE b a = - cmpE a b := by
  by_cases h : (okR a && okR b) = true
  · rw [Bool.and_eq_true] at h; exact cmpE_turn h.1 h.2
  · have h1 : cmpE a b = 0 := by unfold cmpE; rw [if_neg h]
    have h2 : cmpE b a = 0 := by unfold cmpE; rw [if_neg (by rw [Bool.and_comm]; exact h)]
    rw [h1, h2]; rfl
theorem minR_sel (x y : Raw) : (if lessR y x then y else x) = minR x y := by unfold lessR minR; simp only [decide_eq_true_eq]
theorem maxR_sel (x y : Raw) : (if moreR y x then y else x) = maxR x y := by
  unfold moreR lessR maxR
  have := cmpE_back x y
  by_cases h : cmpE x y < 0
  · rw [if_pos (by simpa using h), if_pos (by omega)]
  · rw [if_neg (by simpa using h), if_neg (by omega)]
theorem okI_less (i : Iv) : okI i = (okR i.low && (okR i.high && !lessR i.high i.low)) := by
  unfold okI lessR
  have := cmpE_back i.low i.high
  congr 2
  by_cases h : cmpE i.high i.low < 0
  · rw [decide_eq_true h, decide_eq_false (by omega)]; rfl
  · rw [decide_eq_false h, decide_eq_true (by omega)]; rfl
theorem hasI_less (i : Iv) (r : Raw) : hasI i r = (okI i && (okR r && (!lessR r i.low && !lessR i.high r))) := by
  unfold hasI lessR
  have h1 := cmpE_back i.low r
  have h2 := cmpE_back r i.high
  congr 2
  by_cases h : cmpE r i.low < 0
  · rw [decide_eq_true h, decide_eq_false (by omega)]; rfl
  · rw [decide_eq_false h, decide_eq_true (by omega : cmpE i.low r ≤ 0)]
    simp only [Bool.true_and, Bool.not_false]
    by_cases h' : cmpE i.high r < 0
    · rw [decide_eq_true h', decide_eq_false (by omega)]; rfl
    · rw [decide_eq_false h', decide_eq_true (by omega)]; rfl
theorem addE_kind {a b : Raw} (ha : okR a = true) (hb : okR b = true) : (addE a b).2 = 0 ∨ (addE a b).2 = 2 := by
  unfold addE; rw [ha, hb]; simp only [Bool.and_self, if_true]; split <;> simp
theorem mulE_kind {a b : Raw} (ha : okR a = true) (hb : okR b = true) : (mulE a b).2 = 0 ∨ (mulE a b).2 = 2 := by
  unfold mulE; rw [ha, hb]; simp only [Bool.and_self, if_true]; split <;> simp
-- products
/-- the four products, in the program's order -/
def prods (a b : Iv) : List (Raw × Int) := [mulE a.low b.low, mulE a.low b.high, mulE a.high b.low, mulE a.high b.high]
theorem mulI_prods {a b : Iv} (h : (okI a && okI b) = true) (h0 : ∀ x ∈ prods a b, x.2 = 0) : mulI a b = (⟨sel noRaw lessR ((prods a b).map Prod.fst), sel noRaw moreR ((prods a b).map Prod.fst)⟩, 0) := by
  unfold mulI
  rw [h, if_pos (by rfl), if_pos ⟨h0 _ (by simp [prods]), h0 _ (by simp [prods]), h0 _ (by simp [prods]), h0 _ (by simp [prods])⟩]
  simp only [prods, List.map_cons, List.map_nil, sel, List.foldl_cons, List.foldl_nil, minR_sel, maxR_sel]
  rfl
theorem mulI_bad {a b : Iv} (h : (okI a && okI b) = true) {x : Raw × Int} (hx : x ∈ prods a b) (h0 : x.2 ≠ 0) : mulI a b = (noI, 2) ∧ x.2 = 2 := by
  rw [Bool.and_eq_true] at h
  have ha := okI_iff.1 h.1
  have hb := okI_iff.1 h.2
  have hk : x.2 = 2 := by
    simp only [prods, List.mem_cons, List.not_mem_nil, or_false] at hx
    rcases hx with rfl | rfl | rfl | rfl
    · exact (mulE_kind ha.1 hb.1).resolve_left h0
    · exact (mulE_kind ha.1 hb.2.1).resolve_left h0
    · exact (mulE_kind ha.2.1 hb.1).resolve_left h0
    · exact (mulE_kind ha.2.1 hb.2.1).resolve_left h0
  refine ⟨?_, hk⟩
  unfold mulI
  rw [h.1, h.2, if_pos (by rfl), if_neg]
  rintro ⟨h1, h2, h3, h4⟩
  simp only [prods, List.mem_cons, List.not_mem_nil, or_false] at hx
  rcases hx with rfl | rfl | rfl | rfl <;> contradiction
-- hulls
def lessL (x y : Iv) : Bool := lessR x.low y.low
def moreH (x y : Iv) : Bool := lessR y.high x.high
theorem fold_low : ∀ (t : List Iv) (x y : Iv), x.low = y.low → (t.foldl (fun f e => if lessL e f then e else f) x).low = (t.foldl joinI y).low
  | [], _, _, h => h
  | e :: t, x, y, h => by
    rw [List.foldl_cons, List.foldl_cons]
    refine fold_low t _ _ ?_
    show (if lessR e.low x.low then e else x).low = minR y.low e.low
    rw [← minR_sel, h]; split <;> simp [*]
theorem fold_high : ∀ (t : List Iv) (x y : Iv), x.high = y.high → (t.foldl (fun f e => if moreH e f then e else f) x).high = (t.foldl joinI y).high
  | [], _, _, h => h
  | e :: t, x, y, h => by
    rw [List.foldl_cons, List.foldl_cons]
    refine fold_high t _ _ ?_
    show (if lessR x.high e.high then e else x).high = maxR y.high e.high
    rw [← maxR_sel, ← h]; unfold moreR; split <;> simp [*]
theorem hullI_sel {l : List Iv} (h0 : l ≠ []) (hl : l.length ≤ 1000) (hok : l.all okI = true) : hullI l = (⟨(sel noI lessL l).low, (sel noI moreH l).high⟩, 0) := by
  cases l with
  | nil => exact absurd rfl h0
  | cons x t =>
    unfold hullI; rw [if_neg (by omega), hok]
    simp only [if_true, sel, fold_low t x x rfl, fold_high t x x rfl]
-- meets
def moreL (x y : Iv) : Bool := lessR y.low x.low
def lessH (x y : Iv) : Bool := lessR x.high y.high
theorem cutI_sel (a b : Iv) : (⟨(sel noI moreL [a, b]).low, (sel noI lessH [a, b]).high⟩ : Iv) = cutI a b := by
  unfold cutI
  simp only [sel, List.foldl_cons, List.foldl_nil]
  rw [← maxR_sel, ← minR_sel]
  refine Iv.eq_of ?_ ?_
  · show (if lessR a.low b.low then b else a).low = if moreR b.low a.low then b.low else a.low
    unfold moreR; split <;> rfl
  · show (if lessR b.high a.high then b else a).high = if lessR b.high a.high then b.high else a.high
    split <;> rfl
end Go.Proofs.YtbcoblpnihdhgaaDoor.Rt
