/-
  Shares of a secret: other lists of coefficients, and the polynomial of least degree through points, computed coefficient by coefficient: pure facts (layer 7).
-/
import Derived.Test.YtcdnddjoonecdaaShPure
set_option linter.unusedVariables false
set_option maxRecDepth 100000
namespace Go.Proofs.Ytcdnddjoonecdaa
open Go.RowKit
open Fdp
def subL (a b : List Int) : List Int := List.zipWith (· - ·) a b
theorem ev_subL (x : Int) : ∀ a b : List Int, a.length = b.length → ev x (subL a b) = ev x a - ev x b
  | [], [], _ => by simp [subL, ev]
  | c :: a, d :: b, h => by
    have ih := ev_subL x a b (by simpa using h)
    show c - d + x * ev x (subL a b) = c + x * ev x a - (d + x * ev x b)
    rw [ih]; grind
/-- two lists with the same shares of one secret at as many places are equal -/
theorem same_list {s : Int} {r1 r2 xs : List Int} (h1 : ∀ c ∈ r1, El c) (h2 : ∀ c ∈ r2, El c) (hl : r1.length = r2.length) (hx : r1.length ≤ xs.length) (hd : Diff 2147483647 xs) (h0 : ∀ x ∈ xs, ¬ (2147483647 : Int) ∣ x)
    (h : ∀ x ∈ xs, evF x (s :: r1) = evF x (s :: r2)) : r1 = r2 := by
  have hz := roots prI xs (subL r1 r2) (by simp [subL]; omega) hd (fun x hxs => by
    rw [ev_subL x r1 r2 hl]
    have e : E 2147483647 (ev x (s :: r1)) (ev x (s :: r2)) := (evF_E x _).symm.trans ((E.of (h x hxs)).trans (evF_E x _))
    have e2 : E 2147483647 (x * (ev x r1 - ev x r2)) 0 := by
      have := e.sub (E.refl (ev x (s :: r2)))
      rw [Int.sub_self] at this
      refine (E.of ?_).trans this
      rw [ev_cons, ev_cons]; grind
    rcases prI _ _ (E.zero.1 e2) with h' | h'
    · exact absurd h' (h0 x hxs)
    · exact E.zero.2 h')
  refine List.ext_getElem hl fun i hi hj => ?_
  have hm : r1[i] - r2[i] ∈ subL r1 r2 := by
    rw [List.mem_iff_getElem]
    exact ⟨i, by simp [subL]; omega, by simp [subL]⟩
  have := (hz _ hm).add (E.refl r2[i])
  rw [Int.zero_add, show r1[i] - r2[i] + r2[i] = r1[i] by omega] at this
  exact E.el this (h1 _ (List.getElem_mem _)) (h2 _ (List.getElem_mem _))
-- adding to a coefficient
theorem ev_set (x v : Int) : ∀ (l : List Int) (j : Nat) (hj : j < l.length), ev x (l.set j v) = ev x l + (v - l[j]) * x ^ j
  | c :: l, 0, _ => by simp [ev_cons]; grind
  | c :: l, j + 1, hj => by
    have ih := ev_set x v l j (by simpa using hj)
    rw [List.set_cons_succ, ev_cons, ih, ev_cons, Int.pow_succ]
    simp only [List.getElem_cons_succ]
    grind
theorem ev_take_next (x : Int) {l : List Int} {j : Nat} (h : j < l.length) : ev x (l.take (j + 1)) = ev x (l.take j) + l[j] * x ^ j := by
  rw [List.take_succ_eq_append_getElem h, ev_snoc, List.length_take, Nat.min_eq_left (by omega)]
def zerosL (n : Nat) : List Int := List.replicate n 0
theorem ev_zeros (x : Int) : ∀ n, ev x (zerosL n) = 0
  | 0 => rfl
  | n + 1 => by
    have ih := ev_zeros x n
    show 0 + x * ev x (zerosL n) = 0
    rw [ih]; simp
/-- a term times a linear factor, as far as the coefficient j -/
structure NextT (t : List Int) (b mi : Int) (j : Nat) (d : List Int) : Prop where
  len : d.length = t.length + 1
  el : ∀ c ∈ d, El c
  val : ∀ x, E 2147483647 (ev x d) (ev x (t.take j) * (b * (x + mi)))
theorem set_el {l : List Int} {j : Nat} {v : Int} (h : ∀ c ∈ l, El c) (hv : El v) : ∀ c ∈ l.set j v, El c := by
  intro c hc
  rcases List.mem_or_eq_of_mem_set hc with h' | rfl
  · exact h c h'
  · exact hv
theorem NextT.start (t : List Int) (b mi : Int) : NextT t b mi 0 (zerosL (t.length + 1)) :=
  ⟨by simp [zerosL], fun c hc => by have := List.eq_of_mem_replicate hc; subst this; decide, fun x => by rw [ev_zeros, List.take_zero, ev_nil, Int.zero_mul]; exact E.refl 0⟩
theorem NextT.next {t d : List Int} {b mi : Int} {j : Nat} (h : NextT t b mi j d) (hj : j < t.length) {cc low s1 s2 : Int} (hc : cc = mulF (t[j]'hj) b) (hlo : low = mulF cc mi)
    (hs1 : s1 = sumF (d[j]'(by have := h.len; omega)) low) (hs2 : s2 = sumF ((d.set j s1)[j + 1]'(by have := h.len; simp; omega)) cc) : NextT t b mi (j + 1) ((d.set j s1).set (j + 1) s2) := by
  have hl := h.len
  have hj1 : j < d.length := by omega
  have hj2 : j + 1 < (d.set j s1).length := by simp; omega
  refine ⟨by simp [hl], set_el (set_el h.el (by rw [hs1]; exact sumF_range _ _)) (by rw [hs2]; exact sumF_range _ _), fun x => ?_⟩
  rw [ev_set x s2 _ (j + 1) hj2, ev_set x s1 d j hj1, ev_take_next x hj]
  have e1 : E 2147483647 (s1 - d[j]) low := by
    have := (show E 2147483647 s1 (d[j] + low) from by rw [hs1]; exact sumF_E _ _).sub (E.refl d[j])
    rwa [show d[j] + low - d[j] = low by omega] at this
  have e2 : E 2147483647 (s2 - (d.set j s1)[j + 1]) cc := by
    have := (show E 2147483647 s2 ((d.set j s1)[j + 1] + cc) from by rw [hs2]; exact sumF_E _ _).sub (E.refl (d.set j s1)[j + 1])
    rwa [show (d.set j s1)[j + 1] + cc - (d.set j s1)[j + 1] = cc by omega] at this
  have e3 : E 2147483647 cc (t[j] * b) := by rw [hc]; exact mulF_E _ _
  have e4 : E 2147483647 low (t[j] * b * mi) := by rw [hlo]; exact (mulF_E _ _).trans (e3.mul (E.refl mi))
  refine (((h.val x).add ((e1.trans e4).mul (E.refl (x ^ j)))).add ((e2.trans e3).mul (E.refl (x ^ (j + 1))))).trans (E.of ?_)
  rw [Int.pow_succ]; grind
/-- the product of the linear factors so far, for point i -/
def tprod (l : List (Int × Int)) (x : Int) (i : Nat) : Nat → Int
  | 0 => 1
  | k + 1 => if k = i then tprod l x i k else tprod l x i k * ((x - Xp l k) * ivI (Xp l i - Xp l k))
/-- how many factors so far -/
def tnum (i k : Nat) : Nat := if i < k then k - 1 else k
structure TermT (l : List (Int × Int)) (i k : Nat) (t : List Int) : Prop where
  len : t.length = tnum i k + 1
  el : ∀ c ∈ t, El c
  val : ∀ x, E 2147483647 (ev x t) (Yp l i * tprod l x i k)
theorem TermT.start {l : List (Int × Int)} {i : Nat} {y : Int} (hy : y = Yp l i) (he : El y) : TermT l i 0 [y] :=
  ⟨by simp [tnum], fun c hc => by simp at hc; subst hc; exact he, fun x => E.of (by simp [ev, tprod, hy])⟩
theorem TermT.skip {l : List (Int × Int)} {i : Nat} {t : List Int} (h : TermT l i i t) : TermT l i (i + 1) t :=
  ⟨by rw [h.len]; simp [tnum], h.el, fun x => by
    have := h.val x
    show E _ _ (Yp l i * (if i = i then tprod l x i i else _))
    rw [if_pos rfl]; exact this⟩
theorem TermT.next {l : List (Int × Int)} {i k : Nat} {t d : List Int} {b mi : Int} (h : TermT l i k t) (hne : k ≠ i) (hmi : E 2147483647 mi (-(Xp l k))) (hb : b = ivI (Xp l i - Xp l k)) (hn : NextT t b mi t.length d) : TermT l i (k + 1) d :=
  ⟨by rw [hn.len, h.len]; unfold tnum; split <;> split <;> omega, hn.el, fun x => by
    have h1 := hn.val x
    rw [List.take_length] at h1
    show E _ _ (Yp l i * (if k = i then _ else tprod l x i k * ((x - Xp l k) * ivI (Xp l i - Xp l k))))
    rw [if_neg hne]
    refine h1.trans (((h.val x).mul ((E.refl b).mul ((E.refl x).add hmi))).trans (E.of ?_))
    rw [hb]; grind⟩
theorem tprod_here {l : List (Int × Int)} {i : Nat} (h : ∀ k, k < l.length → k ≠ i → ¬ (2147483647 : Int) ∣ Xp l i - Xp l k) : ∀ k, k ≤ l.length → E 2147483647 (tprod l (Xp l i) i k) 1
  | 0, _ => E.refl 1
  | k + 1, hk => by
    have ih := tprod_here h k (by omega)
    show E _ (if k = i then _ else _) 1
    by_cases e : k = i
    · rw [if_pos e]; exact ih
    · rw [if_neg e]
      have := ih.mul (ivI_is _ (h k (by omega) e))
      rwa [Int.one_mul] at this
theorem tprod_there {l : List (Int × Int)} {i j : Nat} (hne : j ≠ i) : ∀ k, j < k → E 2147483647 (tprod l (Xp l j) i k) 0
  | k + 1, hk => by
    show E _ (if k = i then _ else _) 0
    by_cases e : k = j
    · subst e
      rw [if_neg hne, Int.sub_self, Int.zero_mul, Int.mul_zero]; exact E.refl 0
    · have ih := tprod_there (l := l) hne k (by omega)
      by_cases e2 : k = i
      · rw [if_pos e2]; exact ih
      · rw [if_neg e2]
        have := ih.mul (E.refl ((Xp l j - Xp l k) * ivI (Xp l i - Xp l k)))
        rwa [Int.zero_mul] at this
/-- the sum of the terms so far -/
def tsum (l : List (Int × Int)) (x : Int) : Nat → Int
  | 0 => 0
  | i + 1 => tsum l x i + Yp l i * tprod l x i l.length
structure OutT (l : List (Int × Int)) (i : Nat) (o : List Int) : Prop where
  len : o.length = l.length
  el : ∀ c ∈ o, El c
  val : ∀ x, E 2147483647 (ev x o) (tsum l x i)
theorem OutT.start (l : List (Int × Int)) : OutT l 0 (zerosL l.length) :=
  ⟨by simp [zerosL], fun c hc => by have := List.eq_of_mem_replicate hc; subst this; decide, fun x => by rw [ev_zeros]; exact E.refl 0⟩
/-- adding a term, as far as the coefficient j -/
structure AddT (o t : List Int) (j : Nat) (d : List Int) : Prop where
  len : d.length = o.length
  el : ∀ c ∈ d, El c
  val : ∀ x, E 2147483647 (ev x d) (ev x o + ev x (t.take j))
theorem AddT.start {o : List Int} (t : List Int) (h : ∀ c ∈ o, El c) : AddT o t 0 o := ⟨rfl, h, fun x => by rw [List.take_zero, ev_nil, Int.add_zero]; exact E.refl _⟩
theorem AddT.next {o t d : List Int} {j : Nat} (h : AddT o t j d) (hj : j < t.length) (hd : j < d.length) {s1 : Int} (hs : s1 = sumF (d[j]'hd) (t[j]'hj)) : AddT o t (j + 1) (d.set j s1) :=
  ⟨by simp [h.len], set_el h.el (by rw [hs]; exact sumF_range _ _), fun x => by
    rw [ev_set x s1 d j hd, ev_take_next x hj]
    have e1 : E 2147483647 (s1 - d[j]) t[j] := by
      have := (show E 2147483647 s1 (d[j] + t[j]) from by rw [hs]; exact sumF_E _ _).sub (E.refl d[j])
      rwa [show d[j] + t[j] - d[j] = t[j] by omega] at this
    refine ((h.val x).add (e1.mul (E.refl (x ^ j)))).trans (E.of ?_)
    omega⟩
theorem OutT.next {l : List (Int × Int)} {i : Nat} {o t d : List Int} (h : OutT l i o) (ht : TermT l i l.length t) (ha : AddT o t t.length d) : OutT l (i + 1) d :=
  ⟨by rw [ha.len, h.len], ha.el, fun x => by
    have := ha.val x
    rw [List.take_length] at this
    exact this.trans ((h.val x).add (ht.val x))⟩
theorem tsum_at {l : List (Int × Int)} {j : Nat} (hj : j < l.length) (h : ∀ i k, i < l.length → k < l.length → k ≠ i → ¬ (2147483647 : Int) ∣ Xp l i - Xp l k) : ∀ i, i ≤ l.length → E 2147483647 (tsum l (Xp l j) i) (if j < i then Yp l j else 0)
  | 0, _ => by rw [if_neg (by omega)]; exact E.refl 0
  | i + 1, hi => by
    have ih := tsum_at hj h i (by omega)
    show E _ (tsum l (Xp l j) i + Yp l i * tprod l (Xp l j) i l.length) _
    by_cases e : j = i
    · subst e
      rw [if_neg (by omega)] at ih
      rw [if_pos (by omega)]
      have := ih.add ((E.refl (Yp l j)).mul (tprod_here (fun k hk hne => h j k hj hk hne) l.length (Nat.le_refl _)))
      rwa [Int.mul_one, Int.zero_add] at this
    · have h2 := (E.refl (Yp l i)).mul (tprod_there (l := l) (i := i) e l.length hj)
      rw [Int.mul_zero] at h2
      have := ih.add h2
      rw [Int.add_zero] at this
      by_cases hlt : j < i
      · rw [if_pos hlt] at this; rw [if_pos (by omega)]; exact this
      · rw [if_neg hlt] at this; rw [if_neg (by omega)]; exact this
/-- the coefficients go through the points -/
theorem OutT.through {l : List (Int × Int)} {o : List Int} (h : OutT l l.length o) (hp : pairsE l = true) (hd : diffX (Xs l) = true) {j : Nat} (hj : j < l.length) : evF l[j].1 o = l[j].2 := by
  have hD := diff_of hd (Xs_range hp)
  have hnd : ∀ i k, i < l.length → k < l.length → k ≠ i → ¬ (2147483647 : Int) ∣ Xp l i - Xp l k := fun i k hi hk hne he => by
    rw [Xp_get hi, Xp_get hk] at he
    rcases Nat.lt_or_gt_of_ne hne with h' | h'
    · have := List.pairwise_iff_getElem.1 hD k i (by simpa using hk) (by simpa using hi) h'
      simp only [List.getElem_map] at this
      exact this (E.symm he)
    · have := List.pairwise_iff_getElem.1 hD i k (by simpa using hi) (by simpa using hk) h'
      simp only [List.getElem_map] at this
      exact this he
  have h1 := (h.val (Xp l j)).trans (tsum_at hj hnd l.length (Nat.le_refl _))
  rw [if_pos hj, Xp_get hj, Yp_get hj] at h1
  exact E.el ((evF_E _ _).trans h1) (evF_range _ _) (pairsE_iff.1 hp _ (List.getElem_mem hj)).2
end Go.Proofs.Ytcdnddjoonecdaa
