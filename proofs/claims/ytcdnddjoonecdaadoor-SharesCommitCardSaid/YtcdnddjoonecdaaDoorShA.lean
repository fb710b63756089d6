/-
  Shares of a secret: the answers as functions, and the laws of chapter 7 over them: pure facts.
-/
import Derived.Test.YtcdnddjoonecdaaDoorFdD
set_option linter.unusedVariables false
set_option maxRecDepth 100000
namespace Go.Proofs.YtcdnddjoonecdaaDoor
open Go.RowKit
open Fdp
/-- a share is valid -/
def validS (q : Int × Int) : Bool := decide (1 ≤ q.1 ∧ q.1 ≤ 16) && okE q.2
theorem validS_iff {q : Int × Int} : validS q = true ↔ (1 ≤ q.1 ∧ q.1 ≤ 16) ∧ El q.2 := by simp [validS, okE_iff]
def validsS (l : List (Int × Int)) : Bool := l.all validS
theorem validsS_iff {l : List (Int × Int)} : validsS l = true ↔ ∀ q ∈ l, (1 ≤ q.1 ∧ q.1 ≤ 16) ∧ El q.2 := by
  simp only [validsS, List.all_eq_true, validS_iff]
theorem valids_pairs {l : List (Int × Int)} (h : validsS l = true) : pairsE l = true := pairsE_iff.2 fun q hq => by
  have := validsS_iff.1 h q hq
  exact ⟨⟨by omega, by omega⟩, this.2⟩
/-- the shares with the X from k + 1 on, n of them -/
def sharesL (c : List Int) (n : Nat) : List (Int × Int) := (List.range n).map fun i : Nat => ((i : Int) + 1, evF ((i : Int) + 1) c)
theorem sharesL_len (c : List Int) (n : Nat) : (sharesL c n).length = n := by simp [sharesL]
theorem sharesL_get (c : List Int) {n i : Nat} (h : i < n) : (sharesL c n)[i]'(by rw [sharesL_len]; exact h) = ((i : Int) + 1, evF ((i : Int) + 1) c) := by simp [sharesL]
theorem sharesL_mem {c : List Int} {n : Nat} {q : Int × Int} (h : q ∈ sharesL c n) : ∃ i : Nat, i < n ∧ q = ((i : Int) + 1, evF ((i : Int) + 1) c) := by
  unfold sharesL at h
  rw [List.mem_map] at h
  obtain ⟨i, hi, rfl⟩ := h
  exact ⟨i, by simpa using hi, rfl⟩
def argsS (secret need total : Int) (r : List Int) : Bool := okE secret && decide (1 ≤ total ∧ total ≤ 16) && decide (1 ≤ need ∧ need ≤ total) && decide ((r.length : Int) = need - 1) && allE r
/-- Split's answer -/
def splitE (secret need total : Int) (r : List Int) : List (Int × Int) × Int := if argsS secret need total r then (sharesL (secret :: r) total.toNat, 0) else ([], 1)
/-- are the later shares on the polynomial through the first ones? -/
def restOn (l : List (Int × Int)) (n : Nat) : Bool := (l.drop n).all fun q => interF (l.take n) q.1 == q.2
/-- Join's answer -/
def joinE (l : List (Int × Int)) (need : Int) : Int × Int :=
  if decide (1 ≤ need ∧ need ≤ 16) && validsS l then
    (if diffX (Xs l) then (if (l.length : Int) < need then (0, 25) else (if restOn l need.toNat then (interF (l.take need.toNat) 0, 0) else (0, 24))) else (0, 8))
  else (0, 1)
theorem diff_take {l : List (Int × Int)} (h : diffX (Xs l) = true) (n : Nat) : diffX (Xs (l.take n)) = true := by
  unfold diffX Xs at h ⊢
  rw [decide_eq_true_iff] at h ⊢
  rw [List.map_take]
  exact h.sublist (List.take_sublist n _)
theorem pairs_take {l : List (Int × Int)} (h : pairsE l = true) (n : Nat) : pairsE (l.take n) = true := pairsE_iff.2 fun q hq => pairsE_iff.1 h q (List.mem_of_mem_take hq)
/-- all shares on a polynomial with at most n coefficients: joined to its value at 0 -/
theorem join_on {l : List (Int × Int)} {c : List Int} {n : Nat} (hv : validsS l = true) (hd : diffX (Xs l) = true) (h1 : 1 ≤ n) (h2 : n ≤ 16) (hn : n ≤ l.length) (hc : c.length ≤ n) (h : ∀ q ∈ l, q.2 = evF q.1 c) : joinE l n = (evF 0 c, 0) := by
  have hp := pairs_take (valids_pairs hv) n
  have hdt := diff_take hd n
  have hI : ∀ x, interF (l.take n) x = evF x c := inter_of hp hdt c (by rw [List.length_take]; omega) fun q hq => by
    rw [h q (List.mem_of_mem_take hq)]; exact (evF_E _ _).symm
  unfold joinE
  rw [if_pos (by rw [hv]; simp; omega), if_pos hd, if_neg (by omega), Int.toNat_natCast, if_pos, hI]
  unfold restOn
  rw [List.all_eq_true]
  intro q hq
  rw [hI, h q (List.mem_of_mem_drop hq)]; simp
theorem join_few {l : List (Int × Int)} {n : Nat} (hv : validsS l = true) (hd : diffX (Xs l) = true) (h1 : 1 ≤ n) (h2 : n ≤ 16) (hn : l.length < n) : joinE l n = (0, 25) := by
  unfold joinE
  rw [if_pos (by rw [hv]; simp; omega), if_pos hd, if_pos (by omega)]
/-- one share off the polynomial of all others, more than n of them: refused -/
theorem join_wrong {l : List (Int × Int)} {c : List Int} {n k : Nat} (hv : validsS l = true) (hd : diffX (Xs l) = true) (h1 : 1 ≤ n) (h2 : n ≤ 16) (hn : n < l.length) (hc : c.length ≤ n) (hk : k < l.length)
    (h : ∀ i (hi : i < l.length), i ≠ k → l[i].2 = evF l[i].1 c) (hw : l[k].2 ≠ evF l[k].1 c) : joinE l n = (0, 24) := by
  have hp := valids_pairs hv
  have hdt := diff_take hd n
  have hpt := pairs_take hp n
  unfold joinE
  rw [if_pos (by rw [hv]; simp; omega), if_pos hd, if_neg (by omega), Int.toNat_natCast, if_neg]
  intro hr
  unfold restOn at hr
  rw [List.all_eq_true] at hr
  have hgt : ∀ i (hi : i < l.length), n ≤ i → interF (l.take n) l[i].1 = l[i].2 := fun i hi hni => by
    have hm : l[i] ∈ l.drop n := by
      rw [List.mem_iff_getElem]
      exact ⟨i - n, by simp; omega, by rw [List.getElem_drop]; congr 1; omega⟩
    simpa using hr _ hm
  have hlt : ∀ i (hi : i < l.length), i < n → interF (l.take n) l[i].1 = l[i].2 := fun i hi hni => by
    have hm : l[i] ∈ l.take n := by
      rw [List.mem_iff_getElem]
      exact ⟨i, by simp; omega, by simp⟩
    exact inter_through hpt hdt hm
  have hall : ∀ i (hi : i < l.length), interF (l.take n) l[i].1 = l[i].2 := fun i hi => by
    by_cases h' : i < n
    · exact hlt i hi h'
    · exact hgt i hi (by omega)
  -- the polynomial through the first ones, and c, agree at all but one of them
  have hf := inter_fits hpt hdt
  have hD := diff_of hd (Xs_range hp)
  have hsame : ∀ x, E 2147483647 (interF (l.take n) x) (ev x c) := by
    have hE : Diff 2147483647 ((Xs l).eraseIdx k) := List.Pairwise.sublist (List.eraseIdx_sublist (Xs l) k) hD
    have hfp := hf.poly
    rw [List.length_take, Nat.min_eq_left (by omega)] at hfp
    refine hfp.same prI (g := fun x => ev x c) ⟨c, hc, fun x => E.refl _⟩ ((Xs l).eraseIdx k) ?_ hE ?_
    · rw [List.length_eraseIdx_of_lt (by simpa using hk)]; simp; omega
    · intro x hx
      obtain ⟨i, hi, hik, rfl⟩ := List.mem_eraseIdx_iff_getElem.1 hx
      have hi' : i < l.length := by simpa using hi
      simp only [List.getElem_map]
      rw [hall i hi', h i hi' hik]
      exact evF_E _ _
  exact hw ((hall k hk).symm.trans (E.el ((hsame _).trans (evF_E _ _).symm) (interF_range _ _) (evF_range _ _)))
end Go.Proofs.YtcdnddjoonecdaaDoor

/-
  Shares of a secret: other lists of coefficients, and the polynomial of least degree through points, computed coefficient by coefficient: pure facts (layer 7).
-/
set_option linter.unusedVariables false
set_option maxRecDepth 100000
namespace Go.Proofs.YtcdnddjoonecdaaDoor
open Go.RowKit
open Fdp
def subL (a b : List Int) : List Int := List.zipWith (· - ·) a b
theorem ev_subL (x : Int) : ∀ a b : List Int, a.length = b.length → ev x (subL a b) = ev x a - ev x b
  | [], [], _ => by simp [subL, ev]
  | c :: a, d :: b, h => by
    have ih := ev_subL x a b (by simpa using h)
    show c - d + x * ev x (subL a b) = c + x * ev x a - (d + x * ev x b)
    rw [ih]; grind
/-- two lists with the same shares of one secret at as many places are equal -/
theorem same_list {s : Int} {r1 r2 xs : List Int} (h1 : ∀ c ∈ r1, El c) (h2 : ∀ c ∈ r2, El c) (hl : r1.length = r2.length) (hx : r1.length ≤ xs.length) (hd : Diff 2147483647 xs) (h0 : ∀ x ∈ xs, ¬ (2147483647 : Int) ∣ x)
    (h : ∀ x ∈ xs, evF x (s :: r1) = evF x (s :: r2)) : r1 = r2 := by
  have hz := roots prI xs (subL r1 r2) (by simp [subL]; omega) hd (fun x hxs => by
    rw [ev_subL x r1 r2 hl]
    have e : E 2147483647 (ev x (s :: r1)) (ev x (s :: r2)) := (evF_E x _).symm.trans ((E.of (h x hxs)).trans (evF_E x _))
    have e2 : E 2147483647 (x * (ev x r1 - ev x r2)) 0 := by
      have := e.sub (E.refl (ev x (s :: r2)))
      rw [Int.sub_self] at this
      refine (E.of ?_).trans this
      rw [ev_cons, ev_cons]; grind
    rcases prI _ _ (E.zero.1 e2) with h' | h'
    · exact absurd h' (h0 x hxs)
    · exact E.zero.2 h')
  refine List.ext_getElem hl fun i hi hj => ?_
  have hm : r1[i] - r2[i] ∈ subL r1 r2 := by
    rw [List.mem_iff_getElem]
    exact ⟨i, by simp [subL]; omega, by simp [subL]⟩
  have := (hz _ hm).add (E.refl r2[i])
  rw [Int.zero_add, show r1[i] - r2[i] + r2[i] = r1[i] by omega] at this
  exact E.el this (h1 _ (List.getElem_mem _)) (h2 _ (List.getElem_mem _))
-- adding to a coefficient
theorem ev_set (x v : Int) : ∀ (l : List Int) (j : Nat) (hj : j < l.length), ev x (l.set j v) = ev x l + (v - l[j]) * x ^ j
  | c :: l, 0, _ => by simp [ev_cons]; grind
  | c :: l, j + 1, hj => by
    have ih := ev_set x v l j (by simpa using hj)
    rw [List.set_cons_succ, ev_cons, ih, ev_cons, Int.pow_succ]
    simp only [List.getElem_cons_succ]
    grind
theorem ev_take_next (x : Int) {l : List Int} {j : Nat} (h : j < l.length) : ev x (l.take (j + 1)) = ev x (l.take j) + l[j] * x ^ j := by
  rw [List.take_succ_eq_append_getElem h, ev_snoc, List.length_take, Nat.min_eq_left (by omega)]
def zerosL (n : Nat) : List Int := List.replicate n 0
theorem ev_zeros (x : Int) : ∀ n, ev x (zerosL n) = 0
  | 0 => rfl
  | n + 1 => by
    have ih := ev_zeros x n
    show 0 + x * ev x (zerosL n) = 0
    rw [ih]; simp
/-- a term times a linear factor, as far as the coefficient j -/
structure NextT (t : List Int) (b mi : Int) (j : Nat) (d : List Int) : Prop where
  len : d.length = t.length + 1
  el : ∀ c ∈ d, El c
  val : ∀ x, E 2147483647 (ev x d) (ev x (t.take j) * (b * (x + mi)))
theorem set_el {l : List Int} {j : Nat} {v : Int} (h : ∀ c ∈ l, El c) (hv : El v) : ∀ c ∈ l.set j v, El c := by
  intro c hc
  rcases List.mem_or_eq_of_mem_set hc with h' | rfl
  · exact h c h'
  · exact hv
theorem NextT.start (t : List Int) (b mi : Int) : NextT t b mi 0 (zerosL (t.length + 1)) :=
  ⟨by simp [zerosL], fun c hc => by have := List.eq_of_mem_replicate hc; subst this; decide, fun x => by rw [ev_zeros, List.take_zero, ev_nil, Int.zero_mul]; exact E.refl 0⟩
theorem NextT.next {t d : List Int} {b mi : Int} {j : Nat} (h : NextT t b mi j d) (hj : j < t.length) {cc low s1 s2 : Int} (hc : cc = mulF (t[j]'hj) b) (hlo : low = mulF cc mi)
    (hs1 : s1 = sumF (d[j]'(by have := h.len; omega)) low) (hs2 : s2 = sumF ((d.set j s1)[j + 1]'(by have := h.len; simp; omega)) cc) : NextT t b mi (j + 1) ((d.set j s1).set (j + 1) s2) := by
  have hl := h.len
  have hj1 : j < d.length := by omega
  have hj2 : j + 1 < (d.set j s1).length := by simp; omega
  refine ⟨by simp [hl], set_el (set_el h.el (by rw [hs1]; exact sumF_range _ _)) (by rw [hs2]; exact sumF_range _ _), fun x => ?_⟩
  rw [ev_set x s2 _ (j + 1) hj2, ev_set x s1 d j hj1, ev_take_next x hj]
  have e1 : E 2147483647 (s1 - d[j]) low := by
    have := (show E 2147483647 s1 (d[j] + low) from by rw [hs1]; exact sumF_E _ _).sub (E.refl d[j])
    rwa [show d[j] + low - d[j] = low by omega] at this
  have e2 : E 2147483647 (s2 - (d.set j s1)[j + 1]) cc := by
    have := (show E 2147483647 s2 ((d.set j s1)[j + 1] + cc) from by rw [hs2]; exact sumF_E _ _).sub (E.refl (d.set j s1)[j + 1])
    rwa [show (d.set j s1)[j + 1] + cc - (d.set j s1)[j + 1] = cc by omega] at this
  have e3 : E 2147483647 cc (t[j] * b) := by rw [hc]; exact mulF_E _ _
  have e4 : E 2147483647 low (t[j] * b * mi) := by rw [hlo]; exact (mulF_E _ _).trans (e3.mul (E.refl mi))
  refine (((h.val x).add ((e1.trans e4).mul (E.refl (x ^ j)))).add ((e2.trans e3).mul (E.refl (x ^ (j + 1))))).trans (E.of ?_)
  rw [Int.pow_succ]; grind
/-- the product of the linear factors so far, for point i -/
def tprod (l : List (Int × Int)) (x : Int) (i : Nat) : Nat → Int
  | 0 => 1
  | k + 1 => if k = i then tprod l x i k else tprod l x i k * ((x - Xp l k) * ivI (Xp l i - Xp l k))
/-- how many factors so far -/
def tnum (i k : Nat) : Nat := if i < k then k - 1 else k
structure TermT (l : List (Int × Int)) (i k : Nat) (t : List Int) : Prop where
  len : t.length = tnum i k + 1
  el : ∀ c ∈ t, El c
  val : ∀ x, E 2147483647 (ev x t) (Yp l i * tprod l x i k)
theorem TermT.start {l : List (Int × Int)} {i : Nat} {y : Int} (hy : y = Yp l i) (he : El y) : TermT l i 0 [y] :=
  ⟨by simp [tnum], fun c hc => by simp at hc; subst hc; exact he, fun x => E.of (by simp [ev, tprod, hy])⟩
theorem TermT.skip {l : List (Int × Int)} {i : Nat} {t : List Int} (h : TermT l i i t) : TermT l i (i + 1) t :=
  ⟨by rw [h.len]; simp [tnum], h.el, fun x => by
    have := h.val x
    show E _ _ (Yp l i * (if i = i then tprod l x i i else _))
    rw [if_pos rfl]; exact this⟩
theorem TermT.next {l : List (Int × Int)} {i k : Nat} {t d : List Int} {b mi : Int} (h : TermT l i k t) (hne : k ≠ i) (hmi : E 2147483647 mi (-(Xp l k))) (hb : b = ivI (Xp l i - Xp l k)) (hn : NextT t b mi t.length d) : TermT l i (k + 1) d :=
  ⟨by rw [hn.len, h.len]; unfold tnum; split <;> split <;> omega, hn.el, fun x => by
    have h1 := hn.val x
    rw [List.take_length] at h1
    show E _ _ (Yp l i * (if k = i then _ else tprod l x i k * ((x - Xp l k) * ivI (Xp l i - Xp l k))))
    rw [if_neg hne]
    refine h1.trans (((h.val x).mul ((E.refl b).mul ((E.refl x).add hmi))).trans (E.of ?_))
    rw [hb]; grind⟩
theorem tprod_here {l : List (Int × Int)} {i : Nat} (h : ∀ k, k < l.length → k ≠ i → ¬ (2147483647 : Int) ∣ Xp l i - Xp l k) : ∀ k, k ≤ l.length → E 2147483647 (tprod l (Xp l i) i k) 1
  | 0, _ => E.refl 1
  | k + 1, hk => by
    have ih := tprod_here h k (by omega)
    show E _ (if k = i then _ else _) 1
    by_cases e : k = i
    · rw [if_pos e]; exact ih
    · rw [if_neg e]
      have := ih.mul (ivI_is _ (h k (by omega) e))
      rwa [Int.one_mul] at this
theorem tprod_there {l : List (Int × Int)} {i j : Nat} (hne : j ≠ i) : ∀ k, j < k → E 2147483647 (tprod l (Xp l j) i k) 0
  | k + 1, hk => by
    show E _ (if k = i then _ else _) 0
    by_cases e : k = j
    · subst e
      rw [if_neg hne, Int.sub_self, Int.zero_mul, Int.mul_zero]; exact E.refl 0
    · have ih := tprod_there (l := l) hne k (by omega)
      by_cases e2 : k = i
      · rw [if_pos e2]; exact ih
      · rw [if_neg e2]
        have := ih.mul (E.refl ((Xp l j - Xp l k) * ivI (Xp l i - Xp l k)))
        rwa [Int.zero_mul] at this
/-- the sum of the terms so far -/
def tsum (l : List (Int × Int)) (x : Int) : Nat → Int
  | 0 => 0
  | i + 1 => tsum l x i + Yp l i * tprod l x i l.length
structure OutT (l : List (Int × Int)) (i : Nat) (o : List Int) : Prop where
  len : o.length = l.length
  el : ∀ c ∈ o, El c
  val : ∀ x, E 2147483647 (ev x o) (tsum l x i)
theorem OutT.start (l : List (Int × Int)) : OutT l 0 (zerosL l.length) :=
  ⟨by simp [zerosL], fun c hc => by have := List.eq_of_mem_replicate hc; subst this; decide, fun x => by rw [ev_zeros]; exact E.refl 0⟩
/-- adding a term, as far as the coefficient j -/
structure AddT (o t : List Int) (j : Nat) (d : List Int) : Prop where
  len : d.length = o.length
  el : ∀ c ∈ d, El c
  val : ∀ x, E 2147483647 (ev x d) (ev x o + ev x (t.take j))
theorem AddT.start {o : List Int} (t : List Int) (h : ∀ c ∈ o, El c) : AddT o t 0 o := ⟨rfl, h, fun x => by rw [List.take_zero, ev_nil, Int.add_zero]; exact E.refl _⟩
theorem AddT.next {o t d : List Int} {j : Nat} (h : AddT o t j d) (hj : j < t.length) (hd : j < d.length) {s1 : Int} (hs : s1 = sumF (d[j]'hd) (t[j]'hj)) : AddT o t (j + 1) (d.set j s1) :=
  ⟨by simp [h.len], set_el h.el (by rw [hs]; exact sumF_range _ _), fun x => by
    rw [ev_set x s1 d j hd, ev_take_next x hj]
    have e1 : E 2147483647 (s1 - d[j]) t[j] := by
      have := (show E 2147483647 s1 (d[j] + t[j]) from by rw [hs]; exact sumF_E _ _).sub (E.refl d[j])
      rwa [show d[j] + t[j] - d[j] = t[j] by omega] at this
    refine ((h.val x).add (e1.mul (E.refl (x ^ j)))).trans (E.of ?_)
    omega⟩
theorem OutT.next {l : List (Int × Int)} {i : Nat} {o t d : List Int} (h : OutT l i o) (ht : TermT l i l.length t) (ha : AddT o t t.length d) : OutT l (i + 1) d :=
  ⟨by rw [ha.len, h.len], ha.el, fun x => by
    have := ha.val x
    rw [List.take_length] at this
    exact this.trans ((h.val x).add (ht.val x))⟩
theorem tsum_at {l : List (Int × Int)} {j : Nat} (hj : j < l.length) (h : ∀ i k, i < l.length → k < l.length → k ≠ i → ¬ (2147483647 : Int) ∣ Xp l i - Xp l k) : ∀ i, i ≤ l.length → E 2147483647 (tsum l (Xp l j) i) (if j < i then Yp l j else 0)
  | 0, _ => by rw [if_neg (by omega)]; exact E.refl 0
  | i + 1, hi => by
    have ih := tsum_at hj h i (by omega)
    show E _ (tsum l (Xp l j) i + Yp l i * tprod l (Xp l j) i l.length) _
    by_cases e : j = i
    · subst e
      rw [if_neg (by omega)] at ih
      rw [if_pos (by omega)]
      have := ih.add ((E.refl (Yp l j)).mul (tprod_here (fun k hk hne => h j k hj hk hne) l.length (Nat.le_refl _)))
      rwa [Int.mul_one, Int.zero_add] at this
    · have h2 := (E.refl (Yp l i)).mul (tprod_there (l := l) (i := i) e l.length hj)
      rw [Int.mul_zero] at h2
      have := ih.add h2
      rw [Int.add_zero] at this
      by_cases hlt : j < i
      · rw [if_pos hlt] at this; rw [if_pos (by omega)]; exact this
      · rw [if_neg hlt] at this; rw [if_neg (by omega)]; exact this
/-- the coefficients go through the points -/
theorem OutT.through {l : List (Int × Int)} {o : List Int} (h : OutT l l.length o) (hp : pairsE l = true) (hd : diffX (Xs l) = true) {j : Nat} (hj : j < l.length) : evF l[j].1 o = l[j].2 := by
  have hD := diff_of hd (Xs_range hp)
  have hnd : ∀ i k, i < l.length → k < l.length → k ≠ i → ¬ (2147483647 : Int) ∣ Xp l i - Xp l k := fun i k hi hk hne he => by
    rw [Xp_get hi, Xp_get hk] at he
    rcases Nat.lt_or_gt_of_ne hne with h' | h'
    · have := List.pairwise_iff_getElem.1 hD k i (by simpa using hk) (by simpa using hi) h'
      simp only [List.getElem_map] at this
      exact this (E.symm he)
    · have := List.pairwise_iff_getElem.1 hD i k (by simpa using hi) (by simpa using hk) h'
      simp only [List.getElem_map] at this
      exact this he
  have h1 := (h.val (Xp l j)).trans (tsum_at hj hnd l.length (Nat.le_refl _))
  rw [if_pos hj, Xp_get hj, Yp_get hj] at h1
  exact E.el ((evF_E _ _).trans h1) (evF_range _ _) (pairsE_iff.1 hp _ (List.getElem_mem hj)).2
end Go.Proofs.YtcdnddjoonecdaaDoor

/-
  Lists of shares in memory (layer 7): a share lies as a point does.
-/
set_option linter.unusedVariables false
set_option maxRecDepth 100000
namespace Go.Proofs.YtcdnddjoonecdaaDoor
open Go.RowKit
open Fdp
abbrev OwnSh (B : Nat) (w : World) (v : Value) (l : List (Int × Int)) : Prop := w.ownsRow B 24 2 v l.length (cellsP l)
theorem infoSh : (Tryd.prog.info? 24).map (fun i => (i.zero, i.size, i.bytes)) = some (some (.agg #[.int .i64 0, .int .i64 0]), 2, 16) := by kernel_rfl
theorem OwnSh.at {B : Nat} {w : World} {v : Value} {l : List (Int × Int)} (h : OwnSh B w v l) : ∃ a cap, v = .slice a l.length cap ∧ l.length ≤ cap ∧ cap ≤ maxLen ∧ PtsAt w a l.length l := by
  rcases h.2 with ⟨rfl, h0⟩ | ⟨g, cap, cur, rfl, h1, h2, h3, h4, h5, h6⟩
  · obtain rfl : l = [] := List.eq_nil_of_length_eq_zero h0
    exact ⟨none, 0, rfl, by simp, by unfold maxLen; omega, pts_nil w⟩
  · refine ⟨_, cap, rfl, h3, h4, rfl, fun _ => ⟨g, 0, rfl, fun j hj => ?_⟩⟩
    have := cellsP_get l j hj
    rw [Nat.zero_add, World.ownsRow.cellAt h (j * 2) (by omega), World.ownsRow.cellAt h (j * 2 + 1) (by omega)]
    exact this
theorem OwnSh.at2 {B n : Nat} {w : World} {v : Value} {l : List (Int × Int)} (h : OwnSh B w v l) (hn : n = l.length) : ∃ a cap, v = .slice a n cap ∧ n ≤ cap ∧ cap ≤ maxLen ∧ PtsAt w a n l := by
  subst hn; exact h.at
theorem wp_catSh (w : World) {o : Oper} {a : Act} {K : Act → World → Prop} {Q : Exit → Act → World → Prop} (s x : Operand)
    (ho : o.op = .call { callee := .builtin .append, args := #[s, x], argTypes := #[28, 28] })
    (B : Nat) (u : Value) (P L : List (Int × Int)) (b : Option Addr) (m c : Nat) (hs : a.eval s = u) (hx : a.eval x = .slice b m c) (h1 : OwnSh B w u P) (h2 : PtsAt w b m L) (hnone : b = none → m = 0 ∧ c = 0)
    (hn : P.length + m ≤ 1000000) (hB : B ≤ w.heap.size)
    (h : ∀ v' w', OwnSh B w' v' (P ++ L) → w.grownBy w' u.ownBlock → K (a.put o.dst v') w') : o.wp Tryd.prog a w K Q := by
  obtain ⟨i0, hi0, hz0, hz1, hz2⟩ := info_parts infoSh
  obtain ⟨v', w', hr, e1, e2, _⟩ := run_catG w B 28 o.type 24 i0 (.agg #[.int .i64 0, .int .i64 0]) 2 16 Tryd.underlying28 hi0 hz0 hz1 hz2 rfl (by decide) u P.length (cellsP P) h1 b m c (cellsP L) (by rw [cellsP_len, h2.len])
    (fun ad e j v hj => by
      have hjl : j < L.length * 2 := by have := (List.getElem?_eq_some_iff.1 hj).1; rwa [cellsP_len] at this
      obtain ⟨b', off, e', hc⟩ := h2.cells (by have := h2.len; omega)
      rw [e] at e'
      cases e'
      obtain ⟨k, hk⟩ : ∃ k, k = j / 2 := ⟨_, rfl⟩
      have hkl : k < L.length := by omega
      have hg := cellsP_get L k hkl
      have hck := hc k hkl
      rw [add_none]
      rcases (by omega : j = k * 2 ∨ j = k * 2 + 1) with rfl | rfl
      · rw [hck.1, ← hg.1, hj]
      · rw [← Nat.add_assoc, hck.2, ← hg.2, hj]) hnone one_cellsP (by unfold maxLen; omega) (by omega) hB
  have hO : OwnSh B w' v' (P ++ L) := by
    have e3 : (P ++ L).length = P.length + m := by rw [List.length_append, ← h2.len]
    show w'.ownsRow B 24 2 v' (P ++ L).length (cellsP (P ++ L))
    rw [e3, cellsP_app]; exact e1
  unfold Oper.wp execOp
  simp only [ho, resolve, invoke, builtin, Sem.run_bind, Sem.run_pure, Result.andThen_ok, List.map_toArray, List.map_cons, List.map_nil, hs, hx, hr]
  exact h v' w' hO e2
theorem wpList_catSh (w : World) {ops : Array Oper} {rest : List Oper} {o : Oper} {a : Act} {Q : Exit → Act → World → Prop} (hgd : o.guard = none) (s x : Operand)
    (ho : o.op = .call { callee := .builtin .append, args := #[s, x], argTypes := #[28, 28] })
    (B : Nat) (u : Value) (P L : List (Int × Int)) (b : Option Addr) (m c : Nat) (hs : a.eval s = u) (hx : a.eval x = .slice b m c) (h1 : OwnSh B w u P) (h2 : PtsAt w b m L) (hnone : b = none → m = 0 ∧ c = 0)
    (hn : P.length + m ≤ 1000000) (hB : B ≤ w.heap.size)
    (h : ∀ v' w', OwnSh B w' v' (P ++ L) → w.grownBy w' u.ownBlock → wpList Tryd.prog ops Q rest (a.put o.dst v') w') : wpList Tryd.prog ops Q (o :: rest) a w :=
  wpList_plain hgd fun _ hK => wp_catSh w s x ho B u P L b m c hs hx h1 h2 hnone hn hB fun v' w' h3 h4 => hK _ _ (h v' w' h3 h4)
theorem step_catSh (w : World) {ops : Array Oper} {o : Oper} {a : Act} {K : Act → World → Prop} {Q : Exit → Act → World → Prop} {E : Prop} (hgd : o.guard = none) (s x : Operand)
    (ho : o.op = .call { callee := .builtin .append, args := #[s, x], argTypes := #[28, 28] })
    (B : Nat) (u : Value) (P L : List (Int × Int)) (b : Option Addr) (m c : Nat) (hs : a.eval s = u) (hx : a.eval x = .slice b m c) (h1 : OwnSh B w u P) (h2 : PtsAt w b m L) (hnone : b = none → m = 0 ∧ c = 0)
    (hn : P.length + m ≤ 1000000) (hB : B ≤ w.heap.size)
    (h : ∀ v' w', OwnSh B w' v' (P ++ L) → w.grownBy w' u.ownBlock → K (a.put o.dst v') w') :
    if Region.wanted o (yielded ops a.tmps) = true then Oper.wp Tryd.prog o a w K Q else E := by
  have hw : Region.wanted o (yielded ops a.tmps) = true := by simp [Region.wanted, hgd]
  rw [if_pos hw]
  exact wp_catSh w s x ho B u P L b m c hs hx h1 h2 hnone hn hB h
theorem sh_one (w : World) (a b : Int) {B : Nat} (hB : w.heap.size = B) : PtsAt (w.alloc (Obj.cells #[Value.int .i64 a, Value.int .i64 b] 24)) (some ⟨B, 0, none⟩) 1 [(a, b)] := by
  subst hB
  exact ⟨rfl, fun _ => ⟨_, _, rfl, fun j hj => by
    match j, hj with
    | 0, _ => exact ⟨by rw [Lib.cell_of_heap (heap_lastF _ _)]; rfl, by rw [Lib.cell_of_heap (heap_lastF _ _)]; rfl⟩⟩⟩
theorem sh_two (w : World) (a b c d : Int) {B : Nat} (hB : w.heap.size = B) : PtsAt (w.alloc (Obj.cells #[Value.int .i64 a, Value.int .i64 b, Value.int .i64 c, Value.int .i64 d] 24)) (some ⟨B, 0, none⟩) 2 [(a, b), (c, d)] := by
  subst hB
  exact ⟨rfl, fun _ => ⟨_, _, rfl, fun j hj => by
    match j, hj with
    | 0, _ => exact ⟨by rw [Lib.cell_of_heap (heap_lastF _ _)]; rfl, by rw [Lib.cell_of_heap (heap_lastF _ _)]; rfl⟩
    | 1, _ => exact ⟨by rw [Lib.cell_of_heap (heap_lastF _ _)]; rfl, by rw [Lib.cell_of_heap (heap_lastF _ _)]; rfl⟩⟩⟩
theorem sh_three (w : World) (a b c d e f : Int) {B : Nat} (hB : w.heap.size = B) : PtsAt (w.alloc (Obj.cells #[Value.int .i64 a, Value.int .i64 b, Value.int .i64 c, Value.int .i64 d, Value.int .i64 e, Value.int .i64 f] 24)) (some ⟨B, 0, none⟩) 3 [(a, b), (c, d), (e, f)] := by
  subst hB
  exact ⟨rfl, fun _ => ⟨_, _, rfl, fun j hj => by
    match j, hj with
    | 0, _ => exact ⟨by rw [Lib.cell_of_heap (heap_lastF _ _)]; rfl, by rw [Lib.cell_of_heap (heap_lastF _ _)]; rfl⟩
    | 1, _ => exact ⟨by rw [Lib.cell_of_heap (heap_lastF _ _)]; rfl, by rw [Lib.cell_of_heap (heap_lastF _ _)]; rfl⟩
    | 2, _ => exact ⟨by rw [Lib.cell_of_heap (heap_lastF _ _)]; rfl, by rw [Lib.cell_of_heap (heap_lastF _ _)]; rfl⟩⟩⟩
end Go.Proofs.YtcdnddjoonecdaaDoor

/-
  The helpers of the statements of layer 7: element, made.
-/
set_option linter.unusedVariables false
set_option maxRecDepth 100000
namespace Go.Proofs.YtcdnddjoonecdaaDoor
open Go.RowKit
open Fdp
def elemF (n : Int) : Int := n % 2147483647
theorem elemF_el (n : Int) : El (elemF n) := by unfold elemF El; omega
theorem elemF_same {n : Int} (h : El n) : elemF n = n := by unfold elemF; rw [Int.emod_eq_of_lt h.1 h.2]
theorem tmod_parts (n : Int) : ∃ r : Int, n.tmod 2147483647 = r ∧ -2147483647 < r ∧ r < 2147483647 ∧ ((0 ≤ r ∧ elemF n = r) ∨ (r < 0 ∧ elemF n = r + 2147483647)) := by
  refine ⟨_, rfl, ?_⟩
  unfold elemF
  rcases Int.lt_or_le n 0 with h | h
  · obtain ⟨m, rfl⟩ : ∃ m : Int, n = -m := ⟨-n, by omega⟩
    rw [Int.neg_tmod, Int.tmod_eq_emod_of_nonneg (by omega)]
    omega
  · rw [Int.tmod_eq_emod_of_nonneg h]
    omega
theorem element_any (n : Int) (w : World) : Calls Tryd.prog 7 #[.int .i64 n] w fun e w' => e = .returned (.int .i64 (elemF n)) ∧ w = w' := by
  obtain ⟨r, h1, h2, h3, h4⟩ := tmod_parts n
  obtain ⟨y, hy⟩ : ∃ y, y = elemF n := ⟨_, rfl⟩
  rw [← hy] at h4 ⊢
  have e1 : IntKind.i64.wrap r = r := IntWalk.i64_in _ (by omega)
  have e2 : IntKind.i64.wrap (r + 2147483647) = r + 2147483647 := IntWalk.i64_in _ (by omega)
  rcases h4 with ⟨h5, h6⟩ | ⟨h5, h6⟩
  · subst h6
    have g : ¬ y < 0 := by omega
    clear h2 h3 hy
    go_enter Tryd.func7, Tryd.ntmps7
    go_wp2_with fail
    go_ret
    exact ⟨rfl, rfl⟩
  · have h6' : r + 2147483647 = y := h6.symm
    have e3 : IntKind.i64.wrap y = y := IntWalk.i64_in _ (by omega)
    clear h2 h3 hy h6
    go_enter Tryd.func7, Tryd.ntmps7
    go_wp2_with fail
    go_ret
    exact ⟨rfl, rfl⟩
def mN (need : Int) : Nat := need.toNat % 6 + 1
def mM (need total : Int) : Nat := mN need + total.toNat % (9 - mN need)
theorem mN_range (need : Int) : 1 ≤ mN need ∧ mN need ≤ 6 := by unfold mN; omega
theorem mM_range (need total : Int) : mN need ≤ mM need total ∧ mM need total ≤ 8 := by
  have h := mN_range need
  unfold mM
  have : total.toNat % (9 - mN need) < 9 - mN need := Nat.mod_lt _ (by omega)
  omega
set_option maxHeartbeats 1000000 in
theorem made_any (a : Option Addr) (n cap : Nat) (l : List Int) (need total : Int) (w : World) (h : IntsAt w a n l) (hn : n ≤ maxLen) (h1 : 0 ≤ need ∧ need ≤ 255) (h2 : 0 ≤ total ∧ total ≤ 255) :
    Calls Tryd.prog 5 #[.slice a n cap, .int .u8 need, .int .u8 total] w fun e w' => ∃ v R, e = .returned (.tuple #[.int .i64 (mN need : Nat), .int .i64 (mM need total : Nat), v]) ∧ OwnI w.heap.size w' v R ∧ R.length + 1 = mN need ∧ allE R = true ∧ Below w.heap.size w w' := by
  have HH := Lib.hid h
  have HL := Lib.hid h.len
  have hn' : n ≤ 9223372036854775807 := by unfold maxLen at hn; omega
  clear h hn
  obtain ⟨N, hN⟩ : ∃ N, N = mN need := ⟨_, rfl⟩
  obtain ⟨M, hM⟩ : ∃ M, M = mM need total := ⟨_, rfl⟩
  have rN := mN_range need
  have rM := mM_range need total
  rw [← hN] at rN
  rw [← hN, ← hM] at rM
  rw [← hN, ← hM]
  obtain ⟨n0, hn0⟩ : ∃ n0 : Nat, n0 = need.toNat % 6 := ⟨_, rfl⟩
  obtain ⟨m0, hm0⟩ : ∃ m0 : Nat, m0 = total.toNat % (9 - N) := ⟨_, rfl⟩
  have f0 : IntKind.i64.wrap need = need := IntWalk.i64_in _ (by omega)
  have f1 : IntKind.i64.wrap total = total := IntWalk.i64_in _ (by omega)
  have f2 : need.tmod 6 = (n0 : Int) := by
    obtain ⟨r, rfl⟩ : ∃ r : Nat, need = r := ⟨need.toNat, by omega⟩
    rw [Int.tmod_eq_emod_of_nonneg (by omega), hn0, Int.toNat_natCast]
    exact (Int.natCast_emod r 6).symm
  have eN : N = n0 + 1 := by rw [hN, hn0]; rfl
  have eM : M = N + m0 := by rw [hM, hm0, hN]; rfl
  have f3 : IntKind.i64.wrap (n0 : Int) = (n0 : Int) := IntWalk.i64_in _ (by omega)
  have f4 : IntKind.i64.wrap (1 + (n0 : Int)) = (N : Int) := by rw [IntWalk.i64_in _ (by omega)]; omega
  obtain ⟨d, hd⟩ : ∃ d : Nat, d = 9 - N := ⟨_, rfl⟩
  have f5 : IntKind.i64.wrap (9 - (N : Int)) = (d : Int) := by rw [IntWalk.i64_in _ (by omega)]; omega
  have f6 : total.tmod (d : Int) = (m0 : Int) := by
    obtain ⟨r, rfl⟩ : ∃ r : Nat, total = r := ⟨total.toNat, by omega⟩
    rw [Int.tmod_eq_emod_of_nonneg (by omega), hm0, hd, Int.toNat_natCast]
    exact (Int.natCast_emod r (9 - N)).symm
  have f7 : IntKind.i64.wrap (m0 : Int) = (m0 : Int) := IntWalk.i64_in _ (by omega)
  have f8 : IntKind.i64.wrap ((N : Int) + (m0 : Int)) = (M : Int) := by rw [IntWalk.i64_in _ (by omega)]; omega
  have f9 : ((d : Int) == 0) = false := beq_eq_false_iff_ne.2 (by omega)
  have f10 : ¬ d = 0 := by omega
  obtain ⟨N1, hN1⟩ : ∃ N1 : Nat, N1 = N - 1 := ⟨_, rfl⟩
  have f11 : IntKind.i64.wrap ((N : Int) - 1) = (N1 : Int) := by rw [IntWalk.i64_in _ (by omega)]; omega
  have f12 : (N : Int) - 1 = (N1 : Int) := by omega
  have f13 : N1 ≤ 5 := by omega
  have hNN : Hid (N1 + 1 = N) := Lib.hid (by omega)
  clear hN hM hn0 hm0 eN eM hd hN1 rN rM h1 h2
  have D0 : Hid (Below w.heap.size w w) := Lib.hid (Below.refl _ _)
  have hO : Hid (OwnI w.heap.size w (.slice none 0 0) []) := Lib.hid (World.ownsRow_nil _ _ _ _)
  go_enter Tryd.func5, Tryd.ntmps5
  go_wp2_with fail
  go_loopw [11, 12] (fun v ii wr => ∃ (k : Nat) (R : List Int), k ≤ N1 ∧ ii = .int .i64 (k : Int) ∧ Hid (R.length = k) ∧ Hid (allE R = true) ∧ Hid (OwnI w.heap.size wr v R) ∧ Hid (Below w.heap.size w wr)) (fun _ ii _ => N1 - (intOf ii).toNat)
  case atStart => exact ⟨0, [], by omega, rfl, Lib.hid rfl, Lib.hid rfl, hO, D0⟩
  case round =>
    clear hO D0
    obtain ⟨k, R, hk, rfl, hR, hE, hO, hD⟩ := hrel
    by_cases hlt : k < N1
    · have hRl : Hid (R.length + 1 ≤ 1000000) := Lib.hid (by have := hR.out; omega)
      by_cases hkn : k < n
      · obtain ⟨b, off, rfl, -⟩ := HH.out.cells (by omega)
        have hkl : k < l.length := by rw [← HL.out]; exact hkn
        have hc := (HH.out.bel hD.out).cell hkl
        obtain ⟨x, hx⟩ : ∃ x, x = l[k] := ⟨_, rfl⟩
        rw [← hx] at hc
        have hE2 : Hid (allE (R ++ [elemF x]) = true) := Lib.hid (allE_iff.2 fun c hc => by
          rcases List.mem_append.1 hc with h | h
          · exact allE_iff.1 hE.out c h
          · simp at h; subst h; exact elemF_el x)
        have hR2 : Hid ((R ++ [elemF x]).length = k + 1) := Lib.hid (by simp [hR.out])
        have HX := Lib.hid hx
        clear hx
        have hO2 := Lib.hid (own_bel hO.out ((Below.refl _ wr).alloc (Nat.le_refl _) (Obj.cells #[Value.int .i64 (elemF x)] 3)))
        have hD2 := Lib.hid (hD.out.alloc hD.out.size (Obj.cells #[Value.int .i64 (elemF x)] 3))
        go_wp2_with fail
        refine (element_any _ _).mono ?_
        rintro e w' ⟨rfl, rfl⟩
        go_wp2_with (at_builtin; refine wpList_catI _ rfl _ _ rfl w.heap.size _ R [elemF x] _ 1 1 rfl rfl hO2.out (ints_one _ _ (by simp)) (fun h => by cases h) hRl.out hD2.out.size ?_)
        intro v6 w6 hO6 hg6 ha6
        have hO7 : Hid (OwnI w.heap.size w6 v6 (R ++ [elemF x])) := Lib.hid hO6
        have hD7 := Lib.hid (below_app hD2.out hD2.out.size hO2.out hg6)
        clear hO6 hg6 ha6 hO2 hD2 hO hD
        go_wp2_with fail
        go_roundw
        case rel => exact ⟨k + 1, _, by omega, by go_num, hR2, hE2, hO7, hD7⟩
        case measure => simp [intOf]; omega
      · have hE2 : Hid (allE (R ++ [(k : Int)]) = true) := Lib.hid (allE_iff.2 fun c hc => by
          rcases List.mem_append.1 hc with h | h
          · exact allE_iff.1 hE.out c h
          · simp at h; subst h; omega)
        have hR2 : Hid ((R ++ [(k : Int)]).length = k + 1) := Lib.hid (by simp [hR.out])
        have hO2 := Lib.hid (own_bel hO.out ((Below.refl _ wr).alloc (Nat.le_refl _) (Obj.cells #[Value.int .i64 (k : Int)] 3)))
        have hD2 := Lib.hid (hD.out.alloc hD.out.size (Obj.cells #[Value.int .i64 (k : Int)] 3))
        go_wp2_with (at_builtin; refine wpList_catI _ rfl _ _ rfl w.heap.size _ R [(k : Int)] _ 1 1 rfl rfl hO2.out (ints_one _ _ (by simp)) (fun h => by cases h) hRl.out hD2.out.size ?_)
        intro v6 w6 hO6 hg6 ha6
        have hO7 : Hid (OwnI w.heap.size w6 v6 (R ++ [(k : Int)])) := Lib.hid hO6
        have hD7 := Lib.hid (below_app hD2.out hD2.out.size hO2.out hg6)
        clear hO6 hg6 ha6 hO2 hD2 hO hD
        go_wp2_with fail
        go_roundw
        case rel => exact ⟨k + 1, _, by omega, by go_num, hR2, hE2, hO7, hD7⟩
        case measure => simp [intOf]; omega
    · obtain rfl : k = N1 := by omega
      go_wp2_with fail
      go_ret3
      exact ⟨_, R, rfl, hO.out, by rw [hR.out]; exact hNN.out, hE.out, hD.out⟩
end Go.Proofs.YtcdnddjoonecdaaDoor

/-
  The helpers of the statements of layer 7: chosen.
-/
set_option linter.unusedVariables false
set_option maxRecDepth 100000
namespace Go.Proofs.YtcdnddjoonecdaaDoor
open Go.RowKit
open Fdp
end Go.Proofs.YtcdnddjoonecdaaDoor

/-
  Rows of numbers of the call's own, known whole; the field's sums, products, inverses of elements, as calls (layer 7).
-/
set_option linter.unusedVariables false
set_option maxRecDepth 100000
namespace Go.Proofs.YtcdnddjoonecdaaDoor
open Go.RowKit
open Fdp
/-- a row of numbers -/
def RowB (R : Nat) (D : List Int) (w : World) : Prop := w.heap[R]? = some (.cells (rowOf D) 3 (0, 0))
theorem RowB.lt {R : Nat} {D : List Int} {w : World} (h : RowB R D w) : R < w.heap.size := blk_ltF h
theorem RowB.bel {R : Nat} {D : List Int} {w w' : World} (h : RowB R D w) (hb : Below w.heap.size w w') : RowB R D w' := (hb.block R h.lt).trans h
theorem RowB.set {R : Nat} {D : List Int} {w : World} (h : RowB R D w) (j : Nat) (x : Int) : RowB R (D.set j x) (w.setCell ⟨R, j, none⟩ (.int .i64 x)) := by
  unfold RowB; rw [heap_setCell_same _ _ j _ _ _ h, rowOf_set]
theorem RowB.other {R C : Nat} {D : List Int} {w : World} (h : RowB R D w) (hne : R ≠ C) (j : Nat) (u : Value) : RowB R D (w.setCell ⟨C, j, none⟩ u) := (Below.heap_setCell _ _ _ _ hne).trans h
theorem RowB.cell {R : Nat} {D : List Int} {w : World} (h : RowB R D w) {j : Nat} (hj : j < D.length) : w.cell? ⟨R, j, none⟩ = some (.int .i64 D[j]) := by rw [Lib.cell_of_heap h, rowOf_get hj]
theorem RowB.fz {R : Nat} {D : List Int} {w : World} (h : RowB R D w) (j : Nat) : w.frozen? ⟨R, j, none⟩ = false := Lib.frozen_of_heap h j
theorem RowB.ints {R n : Nat} {D : List Int} {w : World} (h : RowB R D w) (hn : n = D.length) : IntsAt w (some ⟨R, 0, none⟩) n D := ⟨hn, fun _ => ⟨R, 0, rfl, fun j hj => by rw [Nat.zero_add]; exact h.cell hj⟩⟩
theorem RowB.one (w : World) (y : Int) : RowB w.heap.size [y] (w.alloc (Obj.cells #[Value.int .i64 y] 3)) := heap_lastF _ _
theorem row_of_own {B R n : Nat} {w : World} (h : w.ownsRow B 3 1 (.slice (some ⟨R, 0, none⟩) n n) n (madeCells #[Value.int .i64 0] n).toList) : RowB R (zerosL n) w := by
  rcases h.2 with ⟨e, _⟩ | ⟨g, cap', cur, e, _, hg, _, _, hcs, htk⟩
  · cases e
  · simp only [Value.slice.injEq, Option.some.injEq, Addr.mk.injEq, and_true, true_and] at e
    obtain ⟨e1, e2⟩ := e
    subst e1 e2
    unfold RowB
    rw [hg]
    congr 2
    apply Array.ext'
    rw [List.take_of_length_le (by simp [hcs])] at htk
    rw [htk, toList_madeCells_one]
    simp [rowOf, zerosL]
end Go.Proofs.YtcdnddjoonecdaaDoor

/-
  The helper of the statements of layer 7 that computes the coefficients of the polynomial through points.
-/
set_option linter.unusedVariables false
set_option maxRecDepth 100000
namespace Go.Proofs.YtcdnddjoonecdaaDoor
open Go.RowKit
open Fdp
end Go.Proofs.YtcdnddjoonecdaaDoor
