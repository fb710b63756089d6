/-
  Newton's coefficients computed in place, stage by stage, and the value of Newton's form: pure facts (layer 6).
-/
import Derived.Test.YtcdnddjoonecdaaFdPairs
set_option linter.unusedVariables false
set_option maxRecDepth 100000
namespace Go.Proofs.Ytcdnddjoonecdaa
open Go.RowKit
open Fdp
def Xp (l : List (Int × Int)) (i : Nat) : Int := (l.getD i (0, 0)).1
def Yp (l : List (Int × Int)) (i : Nat) : Int := (l.getD i (0, 0)).2
theorem Xp_get {l : List (Int × Int)} {i : Nat} (h : i < l.length) : Xp l i = l[i].1 := by simp [Xp, List.getD, h]
theorem Yp_get {l : List (Int × Int)} {i : Nat} (h : i < l.length) : Yp l i = l[i].2 := by simp [Yp, List.getD, h]
theorem ivI_E {a b : Int} (h : E 2147483647 a b) : ivI a = ivI b := by
  have e : a % 2147483647 = b % 2147483647 := by
    obtain ⟨k, hk⟩ := h; omega
  unfold ivI; rw [e]
/-- the difference that stands at a place when the spans before s are done -/
def DV (l : List (Int × Int)) (s j : Nat) : Int := dd ivI (Xp l) (Yp l) (min j s) (j - min j s)
theorem DV_low {l : List (Int × Int)} {s j : Nat} (h : j ≤ s) : DV l s j = dd ivI (Xp l) (Yp l) j 0 := by
  unfold DV; rw [Nat.min_eq_left h, Nat.sub_self]
theorem DV_high {l : List (Int × Int)} {s j : Nat} (h : s ≤ j) : DV l s j = dd ivI (Xp l) (Yp l) s (j - s) := by
  unfold DV; rw [Nat.min_eq_right h]
/-- span s is done at the places behind i -/
structure Stage (l : List (Int × Int)) (s i : Nat) (D : List Int) : Prop where
  len : D.length = l.length
  el : ∀ x ∈ D, 0 ≤ x ∧ x < 2147483647
  val : ∀ j (hj : j < D.length), E 2147483647 D[j] (if i < j then DV l (s + 1) j else DV l s j)
theorem Stage.start {l : List (Int × Int)} (h : pairsE l = true) (i : Nat) (hi : l.length ≤ i + 1) : Stage l 0 i (l.map Prod.snd) :=
  ⟨by simp, fun x hx => by
    obtain ⟨q, hq, rfl⟩ := List.mem_map.1 hx
    exact (pairsE_iff.1 h q hq).2, fun j hj => by
    have hj' : j < l.length := by simpa using hj
    rw [if_neg (by omega), DV_high (Nat.zero_le _)]
    refine E.of ?_
    rw [List.getElem_map]
    show _ = Yp l (j - 0)
    rw [Nat.sub_zero, Yp_get hj']⟩
theorem Stage.get {l : List (Int × Int)} {s i : Nat} {D : List Int} (h : Stage l s i D) {j : Nat} (hj : j < D.length) : 0 ≤ D[j] ∧ D[j] < 2147483647 := h.el _ (List.getElem_mem hj)
theorem Stage.step {l : List (Int × Int)} {s i : Nat} {D : List Int} (h : Stage l s (i + 1) D) (hi : i + 1 < D.length) (hs : s ≤ i) {a b x y : Int} (ha : a = D[i + 1]) (hb : b = D[i]'(by omega)) (hx : x = Xp l (i + 1)) (hy : y = Xp l (i - s)) :
    Stage l s i (D.set (i + 1) (mulF (difF a b) (ivI (difF x y)))) := by
  refine ⟨by rw [List.length_set, h.len], fun z hz => ?_, fun j hj => ?_⟩
  · rcases List.mem_or_eq_of_mem_set hz with hz | rfl
    · exact h.el z hz
    · exact mulF_range _ _
  · rw [List.length_set] at hj
    by_cases e : j = i + 1
    · subst e
      rw [List.getElem_set_self, if_pos (by omega), DV_high (by omega)]
      have h1 := h.val (i + 1) hi
      have h2 := h.val i (by omega)
      rw [if_neg (by omega), DV_high (by omega), ← ha] at h1
      rw [if_neg (by omega), DV_high (by omega), ← hb] at h2
      have e1 : i + 1 - (s + 1) = i - s := by omega
      have e2 : i + 1 - s = i - s + 1 := by omega
      rw [e1]
      rw [e2] at h1
      show E _ _ ((dd ivI (Xp l) (Yp l) s (i - s + 1) - dd ivI (Xp l) (Yp l) s (i - s)) * ivI (Xp l (i - s + s + 1) - Xp l (i - s)))
      have e3 : i - s + s + 1 = i + 1 := by omega
      rw [e3, ← hx, ← hy, ← ivI_E (difF_E x y)]
      exact (mulF_E _ _).trans (((difF_E a b).trans (h1.sub h2)).mul (E.refl _))
    · rw [List.getElem_set_ne (by omega)]
      have h1 := h.val j hj
      by_cases h' : i + 1 < j
      · rw [if_pos h'] at h1; rw [if_pos (by omega)]; exact h1
      · rw [if_neg h'] at h1; rw [if_neg (by omega)]; exact h1
theorem Stage.next {l : List (Int × Int)} {s i k : Nat} {D : List Int} (h : Stage l s i D) (hi : i ≤ s) (hb : i = s ∨ l.length ≤ i + 1) (hk : l.length ≤ k + 1) : Stage l (s + 1) k D :=
  ⟨h.len, h.el, fun j hj => by
    have h1 := h.val j hj
    have hl := h.len
    rw [if_neg (by omega)]
    by_cases h' : i < j
    · rw [if_pos h'] at h1; exact h1
    · rw [if_neg h', DV_low (by omega)] at h1
      rw [DV_low (by omega)]; exact h1⟩
/-- the coefficients of Newton's form -/
structure Coefs (l : List (Int × Int)) (D : List Int) : Prop where
  len : D.length = l.length
  el : ∀ x ∈ D, 0 ≤ x ∧ x < 2147483647
  val : ∀ j (hj : j < D.length), E 2147483647 D[j] (dd ivI (Xp l) (Yp l) j 0)
theorem Stage.done {l : List (Int × Int)} {s i : Nat} {D : List Int} (h : Stage l s i D) (hs : l.length ≤ s + 1) (hi : l.length ≤ i + 1) : Coefs l D :=
  ⟨h.len, h.el, fun j hj => by
    have h1 := h.val j hj
    have hl := h.len
    rw [if_neg (by omega), DV_low (by omega)] at h1; exact h1⟩
/-- the part of Newton's form that has the first k coefficients -/
def part (l : List (Int × Int)) (x : Int) : Nat → Int
  | 0 => 0
  | m + 1 => newt ivI (Xp l) (Yp l) 0 x m
theorem part_next (l : List (Int × Int)) (x : Int) : ∀ k, part l x (k + 1) = part l x k + dd ivI (Xp l) (Yp l) k 0 * prodN (Xp l) 0 x k
  | 0 => by show Yp l 0 = 0 + Yp l 0 * 1; omega
  | m + 1 => rfl
/-- what the later coefficients make together, from the end on -/
def Nest (l : List (Int × Int)) (x : Int) (k : Nat) (v : Int) : Prop := E 2147483647 (part l x k + prodN (Xp l) 0 x k * v) (part l x l.length)
theorem Nest.start (l : List (Int × Int)) (x : Int) : Nest l x l.length 0 := by
  unfold Nest; rw [Int.mul_zero, Int.add_zero]; exact E.refl _
theorem Nest.step {l : List (Int × Int)} {x v c u : Int} {k : Nat} {D : List Int} (h : Nest l x (k + 1) v) (hD : Coefs l D) (hk : k < D.length) (hc : c = D[k]) (hu : u = Xp l k) :
    Nest l x k (sumF (mulF v (difF x u)) c) := by
  unfold Nest at h ⊢
  rw [part_next] at h
  refine E.trans ?_ h
  have h1 : E 2147483647 (sumF (mulF v (difF x u)) c) (v * (x - u) + c) := (sumF_E _ _).trans (((mulF_E _ _).trans ((E.refl v).mul (difF_E x u))).add (E.refl c))
  have h2 : E 2147483647 c (dd ivI (Xp l) (Yp l) k 0) := by rw [hc]; exact hD.val k hk
  refine ((E.refl (part l x k)).add ((E.refl _).mul (h1.trans ((E.refl _).add h2)))).trans (E.of ?_)
  show _ = _ + (x - Xp l (0 + k)) * prodN (Xp l) 0 x k * v
  rw [Nat.zero_add, ← hu]
  grind
/-- the value of the polynomial through the points, as an element -/
def interF (l : List (Int × Int)) (x : Int) : Int := lagN ivI l x l.length % 2147483647
theorem interF_range (l : List (Int × Int)) (x : Int) : 0 ≤ interF l x ∧ interF l x < 2147483647 := by
  unfold interF; generalize lagN ivI l x l.length = y; omega
theorem interF_E (l : List (Int × Int)) (x : Int) : E 2147483647 (interF l x) (lagN ivI l x l.length) := E.emod _
theorem diff_of {l : List Int} (hd : diffX l = true) (h : ∀ x ∈ l, 0 ≤ x ∧ x < 2147483647) : Diff 2147483647 l := by
  unfold diffX at hd
  rw [decide_eq_true_iff] at hd
  refine List.Pairwise.imp_of_mem ?_ hd
  intro a b ha hb hne he
  have h1 := h a ha
  have h2 := h b hb
  exact hne (he.eq h1.1 h1.2 h2.1 h2.2)
theorem Xs_range {l : List (Int × Int)} (hp : pairsE l = true) : ∀ x ∈ Xs l, 0 ≤ x ∧ x < 2147483647 := by
  intro x hx
  obtain ⟨q, hq, rfl⟩ := List.mem_map.1 hx
  exact (pairsE_iff.1 hp q hq).1
theorem inter_fits {l : List (Int × Int)} (hp : pairsE l = true) (hd : diffX (Xs l) = true) : Fits 2147483647 l (fun x => interF l x) := by
  have h := lag_fits prI one_ndvd ivI_is l (diff_of hd (Xs_range hp))
  exact ⟨h.poly.of_E fun x => interF_E l x, fun q hq => (interF_E l q.1).trans (h.through q hq)⟩
theorem newt_fit {l : List (Int × Int)} (hp : pairsE l = true) (hd : diffX (Xs l) = true) (h0 : 0 < l.length) : Fits 2147483647 l (fun x => part l x l.length) := by
  have hD := diff_of hd (Xs_range hp)
  obtain ⟨m, hm⟩ : ∃ m, l.length = m + 1 := ⟨l.length - 1, by omega⟩
  have h := newt_fits prI ivI_is (X := Xp l) (Y := Yp l) (N := m) (fun a b hab hb he => by
    rw [Xp_get (by omega), Xp_get (by omega)] at he
    have := List.pairwise_iff_getElem.1 hD a b (by simp; omega) (by simp; omega) hab
    simp only [List.getElem_map] at this
    exact this he.symm) m 0 (by omega)
  rw [hm]
  refine ⟨by rw [hm]; exact h.1.poly, fun q hq => ?_⟩
  obtain ⟨j, hj, rfl⟩ := List.getElem_of_mem hq
  have h2 := h.2 j (by omega)
  rw [Nat.zero_add, Xp_get hj, Yp_get hj] at h2
  exact h2
theorem Nest.done {l : List (Int × Int)} {x v : Int} (h : Nest l x 0 v) (hv : 0 ≤ v ∧ v < 2147483647) (hp : pairsE l = true) (hd : diffX (Xs l) = true) (h0 : 0 < l.length) : v = interF l x := by
  have h1 := (newt_fit hp hd h0).same prI (inter_fits hp hd) (diff_of hd (Xs_range hp)) x
  unfold Nest at h
  have e : part l x 0 + prodN (Xp l) 0 x 0 * v = v := by show 0 + 1 * v = v; omega
  rw [e] at h
  exact (h.trans h1).eq hv.1 hv.2 (interF_range l x).1 (interF_range l x).2
end Go.Proofs.Ytcdnddjoonecdaa
