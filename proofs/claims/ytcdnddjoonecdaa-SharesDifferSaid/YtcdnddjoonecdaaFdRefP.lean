/-
  The document's own Interpolate: pure facts (layer 6).
-/
import Derived.Test.YtcdnddjoonecdaaFdInter
set_option linter.unusedVariables false
set_option maxRecDepth 100000
namespace Go.Proofs.Ytcdnddjoonecdaa
open Go.RowKit
open Fdp
theorem interE_len {l : List (Int × Int)} {x : Int} (h : ¬ (1 ≤ l.length ∧ l.length ≤ 16)) : interE l x = (0, 1) := by
  unfold interE; rw [if_neg (by simp; intro h1 h2; exact absurd ⟨h1, h2⟩ h)]
theorem interE_x {l : List (Int × Int)} {x : Int} (h : okE x = false) : interE l x = (0, 1) := by
  unfold interE; rw [h, if_neg (by simp)]
theorem interE_p {l : List (Int × Int)} {x : Int} (h : pairsE l = false) : interE l x = (0, 1) := by
  unfold interE; rw [h, if_neg (by simp)]
theorem interE_twice {l : List (Int × Int)} {x : Int} (h : 1 ≤ l.length ∧ l.length ≤ 16) (hp : pairsE l = true) (hx : okE x = true) (hd : diffX (Xs l) = false) : interE l x = (0, 8) := by
  unfold interE; rw [hp, hx, hd, if_pos (by simpa using h), if_neg (by simp)]
theorem interE_ok {l : List (Int × Int)} {x : Int} (h : 1 ≤ l.length ∧ l.length ≤ 16) (hp : pairsE l = true) (hx : okE x = true) (hd : diffX (Xs l) = true) : interE l x = (interF l x, 0) := by
  unfold interE; rw [hp, hx, hd, if_pos (by simpa using h), if_pos rfl]
/-- the X of the first k points, without that of point i -/
def oth (l : List (Int × Int)) (i k : Nat) : List Int := ((Xs l).take k).eraseIdx i
theorem oth_zero (l : List (Int × Int)) (i : Nat) : oth l i 0 = [] := by simp [oth]
theorem oth_all (l : List (Int × Int)) (i : Nat) : oth l i l.length = (Xs l).eraseIdx i := by
  unfold oth; rw [List.take_of_length_le (by simp)]
theorem oth_skip {l : List (Int × Int)} {i : Nat} (hi : i < l.length) : oth l i (i + 1) = oth l i i := by
  unfold oth
  have hX : i < (Xs l).length := by simpa using hi
  rw [List.take_succ_eq_append_getElem hX, List.eraseIdx_append_of_length_le (by simp; omega)]
  have e : i - (List.take i (Xs l)).length = 0 := by simp; omega
  rw [e, List.eraseIdx_cons_zero, List.append_nil, List.eraseIdx_of_length_le (by simp; omega)]
theorem oth_next {l : List (Int × Int)} {i k : Nat} (hk : k < l.length) (hne : k ≠ i) : oth l i (k + 1) = oth l i k ++ [Xp l k] := by
  unfold oth
  have hX : k < (Xs l).length := by simpa using hk
  rw [List.take_succ_eq_append_getElem hX, Xp_get hk, show (Xs l)[k] = l[k].1 by simp]
  by_cases h : i < k
  · rw [List.eraseIdx_append_of_lt_length (by simp; omega)]
  · rw [List.eraseIdx_of_length_le (by simp; omega), List.eraseIdx_of_length_le (by simp; omega)]
theorem prodS_snoc (x k : Int) : ∀ l : List Int, prodS x (l ++ [k]) = prodS x l * (x - k)
  | [] => by simp [prodS]
  | a :: l => by
    have ih := prodS_snoc x k l
    show (x - a) * prodS x (l ++ [k]) = (x - a) * prodS x l * (x - k)
    rw [ih, Int.mul_assoc]
/-- what has been multiplied so far, for point i -/
structure Mults (l : List (Int × Int)) (x : Int) (i k : Nat) (u v : Int) : Prop where
  ur : 0 ≤ u ∧ u < 2147483647
  vr : 0 ≤ v ∧ v < 2147483647
  ue : E 2147483647 u (Yp l i * prodS x (oth l i k))
  ve : E 2147483647 v (prodS (Xp l i) (oth l i k))
theorem Mults.start {l : List (Int × Int)} {x y : Int} {i : Nat} (hy : y = Yp l i) (hr : 0 ≤ y ∧ y < 2147483647) : Mults l x i 0 y 1 :=
  ⟨hr, by omega, by rw [oth_zero]; exact E.of (by simp [prodS, hy]), by rw [oth_zero]; exact E.of (by simp [prodS])⟩
theorem Mults.skip {l : List (Int × Int)} {x u v : Int} {i : Nat} (h : Mults l x i i u v) (hi : i < l.length) : Mults l x i (i + 1) u v :=
  ⟨h.ur, h.vr, by rw [oth_skip hi]; exact h.ue, by rw [oth_skip hi]; exact h.ve⟩
theorem Mults.next {l : List (Int × Int)} {x u v a b : Int} {i k : Nat} (h : Mults l x i k u v) (hk : k < l.length) (hne : k ≠ i) (ha : a = Xp l i) (hb : b = Xp l k) :
    Mults l x i (k + 1) (mulF u (difF x b)) (mulF v (difF a b)) :=
  ⟨mulF_range _ _, mulF_range _ _, by
    rw [oth_next hk hne, prodS_snoc, ← hb]
    exact (mulF_E _ _).trans ((h.ue.mul (difF_E x b)).trans (E.of (Int.mul_assoc _ _ _))), by
    rw [oth_next hk hne, prodS_snoc, ← hb, ← ha]
    exact (mulF_E _ _).trans ((show E _ v (prodS a (oth l i k)) from by rw [ha]; exact h.ve).mul (difF_E a b))⟩
def LagS (l : List (Int × Int)) (x : Int) (i : Nat) (s : Int) : Prop := E 2147483647 s (lagN ivI l x i)
theorem LagS.start (l : List (Int × Int)) (x : Int) : LagS l x 0 0 := E.refl 0
theorem LagS.next {l : List (Int × Int)} {x s u v : Int} {i : Nat} (h : LagS l x i s) (hm : Mults l x i l.length u v) : LagS l x (i + 1) (sumF s (mulF u (ivI v))) := by
  unfold LagS at h ⊢
  have hu := hm.ue
  have hv := hm.ve
  rw [oth_all] at hu hv
  show E _ _ (lagN ivI l x i + term ivI (l.getD i (0, 0)) ((Xs l).eraseIdx i) x)
  refine (sumF_E _ _).trans (h.add ((mulF_E _ _).trans ?_))
  show E _ _ (Yp l i * prodS x ((Xs l).eraseIdx i) * ivI (prodS (Xp l i) ((Xs l).eraseIdx i)))
  rw [ivI_E hv]
  exact hu.mul (E.refl _)
theorem LagS.done {l : List (Int × Int)} {x s : Int} (h : LagS l x l.length s) (hs : 0 ≤ s ∧ s < 2147483647) : s = interF l x :=
  (E.trans h (interF_E l x).symm).eq hs.1 hs.2 (interF_range l x).1 (interF_range l x).2
/-- so far no X is that of another point -/
def Apart (l : List (Int × Int)) (i m : Nat) : Prop := ∀ p q, p < l.length → q < l.length → p ≠ q → (p < i ∨ (p = i ∧ q < m)) → Xp l p ≠ Xp l q
theorem Apart.start (l : List (Int × Int)) : Apart l 0 0 := fun p q _ _ _ h => by omega
theorem Apart.skip {l : List (Int × Int)} {i : Nat} (h : Apart l i i) : Apart l i (i + 1) := fun p q hp hq hne h' => h p q hp hq hne (by omega)
theorem Apart.next {l : List (Int × Int)} {i k : Nat} (h : Apart l i k) (hne : Xp l i ≠ Xp l k) : Apart l i (k + 1) := fun p q hp hq hpq h' => by
  by_cases e : p = i ∧ q = k
  · obtain ⟨rfl, rfl⟩ := e; exact hne
  · exact h p q hp hq hpq (by omega)
theorem Apart.row {l : List (Int × Int)} {i : Nat} (h : Apart l i l.length) : Apart l (i + 1) 0 := fun p q hp hq hne h' => h p q hp hq hne (by omega)
theorem Apart.done {l : List (Int × Int)} (h : Apart l l.length 0) : diffX (Xs l) = true := by
  unfold diffX
  rw [decide_eq_true_iff, List.pairwise_iff_getElem]
  intro i j hi hj hlt
  have hi' : i < l.length := by simpa using hi
  have hj' : j < l.length := by simpa using hj
  have := h i j hi' hj' (by omega) (.inl hi')
  rw [Xp_get hi', Xp_get hj'] at this
  simpa using this
theorem apart_no {l : List (Int × Int)} {i k : Nat} (hi : i < l.length) (hk : k < l.length) (hne : k ≠ i) (h : Xp l k = Xp l i) : diffX (Xs l) = false := by
  rw [Xp_get hi, Xp_get hk] at h
  rcases Nat.lt_or_gt_of_ne hne with h' | h'
  · exact Dif.no (k := i) (m := k) (by simpa using hi) (by simpa using hk) h' (by simpa using h.symm)
  · exact Dif.no (k := k) (m := i) (by simpa using hk) (by simpa using hi) h' (by simpa using h)
end Go.Proofs.Ytcdnddjoonecdaa
