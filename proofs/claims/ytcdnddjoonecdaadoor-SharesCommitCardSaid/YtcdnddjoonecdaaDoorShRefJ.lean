/-
  The document's own answers of layer 7: Join.
-/
import Derived.Test.YtcdnddjoonecdaaDoorShRefS
import Derived.Test.YtcdnddjoonecdaaDoorFdD
set_option linter.unusedVariables false
set_option maxRecDepth 100000
namespace Go.Proofs.YtcdnddjoonecdaaDoor
open Go.RowKit
open Fdp
theorem joinE_arg {l : List (Int × Int)} {n : Int} (h : ¬ (1 ≤ n ∧ n ≤ 16)) : joinE l n = (0, 1) := by unfold joinE; rw [decide_eq_false h, if_neg (by simp)]
theorem joinE_valid {l : List (Int × Int)} {n : Int} (h : validsS l = false) : joinE l n = (0, 1) := by unfold joinE; rw [h, if_neg (by simp)]
theorem joinE_twice {l : List (Int × Int)} {n : Int} (h1 : 1 ≤ n ∧ n ≤ 16) (hv : validsS l = true) (hd : diffX (Xs l) = false) : joinE l n = (0, 8) := by
  unfold joinE; rw [decide_eq_true h1, hv, hd, if_pos (by simp), if_neg (by simp)]
theorem joinE_few {l : List (Int × Int)} {n : Int} (h1 : 1 ≤ n ∧ n ≤ 16) (hv : validsS l = true) (hd : diffX (Xs l) = true) (hl : (l.length : Int) < n) : joinE l n = (0, 25) := by
  unfold joinE; rw [decide_eq_true h1, hv, hd, if_pos (by simp), if_pos rfl, if_pos hl]
theorem joinE_proof {l : List (Int × Int)} {n : Int} (h1 : 1 ≤ n ∧ n ≤ 16) (hv : validsS l = true) (hd : diffX (Xs l) = true) (hl : ¬ (l.length : Int) < n) (hr : restOn l n.toNat = false) : joinE l n = (0, 24) := by
  unfold joinE; rw [decide_eq_true h1, hv, hd, if_pos (by simp), if_pos rfl, if_neg hl, hr, if_neg (by simp)]
theorem joinE_ok {l : List (Int × Int)} {n : Int} (h1 : 1 ≤ n ∧ n ≤ 16) (hv : validsS l = true) (hd : diffX (Xs l) = true) (hl : ¬ (l.length : Int) < n) (hr : restOn l n.toNat = true) : joinE l n = (interF (l.take n.toNat) 0, 0) := by
  unfold joinE; rw [decide_eq_true h1, hv, hd, if_pos (by simp), if_pos rfl, if_neg hl, hr, if_pos rfl]
theorem valids_no {l : List (Int × Int)} {k : Nat} (hk : k < l.length) (h : validS l[k] = false) : validsS l = false := by
  unfold validsS; rw [List.all_eq_false]; exact ⟨_, List.getElem_mem hk, by simp [h]⟩
theorem valids_upto {l : List (Int × Int)} (h : ∀ j (hj : j < l.length), validS l[j] = true) : validsS l = true := by
  unfold validsS; rw [List.all_eq_true]; intro x hx; obtain ⟨j, hj, rfl⟩ := List.getElem_of_mem hx; exact h j hj
theorem rest_no {l : List (Int × Int)} {n i : Nat} (hn : n ≤ i) (hi : i < l.length) (h : interF (l.take n) l[i].1 ≠ l[i].2) : restOn l n = false := by
  unfold restOn
  rw [List.all_eq_false]
  refine ⟨l[i], ?_, by simpa using h⟩
  rw [List.mem_iff_getElem]
  exact ⟨i - n, by simp; omega, by rw [List.getElem_drop]; congr 1; omega⟩
theorem rest_all {l : List (Int × Int)} {n : Nat} (h : ∀ i (hi : i < l.length), n ≤ i → interF (l.take n) l[i].1 = l[i].2) : restOn l n = true := by
  unfold restOn
  rw [List.all_eq_true]
  intro q hq
  obtain ⟨j, hj, rfl⟩ := List.getElem_of_mem hq
  rw [List.getElem_drop]
  have hj' : n + j < l.length := by rw [List.length_drop] at hj; omega
  simpa using h (n + j) hj' (by omega)
end Go.Proofs.YtcdnddjoonecdaaDoor
