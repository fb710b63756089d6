/-
  Places that follow each other around the end, and what shares at need - 1 of them say (layer 7).
-/
import Derived.Test.YtcdnddjoonecdaaShLaws
set_option linter.unusedVariables false
set_option maxRecDepth 100000
namespace Go.Proofs.Ytcdnddjoonecdaa
open Go.RowKit
open Fdp
/-- the X of the i-th place, f being the first one -/
def plc (f m i : Nat) : Int := ((f + i) % m : Nat) + 1
theorem plc_range {f m i : Nat} (h : 0 < m) (hm : m ≤ 8) : 1 ≤ plc f m i ∧ plc f m i ≤ 8 := by
  have := Nat.mod_lt (f + i) h
  unfold plc; omega
theorem plc_inj {f m i j : Nat} (hi : i < m) (hj : j < m) (h : plc f m i = plc f m j) : i = j := by
  have e : (f + i) % m = (f + j) % m := by unfold plc at h; omega
  have go : ∀ i j, i < m → j < m → i ≤ j → (f + i) % m = (f + j) % m → i = j := fun i j hi hj hij e => by
    have h1 := Nat.sub_mod_eq_zero_of_mod_eq e.symm
    rw [show f + j - (f + i) = j - i by omega, Nat.mod_eq_of_lt (by omega)] at h1
    omega
  by_cases hij : i ≤ j
  · exact go i j hi hj hij e
  · exact (go j i hj hi (by omega) e.symm).symm
theorem differ_key {s : Int} {R1 R2 : List Int} {N f m : Nat} {b1 b2 : Bool} (e1 : allE R1 = true) (e2 : allE R2 = true) (l1 : R1.length = N) (l2 : R2.length = N) (hm : N + 1 ≤ m) (hm8 : m ≤ 8)
    (h1 : b1 = true ↔ R1.take N = R2.take N) (h2 : b2 = true ↔ ∀ i, i < N → evF (plc f m i) (s :: R1) = evF (plc f m i) (s :: R2)) : b1 = b2 := by
  rw [List.take_of_length_le (by omega), List.take_of_length_le (by omega)] at h1
  have key : R1 = R2 ↔ ∀ i, i < N → evF (plc f m i) (s :: R1) = evF (plc f m i) (s :: R2) := by
    refine ⟨fun e i _ => by rw [e], fun h => ?_⟩
    refine same_list (s := s) (xs := (List.range N).map fun i => plc f m i) (allE_iff.1 e1) (allE_iff.1 e2) (by omega) (by simp; omega) (diff_of ?_ ?_) ?_ ?_
    · unfold diffX
      rw [decide_eq_true_iff, List.pairwise_map]
      refine List.Pairwise.imp_of_mem ?_ List.nodup_range
      intro i j hi hj hne e
      rw [List.mem_range] at hi hj
      exact hne (plc_inj (by omega) (by omega) e)
    · intro x hx
      obtain ⟨i, -, rfl⟩ := List.mem_map.1 hx
      have := plc_range (f := f) (i := i) (show 0 < m by omega) hm8
      omega
    · intro x hx
      obtain ⟨i, -, rfl⟩ := List.mem_map.1 hx
      have := plc_range (f := f) (i := i) (show 0 < m by omega) hm8
      omega
    · intro x hx
      obtain ⟨i, hi, rfl⟩ := List.mem_map.1 hx
      exact h i (List.mem_range.1 hi)
  have := h1.trans (key.trans h2.symm)
  cases b1 <;> cases b2 <;> simp at this ⊢
theorem take_next {l r : List Int} {k : Nat} (h1 : k < l.length) (h2 : k < r.length) : l.take (k + 1) = r.take (k + 1) ↔ l.take k = r.take k ∧ l[k] = r[k] := by
  rw [List.take_succ_eq_append_getElem h1, List.take_succ_eq_append_getElem h2]
  constructor
  · intro e
    have hl : (l.take k).length = (r.take k).length := by simp; omega
    obtain ⟨e1, e2⟩ := List.append_inj e hl
    exact ⟨e1, by simpa using e2⟩
  · rintro ⟨e1, e2⟩; rw [e1, e2]
theorem all_next {P : Nat → Prop} {k : Nat} : (∀ i, i < k + 1 → P i) ↔ (∀ i, i < k → P i) ∧ P k :=
  ⟨fun h => ⟨fun i hi => h i (by omega), h k (by omega)⟩, fun h i hi => by
    by_cases e : i = k
    · rw [e]; exact h.2
    · exact h.1 i (by omega)⟩
end Go.Proofs.Ytcdnddjoonecdaa
