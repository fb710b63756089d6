/-
  Shares of a secret: the answers as functions, and the laws of chapter 7 over them: pure facts.
-/
import Derived.Test.YtcdnddjoonecdaaFdLaw
set_option linter.unusedVariables false
set_option maxRecDepth 100000
namespace Go.Proofs.Ytcdnddjoonecdaa
open Go.RowKit
open Fdp
/-- a share is valid -/
def validS (q : Int × Int) : Bool := decide (1 ≤ q.1 ∧ q.1 ≤ 16) && okE q.2
theorem validS_iff {q : Int × Int} : validS q = true ↔ (1 ≤ q.1 ∧ q.1 ≤ 16) ∧ El q.2 := by simp [validS, okE_iff]
def validsS (l : List (Int × Int)) : Bool := l.all validS
theorem validsS_iff {l : List (Int × Int)} : validsS l = true ↔ ∀ q ∈ l, (1 ≤ q.1 ∧ q.1 ≤ 16) ∧ El q.2 := by
  simp only [validsS, List.all_eq_true, validS_iff]
theorem valids_pairs {l : List (Int × Int)} (h : validsS l = true) : pairsE l = true := pairsE_iff.2 fun q hq => by
  have := validsS_iff.1 h q hq
  exact ⟨⟨by omega, by omega⟩, this.2⟩
/-- the shares with the X from k + 1 on, n of them -/
def sharesL (c : List Int) (n : Nat) : List (Int × Int) := (List.range n).map fun i : Nat => ((i : Int) + 1, evF ((i : Int) + 1) c)
theorem sharesL_len (c : List Int) (n : Nat) : (sharesL c n).length = n := by simp [sharesL]
theorem sharesL_get (c : List Int) {n i : Nat} (h : i < n) : (sharesL c n)[i]'(by rw [sharesL_len]; exact h) = ((i : Int) + 1, evF ((i : Int) + 1) c) := by simp [sharesL]
theorem sharesL_mem {c : List Int} {n : Nat} {q : Int × Int} (h : q ∈ sharesL c n) : ∃ i : Nat, i < n ∧ q = ((i : Int) + 1, evF ((i : Int) + 1) c) := by
  unfold sharesL at h
  rw [List.mem_map] at h
  obtain ⟨i, hi, rfl⟩ := h
  exact ⟨i, by simpa using hi, rfl⟩
def argsS (secret need total : Int) (r : List Int) : Bool := okE secret && decide (1 ≤ total ∧ total ≤ 16) && decide (1 ≤ need ∧ need ≤ total) && decide ((r.length : Int) = need - 1) && allE r
/-- Split's answer -/
def splitE (secret need total : Int) (r : List Int) : List (Int × Int) × Int := if argsS secret need total r then (sharesL (secret :: r) total.toNat, 0) else ([], 1)
/-- are the later shares on the polynomial through the first ones? -/
def restOn (l : List (Int × Int)) (n : Nat) : Bool := (l.drop n).all fun q => interF (l.take n) q.1 == q.2
/-- Join's answer -/
def joinE (l : List (Int × Int)) (need : Int) : Int × Int :=
  if decide (1 ≤ need ∧ need ≤ 16) && validsS l then
    (if diffX (Xs l) then (if (l.length : Int) < need then (0, 25) else (if restOn l need.toNat then (interF (l.take need.toNat) 0, 0) else (0, 24))) else (0, 8))
  else (0, 1)
theorem diff_take {l : List (Int × Int)} (h : diffX (Xs l) = true) (n : Nat) : diffX (Xs (l.take n)) = true := by
  unfold diffX Xs at h ⊢
  rw [decide_eq_true_iff] at h ⊢
  rw [List.map_take]
  exact h.sublist (List.take_sublist n _)
theorem pairs_take {l : List (Int × Int)} (h : pairsE l = true) (n : Nat) : pairsE (l.take n) = true := pairsE_iff.2 fun q hq => pairsE_iff.1 h q (List.mem_of_mem_take hq)
/-- all shares on a polynomial with at most n coefficients: joined to its value at 0 -/
theorem join_on {l : List (Int × Int)} {c : List Int} {n : Nat} (hv : validsS l = true) (hd : diffX (Xs l) = true) (h1 : 1 ≤ n) (h2 : n ≤ 16) (hn : n ≤ l.length) (hc : c.length ≤ n) (h : ∀ q ∈ l, q.2 = evF q.1 c) : joinE l n = (evF 0 c, 0) := by
  have hp := pairs_take (valids_pairs hv) n
  have hdt := diff_take hd n
  have hI : ∀ x, interF (l.take n) x = evF x c := inter_of hp hdt c (by rw [List.length_take]; omega) fun q hq => by
    rw [h q (List.mem_of_mem_take hq)]; exact (evF_E _ _).symm
  unfold joinE
  rw [if_pos (by rw [hv]; simp; omega), if_pos hd, if_neg (by omega), Int.toNat_natCast, if_pos, hI]
  unfold restOn
  rw [List.all_eq_true]
  intro q hq
  rw [hI, h q (List.mem_of_mem_drop hq)]; simp
theorem join_few {l : List (Int × Int)} {n : Nat} (hv : validsS l = true) (hd : diffX (Xs l) = true) (h1 : 1 ≤ n) (h2 : n ≤ 16) (hn : l.length < n) : joinE l n = (0, 25) := by
  unfold joinE
  rw [if_pos (by rw [hv]; simp; omega), if_pos hd, if_pos (by omega)]
/-- one share off the polynomial of all others, more than n of them: refused -/
theorem join_wrong {l : List (Int × Int)} {c : List Int} {n k : Nat} (hv : validsS l = true) (hd : diffX (Xs l) = true) (h1 : 1 ≤ n) (h2 : n ≤ 16) (hn : n < l.length) (hc : c.length ≤ n) (hk : k < l.length)
    (h : ∀ i (hi : i < l.length), i ≠ k → l[i].2 = evF l[i].1 c) (hw : l[k].2 ≠ evF l[k].1 c) : joinE l n = (0, 24) := by
  have hp := valids_pairs hv
  have hdt := diff_take hd n
  have hpt := pairs_take hp n
  unfold joinE
  rw [if_pos (by rw [hv]; simp; omega), if_pos hd, if_neg (by omega), Int.toNat_natCast, if_neg]
  intro hr
  unfold restOn at hr
  rw [List.all_eq_true] at hr
  have hgt : ∀ i (hi : i < l.length), n ≤ i → interF (l.take n) l[i].1 = l[i].2 := fun i hi hni => by
    have hm : l[i] ∈ l.drop n := by
      rw [List.mem_iff_getElem]
      exact ⟨i - n, by simp; omega, by rw [List.getElem_drop]; congr 1; omega⟩
    simpa using hr _ hm
  have hlt : ∀ i (hi : i < l.length), i < n → interF (l.take n) l[i].1 = l[i].2 := fun i hi hni => by
    have hm : l[i] ∈ l.take n := by
      rw [List.mem_iff_getElem]
      exact ⟨i, by simp; omega, by simp⟩
    exact inter_through hpt hdt hm
  have hall : ∀ i (hi : i < l.length), interF (l.take n) l[i].1 = l[i].2 := fun i hi => by
    by_cases h' : i < n
    · exact hlt i hi h'
    · exact hgt i hi (by omega)
  -- the polynomial through the first ones, and c, agree at all but one of them
  have hf := inter_fits hpt hdt
  have hD := diff_of hd (Xs_range hp)
  have hsame : ∀ x, E 2147483647 (interF (l.take n) x) (ev x c) := by
    have hE : Diff 2147483647 ((Xs l).eraseIdx k) := List.Pairwise.sublist (List.eraseIdx_sublist (Xs l) k) hD
    have hfp := hf.poly
    rw [List.length_take, Nat.min_eq_left (by omega)] at hfp
    refine hfp.same prI (g := fun x => ev x c) ⟨c, hc, fun x => E.refl _⟩ ((Xs l).eraseIdx k) ?_ hE ?_
    · rw [List.length_eraseIdx_of_lt (by simpa using hk)]; simp; omega
    · intro x hx
      obtain ⟨i, hi, hik, rfl⟩ := List.mem_eraseIdx_iff_getElem.1 hx
      have hi' : i < l.length := by simpa using hi
      simp only [List.getElem_map]
      rw [hall i hi', h i hi' hik]
      exact evF_E _ _
  exact hw ((hall k hk).symm.trans (E.el ((hsame _).trans (evF_E _ _).symm) (interF_range _ _) (evF_range _ _)))
end Go.Proofs.Ytcdnddjoonecdaa
