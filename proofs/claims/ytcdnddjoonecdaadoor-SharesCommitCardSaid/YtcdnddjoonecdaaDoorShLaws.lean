/-
  Chosen shares of a secret: pure facts behind the statements of layer 7.
-/
import Derived.Test.YtcdnddjoonecdaaDoorShHead
import Derived.Test.YtcdnddjoonecdaaDoorShA
set_option linter.unusedVariables false
set_option maxRecDepth 100000
namespace Go.Proofs.YtcdnddjoonecdaaDoor
open Go.RowKit
open Fdp
theorem ev_zero (s : Int) (R : List Int) : ev 0 (s :: R) = s := by rw [ev_cons]; omega
theorem evF_secret {s : Int} (h : El s) (R : List Int) : evF 0 (s :: R) = s := by
  unfold evF; rw [ev_zero, Int.emod_eq_of_lt h.1 h.2]
theorem split_made {s : Int} {n m : Nat} {R : List Int} (hs : El s) (h1 : 1 ≤ n) (h2 : n ≤ m) (h3 : m ≤ 8) (hR : R.length + 1 = n) (hE : allE R = true) : splitE s n m R = (sharesL (s :: R) m, 0) := by
  unfold splitE argsS
  have : okE s = true := okE_iff.2 hs
  rw [this, hE]
  rw [if_pos (by simp; omega), Int.toNat_natCast]
theorem shares_mem_valid {c : List Int} {m : Nat} (hm : m ≤ 16) {q : Int × Int} (h : q ∈ sharesL c m) : ((1 ≤ q.1 ∧ q.1 ≤ 16) ∧ El q.2) ∧ q.2 = evF q.1 c := by
  obtain ⟨i, hi, rfl⟩ := sharesL_mem h
  exact ⟨⟨⟨by simp; omega, by simp; omega⟩, evF_range _ _⟩, rfl⟩
theorem shares_diff (c : List Int) (m : Nat) : ((sharesL c m).map Prod.fst).Pairwise fun a b => a ≠ b := by
  unfold sharesL
  rw [List.map_map, List.pairwise_map]
  refine List.nodup_range.imp fun {a b} h => ?_
  simp; omega
theorem sub_valid {c : List Int} {m : Nat} (hm : m ≤ 16) {S : List (Int × Int)} (h : S.Sublist (sharesL c m).reverse) : validsS S = true :=
  validsS_iff.2 fun q hq => (shares_mem_valid hm (List.mem_reverse.1 (h.subset hq))).1
theorem sub_on {c : List Int} {m : Nat} (hm : m ≤ 16) {S : List (Int × Int)} (h : S.Sublist (sharesL c m).reverse) : ∀ q ∈ S, q.2 = evF q.1 c :=
  fun q hq => (shares_mem_valid hm (List.mem_reverse.1 (h.subset hq))).2
theorem sub_diff {c : List Int} {m : Nat} {S : List (Int × Int)} (h : S.Sublist (sharesL c m).reverse) : diffX (Xs S) = true := by
  unfold diffX Xs
  rw [decide_eq_true_iff]
  have h1 : (((sharesL c m).reverse).map Prod.fst).Pairwise fun a b => a ≠ b := by
    rw [List.map_reverse, List.pairwise_reverse]
    exact (shares_diff c m).imp fun {a b} h => Ne.symm h
  exact h1.sublist (h.map _)
theorem sub_len {c : List Int} {m : Nat} {S : List (Int × Int)} (h : S.Sublist (sharesL c m).reverse) : S.length ≤ m := by
  have := h.length_le; rw [List.length_reverse, sharesL_len] at this; exact this
theorem recover_few {c : List Int} {m n : Nat} {S : List (Int × Int)} (hm : m ≤ 16) (h : S.Sublist (sharesL c m).reverse) (h1 : 1 ≤ n) (h2 : n ≤ 16) (hn : S.length < n) : joinE S n = (0, 25) :=
  join_few (sub_valid hm h) (sub_diff h) h1 h2 hn
theorem recover_ok {s : Int} {R : List Int} {m n : Nat} {S : List (Int × Int)} (hm : m ≤ 16) (h : S.Sublist (sharesL (s :: R) m).reverse) (h1 : 1 ≤ n) (h2 : n ≤ 16) (hn : n ≤ S.length) (hR : R.length + 1 = n) (hs : El s) : joinE S n = (s, 0) := by
  rw [join_on (sub_valid hm h) (sub_diff h) h1 h2 hn (c := s :: R) (by simp; omega) (sub_on hm h), evF_secret hs]
end Go.Proofs.YtcdnddjoonecdaaDoor
