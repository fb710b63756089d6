/-
  The sums of the shares of two secrets (layer 7).
-/
import Derived.Test.YtcdnddjoonecdaaShLaws
set_option linter.unusedVariables false
set_option maxRecDepth 100000
namespace Go.Proofs.Ytcdnddjoonecdaa
open Go.RowKit
open Fdp
theorem sumsS_len {a b : List Int} (h : a.length = b.length) : (sums a b).length = a.length := by simp [sums]; omega
theorem list_valid {c : List Int} {m : Nat} (hm : m ≤ 16) : validsS (sharesL c m) = true :=
  validsS_iff.2 fun q hq => (shares_mem_valid hm hq).1
theorem list_diff (c : List Int) (m : Nat) : diffX (Xs (sharesL c m)) = true := by
  unfold diffX Xs; rw [decide_eq_true_iff]; exact shares_diff c m
theorem add_ok {s t : Int} {R1 R2 : List Int} {n m : Nat} (h1 : 1 ≤ n) (h2 : n ≤ m) (h3 : m ≤ 8) (l1 : R1.length + 1 = n) (l2 : R2.length + 1 = n) (hs : El s) (ht : El t) : joinE (sharesL (sums (s :: R1) (t :: R2)) m) n = (elemF (s + t), 0) := by
  have hl : (s :: R1).length = (t :: R2).length := by simp; omega
  rw [join_on (c := sums (s :: R1) (t :: R2)) (list_valid (by omega)) (list_diff _ _) h1 (by omega) (by rw [sharesL_len]; exact h2) (by rw [sumsS_len hl]; simp; omega) (fun q hq => (shares_mem_valid (by omega) hq).2), evF_sums _ _ _ hl, evF_secret hs, evF_secret ht]
  rfl
theorem sums_next {s t : Int} {R1 R2 : List Int} (hl : R1.length = R2.length) (k : Nat) : sharesL (sums (s :: R1) (t :: R2)) (k + 1) = sharesL (sums (s :: R1) (t :: R2)) k ++ [((k : Int) + 1, elemF (evF ((k : Int) + 1) (s :: R1) + evF ((k : Int) + 1) (t :: R2)))] := by
  rw [sharesL_next, evF_sums _ _ _ (by simp; omega)]; rfl
end Go.Proofs.Ytcdnddjoonecdaa
