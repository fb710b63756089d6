/-
  The document's own answers: Add, Mul, Inverse, Eval (layer 6).
-/
import Derived.Test.YtcdnddjoonecdaaFdRef
set_option linter.unusedVariables false
set_option maxRecDepth 100000
namespace Go.Proofs.Ytcdnddjoonecdaa
open Go.RowKit
open Fdp
theorem ev_snoc (x c : Int) : ∀ l : List Int, ev x (l ++ [c]) = ev x l + c * x ^ l.length
  | [] => by simp [ev]
  | d :: t => by
    rw [List.cons_append, ev_cons, ev_snoc x c t, ev_cons, List.length_cons, Int.pow_succ]
    grind
/-- the sum of the first so many values -/
def Sums (l : List Int) (x : Int) (k : Nat) (v : Int) : Prop := E 2147483647 v (ev x (l.take k))
theorem Sums.start (l : List Int) (x : Int) : Sums l x 0 0 := by unfold Sums; rw [List.take_zero, ev_nil]; exact E.refl 0
theorem Sums.step {l : List Int} {x v : Int} {k : Nat} (hx : 0 ≤ x) (h : Sums l x k v) (hk : k < l.length) : Sums l x (k + 1) (sumF v (mulF l[k] (powF x k))) := by
  unfold Sums at h ⊢
  rw [List.take_succ_eq_append_getElem hk, ev_snoc, List.length_take, Nat.min_eq_left (by omega)]
  exact (sumF_E _ _).trans (h.add ((mulF_E _ _).trans ((E.refl _).mul (powF_E hx k))))
theorem Sums.done {l : List Int} {x v : Int} (h : Sums l x l.length v) (hv : 0 ≤ v ∧ v < 2147483647) : v = evF x l := by
  unfold Sums at h
  rw [List.take_length] at h
  exact (h.trans (evF_E x l).symm).eq hv.1 hv.2 (evF_range x l).1 (evF_range x l).2
end Go.Proofs.Ytcdnddjoonecdaa
