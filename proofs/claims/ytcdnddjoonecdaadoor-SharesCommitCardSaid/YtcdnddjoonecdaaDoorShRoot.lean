/-
  The root of a list of shares, of the document's own answers (layer 7).
-/
import Derived.Test.YtcdnddjoonecdaaDoorShLeaves
set_option linter.unusedVariables false
set_option maxRecDepth 100000
namespace Go.Proofs.YtcdnddjoonecdaaDoor
open Go.RowKit
open Fdp
def rootSh (l : List (Int × Int)) : ByteArray × Int := if decide (1 ≤ l.length ∧ l.length ≤ 16) && validsS l then (rootB (leavesS l), 0) else (⟨#[]⟩, 1)
def GivesSN (r : ByteArray × Int) (w : World) (e : Ending) (w' : World) : Prop := e = .returned (.tuple #[.string r.1, .int .i64 r.2]) ∧ Below w.heap.size w w'
theorem leafS_is (a : ByteArray) : isB (leafB a) = true := isB_sum _
theorem digs_leaves (l : List (Int × Int)) : digsB (leavesS l) = true := by
  have : ∀ s ∈ leavesS l, isB s = true := fun s hs => by
    unfold leavesS at hs
    obtain ⟨q, _, rfl⟩ := List.mem_map.1 hs
    exact leafS_is _
  unfold digsB
  exact List.all_eq_true.2 this
theorem rvalids_next {l : List (Int × Int)} {k : Nat} (h : k < l.length) (h1 : validsS (l.take k) = true) (h2 : validS l[k] = true) : validsS (l.take (k + 1)) = true := by
  unfold validsS at h1 ⊢
  rw [List.take_succ_eq_append_getElem h, List.all_append, h1]; simp [h2]
theorem rvalids_no {l : List (Int × Int)} {k : Nat} (h : k < l.length) (h2 : validS l[k] = false) : validsS l = false := by
  cases e : validsS l with
  | false => rfl
  | true =>
    unfold validsS at e
    rw [List.all_eq_true.1 e _ (List.getElem_mem h)] at h2; cases h2
end Go.Proofs.YtcdnddjoonecdaaDoor
