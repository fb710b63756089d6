/-
  The program's sky (layer 10): a list of the call's own is sorted.
-/
import Derived.Test.YtaebejhncjadhaaSkPC
import Derived.Test.YtaebejhncjadhaaSkPN
import Derived.Test.YtaebejhncjadhaaShelf
set_option linter.unusedVariables false
set_option maxRecDepth 100000
namespace Go.Proofs.Ytaebejhncjadhaa.Sk
open Go.RowKit
theorem holds_ints {w : World} {g : Nat} {l : List Int} {cur : Array Value} {T : TypeId} (hc : w.heap[g]? = some (.cells cur T (0, 0))) (hl : cur.toList.take l.length = cellsI l) : Go.Sort.Holds (Value.int .i64) w g 0 l.toArray := by
  intro j hj
  have hj' : j < l.length := by simpa using hj
  refine ⟨?_, ?_⟩
  · rw [Nat.zero_add, Lib.cell_of_heap hc]
    have h1 : (cur.toList.take l.length)[j]? = (cellsI l)[j]? := by rw [hl]
    rw [List.getElem?_take_of_lt hj'] at h1
    rw [← Array.getElem?_toList, h1]
    simp [cellsI, hj']
  · exact Lib.frozen_of_heap hc _
def upI (l : List Int) : List Int := l.mergeSort fun x y => decide (x ≤ y)
theorem upI_len (l : List Int) : (upI l).length = l.length := List.length_mergeSort _
theorem psort_own (B : Nat) (w : World) (v : Value) (l : List Int) (h : OwnI B w v l) (hl : l.length ≤ 1000000) :
    Calls Try.prog 34 #[v] w fun e w' => e = .returned (.tuple #[]) ∧ ListAt w' v (upI l) ∧ Below B w w' := by
  have hown : w.ownsRow B 3 1 v l.length (cellsI l) := h
  rcases hown.2 with ⟨rfl, h0⟩ | ⟨g, cap, cur, rfl, h1, h2, h3, h4, h5, h6⟩
  · obtain rfl : l = [] := List.eq_nil_of_length_eq_zero h0
    refine (Try.slices_Sort_int_none none 0 w).mono ?_
    rintro e w' ⟨rfl, rfl⟩
    exact ⟨rfl, by simpa [upI] using list_nil _, Below.refl _ _⟩
  · have hH : Go.Sort.Holds (Value.int .i64) w g 0 l.toArray := holds_ints h2 (by simpa using h6)
    have hg : g < w.heap.size := blk_ltS h2
    refine (Try.slices_Sort_int g 0 cap l w hH hg (by omega)).mono ?_
    rintro e w' ⟨rfl, n, os, rfl⟩
    have hs : (upI l).toArray.size = l.toArray.size := by simp [upI_len]
    have hP := Go.Sort.holds_putRow (Value.int .i64) (Go.Sort.ahead w n) g 0 l.toArray (upI l).toArray (Go.Sort.holds_ahead _ _ _ _ _ _ hH) hs
    have hG := Go.Sort.holds_grow (Value.int .i64) (Go.Sort.putRow (Value.int .i64) (Go.Sort.ahead w n) g 0 (upI l).toArray) os g 0 (upI l).toArray (by simpa using hg) hP
    refine ⟨rfl, ⟨⟨_, cap, by rw [upI_len], by rw [upI_len]; exact h3, ⟨rfl, fun _ => ⟨g, 0, rfl, fun j hj => ?_⟩⟩⟩⟩, ?_⟩
    · have := (hG j (by simpa using hj)).1
      rw [show (upI l).toArray[j]! = (upI l)[j] by simp [hj]] at this
      exact this
    · refine ⟨rfl, rfl, rfl, ?_, fun k hk => ?_⟩
      · simp
      · have hkg : ¬ g = k := by omega
        rw [Go.Sort.heap_grow_old _ _ (by simp; omega)]
        show ((Go.Sort.ahead w n).heap.modify g _)[k]? = w.heap[k]?
        rw [Array.getElem?_modify, if_neg hkg]; rfl
end Go.Proofs.Ytaebejhncjadhaa.Sk
