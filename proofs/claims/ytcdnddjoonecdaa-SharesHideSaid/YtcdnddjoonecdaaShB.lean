/-
  One share of a list of the call's own changed, and what Join says of it (layer 7).
-/
import Derived.Test.YtcdnddjoonecdaaShLaws
import Derived.Lib.SmallJoins
set_option linter.unusedVariables false
set_option maxRecDepth 100000
namespace Go.Proofs.Ytcdnddjoonecdaa
open Go.RowKit
open Fdp
/-- a list of shares lies at the head of a block of its own -/
structure ShB (g : Nat) (l : List (Int × Int)) (w : World) : Prop where
  ex : ∃ cur : Array Value, w.heap[g]? = some (.cells cur 38 (0, 0)) ∧ ∀ j (hj : j < l.length), cur[j * 2]? = some (.int .i64 l[j].1) ∧ cur[j * 2 + 1]? = some (.int .i64 l[j].2)
theorem ShB.lt {g : Nat} {l : List (Int × Int)} {w : World} (h : ShB g l w) : g < w.heap.size := by
  obtain ⟨cur, h, -⟩ := h.ex; exact blk_ltF h
theorem ShB.bel {g : Nat} {l : List (Int × Int)} {w w' : World} (h : ShB g l w) (hb : Below w.heap.size w w') : ShB g l w' := by
  have hl := h.lt
  obtain ⟨cur, h1, h2⟩ := h.ex
  exact ⟨cur, (hb.block g hl).trans h1, h2⟩
theorem ShB.fz {g : Nat} {l : List (Int × Int)} {w : World} (h : ShB g l w) (j : Nat) : w.frozen? ⟨g, j, none⟩ = false := by
  obtain ⟨cur, h1, -⟩ := h.ex; exact Lib.frozen_of_heap h1 j
theorem ShB.cell {g : Nat} {l : List (Int × Int)} {w : World} (h : ShB g l w) {j : Nat} (hj : j < l.length) : w.cell? ⟨g, j * 2, none⟩ = some (.int .i64 l[j].1) ∧ w.cell? ⟨g, j * 2 + 1, none⟩ = some (.int .i64 l[j].2) := by
  obtain ⟨cur, h1, h2⟩ := h.ex
  rw [Lib.cell_of_heap h1, Lib.cell_of_heap h1]; exact h2 j hj
theorem ShB.pts {g n : Nat} {l : List (Int × Int)} {w : World} (h : ShB g l w) (hn : n = l.length) : PtsAt w (some ⟨g, 0, none⟩) n l :=
  ⟨hn, fun _ => ⟨g, 0, rfl, fun j hj => by rw [Nat.zero_add]; exact h.cell hj⟩⟩
theorem ShB.setY {g k : Nat} {l : List (Int × Int)} {w : World} (h : ShB g l w) (hk : k < l.length) (y : Int) : ShB g (l.set k (l[k].1, y)) (w.setCell ⟨g, k * 2 + 1, none⟩ (.int .i64 y)) := by
  obtain ⟨cur, h1, h2⟩ := h.ex
  refine ⟨cur.setIfInBounds (k * 2 + 1) (.int .i64 y), Joins.block_setCell h1 _, fun j hj => ?_⟩
  have hj' : j < l.length := by simpa using hj
  obtain ⟨c1, c2⟩ := h2 j hj'
  have hs := Array.getElem?_eq_some_iff.1 c2
  obtain ⟨hs, -⟩ := hs
  rw [Array.getElem?_setIfInBounds, Array.getElem?_setIfInBounds, if_neg (by omega)]
  by_cases e : k = j
  · subst e
    rw [if_pos rfl, if_pos hs]
    rw [List.getElem_set_self]
    exact ⟨c1, rfl⟩
  · rw [if_neg (by omega), List.getElem_set_ne e]
    exact ⟨c1, c2⟩
theorem OwnSh.own {B n : Nat} {w : World} {v : Value} {l : List (Int × Int)} (h : OwnSh B w v l) (hn : n = l.length) (h0 : 0 < n) : ∃ g cap, v = .slice (some ⟨g, 0, none⟩) n cap ∧ n ≤ cap ∧ cap ≤ maxLen ∧ B ≤ g ∧ ShB g l w := by
  subst hn
  rcases h.2 with ⟨rfl, h1⟩ | ⟨g, cap, cur, rfl, h1, h2, h3, h4, h5, h6⟩
  · omega
  · refine ⟨g, cap, rfl, h3, h4, h1, cur, h2, fun j hj => ?_⟩
    have := cellsP_get l j hj
    rw [← Lib.cell_of_heap h2, ← Lib.cell_of_heap h2, World.ownsRow.cellAt h (j * 2) (by omega), World.ownsRow.cellAt h (j * 2 + 1) (by omega)]
    exact this
theorem wrong_set {s : Int} {R : List Int} {m n k : Nat} {S : List (Int × Int)} {y : Int} (hm : m ≤ 16) (h : S.Sublist (sharesL (s :: R) m).reverse) (h1 : 1 ≤ n) (h2 : n ≤ 16) (hn : n < S.length) (hR : R.length + 1 = n) (hk : k < S.length) (hy : El y) (hne : y ≠ S[k].2) :
    joinE (S.set k (S[k].1, y)) n = (0, 24) := by
  have hX : Xs (S.set k (S[k].1, y)) = Xs S := by
    unfold Xs
    rw [List.map_set]
    have : (S[k].1, y).1 = (S.map Prod.fst)[k]'(by simpa using hk) := by simp
    rw [this, List.set_getElem_self]
  refine join_wrong (c := s :: R) (k := k) ?_ (by rw [hX]; exact sub_diff h) h1 h2 (by simpa using hn) (by simp; omega) (by simpa using hk) ?_ ?_
  · refine validsS_iff.2 fun q hq => ?_
    have hv := validsS_iff.1 (sub_valid hm h)
    rcases List.mem_or_eq_of_mem_set hq with h' | rfl
    · exact hv q h'
    · exact ⟨(hv _ (List.getElem_mem hk)).1, hy⟩
  · intro i hi hik
    have hi' : i < S.length := by simpa using hi
    rw [List.getElem_set_ne (Ne.symm hik)]
    exact sub_on hm h _ (List.getElem_mem hi')
  · rw [List.getElem_set_self]
    show y ≠ evF S[k].1 (s :: R)
    rw [← sub_on hm h _ (List.getElem_mem hk)]
    exact hne
theorem elem_moved {a b : Int} (ha : El a) (hb : El b) (h : b ≠ 0) : elemF (a + b) ≠ a := by
  unfold El at ha hb; unfold elemF; omega
end Go.Proofs.Ytcdnddjoonecdaa
