/-
  Rows of numbers of the call's own, known whole; the field's sums, products, inverses of elements, as calls (layer 7).
-/
import Derived.Test.YtcdnddjoonecdaaShEl
set_option linter.unusedVariables false
set_option maxRecDepth 100000
namespace Go.Proofs.Ytcdnddjoonecdaa
open Go.RowKit
open Fdp
/-- a row of numbers -/
def RowB (R : Nat) (D : List Int) (w : World) : Prop := w.heap[R]? = some (.cells (rowOf D) 3 (0, 0))
theorem RowB.lt {R : Nat} {D : List Int} {w : World} (h : RowB R D w) : R < w.heap.size := blk_ltF h
theorem RowB.bel {R : Nat} {D : List Int} {w w' : World} (h : RowB R D w) (hb : Below w.heap.size w w') : RowB R D w' := (hb.block R h.lt).trans h
theorem RowB.set {R : Nat} {D : List Int} {w : World} (h : RowB R D w) (j : Nat) (x : Int) : RowB R (D.set j x) (w.setCell ⟨R, j, none⟩ (.int .i64 x)) := by
  unfold RowB; rw [heap_setCell_same _ _ j _ _ _ h, rowOf_set]
theorem RowB.other {R C : Nat} {D : List Int} {w : World} (h : RowB R D w) (hne : R ≠ C) (j : Nat) (u : Value) : RowB R D (w.setCell ⟨C, j, none⟩ u) := (Below.heap_setCell _ _ _ _ hne).trans h
theorem RowB.cell {R : Nat} {D : List Int} {w : World} (h : RowB R D w) {j : Nat} (hj : j < D.length) : w.cell? ⟨R, j, none⟩ = some (.int .i64 D[j]) := by rw [Lib.cell_of_heap h, rowOf_get hj]
theorem RowB.fz {R : Nat} {D : List Int} {w : World} (h : RowB R D w) (j : Nat) : w.frozen? ⟨R, j, none⟩ = false := Lib.frozen_of_heap h j
theorem RowB.ints {R n : Nat} {D : List Int} {w : World} (h : RowB R D w) (hn : n = D.length) : IntsAt w (some ⟨R, 0, none⟩) n D := ⟨hn, fun _ => ⟨R, 0, rfl, fun j hj => by rw [Nat.zero_add]; exact h.cell hj⟩⟩
theorem RowB.one (w : World) (y : Int) : RowB w.heap.size [y] (w.alloc (Obj.cells #[Value.int .i64 y] 3)) := heap_lastF _ _
theorem row_of_own {B R n : Nat} {w : World} (h : w.ownsRow B 3 1 (.slice (some ⟨R, 0, none⟩) n n) n (madeCells #[Value.int .i64 0] n).toList) : RowB R (zerosL n) w := by
  rcases h.2 with ⟨e, _⟩ | ⟨g, cap', cur, e, _, hg, _, _, hcs, htk⟩
  · cases e
  · simp only [Value.slice.injEq, Option.some.injEq, Addr.mk.injEq, and_true, true_and] at e
    obtain ⟨e1, e2⟩ := e
    subst e1 e2
    unfold RowB
    rw [hg]
    congr 2
    apply Array.ext'
    rw [List.take_of_length_le (by simp [hcs])] at htk
    rw [htk, toList_madeCells_one]
    simp [rowOf, zerosL]
theorem fAdd_ok (a b : Int) (w : World) (ha : El a) (hb : El b) : Calls Try.prog 22 #[.int .i64 a, .int .i64 b] w fun e w' => e = .returned (.tuple #[.int .i64 (sumF a b), .int .i64 0]) ∧ Below w.heap.size w w' := by
  have h := fAdd_any a b w
  unfold addE at h; rw [okE_iff.2 ha, okE_iff.2 hb] at h; exact h
theorem fMul_ok (a b : Int) (w : World) (ha : El a) (hb : El b) : Calls Try.prog 24 #[.int .i64 a, .int .i64 b] w fun e w' => e = .returned (.tuple #[.int .i64 (mulF a b), .int .i64 0]) ∧ Below w.heap.size w w' := by
  have h := fMul_any a b w
  unfold mulE at h; rw [okE_iff.2 ha, okE_iff.2 hb] at h; exact h
theorem fInverse_ok (a : Int) (w : World) (ha : El a) (h0 : a ≠ 0) : Calls Try.prog 23 #[.int .i64 a] w fun e w' => e = .returned (.tuple #[.int .i64 (ivI a), .int .i64 0]) ∧ Below w.heap.size w w' := by
  have h := fInverse_any a w
  rw [invE_ok ha h0] at h; exact h
end Go.Proofs.Ytcdnddjoonecdaa
