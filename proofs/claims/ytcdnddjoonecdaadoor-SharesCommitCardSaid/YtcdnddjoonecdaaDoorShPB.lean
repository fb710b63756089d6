/-
  The program's Split of layer 7, and the points of shares.
-/
import Derived.Test.YtcdnddjoonecdaaDoorShPA
import Derived.OwnWalk
import Derived.Laws.OwnMore
import Derived.Deep.MidRow
set_option linter.unusedVariables false
set_option maxRecDepth 100000
namespace Go.Proofs.YtcdnddjoonecdaaDoor
open Go.RowKit
open Fdp
theorem cellsP_set : ∀ (D : List (Int × Int)) (k : Nat) (x y : Int), ((cellsP D).set (k * 2) (.int .i64 x)).set (k * 2 + 1) (.int .i64 y) = cellsP (D.set k (x, y))
  | [], k, x, y => by simp [cellsP]
  | q :: D, 0, x, y => by simp [cellsP]
  | q :: D, k + 1, x, y => by
    have := cellsP_set D k x y
    rw [show (k + 1) * 2 = k * 2 + 1 + 1 by omega]
    simp only [cellsP, List.flatMap_cons, List.cons_append, List.nil_append, List.set_cons_succ] at this ⊢
    rw [this]
theorem madeP (n : Nat) : (madeCells #[Value.int .i64 0, Value.int .i64 0] (n * 2)).toList = cellsP (List.replicate n (0, 0)) := by
  apply List.ext_getElem
  · rw [cellsP_len]; simp [size_madeCells]
  · intro j h1 h2
    rw [cellsP_len, List.length_replicate] at h2
    have h3 : j / 2 < (List.replicate n ((0 : Int), (0 : Int))).length := by rw [List.length_replicate]; omega
    have hg := cellsP_get _ _ h3
    have h4 : (cellsP (List.replicate n ((0 : Int), (0 : Int))))[j]? = some (.int .i64 0) := by
      rcases (by omega : j = j / 2 * 2 ∨ j = j / 2 * 2 + 1) with e | e
      · rw [e, hg.1]; simp
      · rw [e, hg.2]; simp
    have h5 : (madeCells #[Value.int .i64 0, Value.int .i64 0] (n * 2)).toList[j]'h1 = .int .i64 0 := by
      simp only [madeCells, Array.getElem_toList, Array.getElem_map, Array.getElem_range]
      rcases Nat.mod_two_eq_zero_or_one j with e | e <;> simp [e]
    rw [h5]
    have h6 := (List.getElem?_eq_some_iff.1 h4).2
    exact h6.symm
structure RowP (T : TypeId) (w0 w : World) (R : Nat) (D : List (Int × Int)) : Prop where
  row : w.heap[R]? = some (.cells (cellsP D).toArray T (0, 0))
  below : Below w0.heap.size w0 w
  base : w0.heap.size ≤ R
section
variable {T : TypeId} {w0 w w' : World} {R : Nat} {D : List (Int × Int)}
theorem RowP.lt (h : RowP T w0 w R D) : R < w.heap.size := by
  rcases Nat.lt_or_ge R w.heap.size with h' | h'
  · exact h'
  · have := h.row; simp [Array.getElem?_eq_none h'] at this
theorem RowP.bel (h : RowP T w0 w R D) (hb : Below w.heap.size w w') : RowP T w0 w' R D := ⟨(hb.block _ h.lt).trans h.row, h.below.trans (hb.mono h.below.size), h.base⟩
theorem RowP.alloc (h : RowP T w0 w R D) (o : Obj) : RowP T w0 (w.alloc o) R D := h.bel ((Below.refl _ _).alloc (Nat.le_refl _) _)
theorem RowP.store (h : RowP T w0 w R D) (k : Nat) (x y : Int) : RowP T w0 ((w.setCell ⟨R, k * 2, none⟩ (.int .i64 x)).setCell ⟨R, k * 2 + 1, none⟩ (.int .i64 y)) R (D.set k (x, y)) := by
  refine ⟨?_, (h.below.setCell h.base _).setCell h.base _, h.base⟩
  rw [heap_setCell_same _ _ (k * 2 + 1) _ _ _ (heap_setCell_same _ _ (k * 2) _ _ _ h.row)]
  simp only [List.setIfInBounds_toArray]
  rw [cellsP_set]
theorem RowP.cell (h : RowP T w0 w R D) {k : Nat} (hk : k < D.length) : w.cell? ⟨R, k * 2, none⟩ = some (.int .i64 D[k].1) ∧ w.cell? ⟨R, k * 2 + 1, none⟩ = some (.int .i64 D[k].2) := by
  have hg := cellsP_get D k hk
  rw [Lib.cell_of_heap h.row, Lib.cell_of_heap h.row]
  simp only [List.getElem?_toArray]
  exact hg
theorem RowP.frozen (h : RowP T w0 w R D) (j : Nat) : w.frozen? ⟨R, j, none⟩ = false := Lib.frozen_of_heap h.row j
theorem RowP.pts (h : RowP T w0 w R D) {n : Nat} (hn : n = D.length) : PtsAt w (some ⟨R, 0, none⟩) n D :=
  ⟨hn, fun _ => ⟨R, 0, rfl, fun j hj => by rw [Nat.zero_add]; exact h.cell hj⟩⟩
end
/-- the first k of a list, and zeros -/
def fillP (l : List (Int × Int)) (n k : Nat) : List (Int × Int) := l.take k ++ List.replicate (n - k) (0, 0)
theorem fillP_zero (l : List (Int × Int)) (n : Nat) : fillP l n 0 = List.replicate n (0, 0) := by simp [fillP]
theorem fillP_len {l : List (Int × Int)} {n k : Nat} (h : n = l.length) (hk : k ≤ n) : (fillP l n k).length = n := by simp [fillP]; omega
theorem fillP_next {l : List (Int × Int)} {n k : Nat} (h : n = l.length) (hk : k < n) {x y : Int} (hy : l[k]'(by omega) = (x, y)) : (fillP l n k).set k (x, y) = fillP l n (k + 1) := by
  unfold fillP
  obtain ⟨r, hr⟩ : ∃ r, n - k = r + 1 := ⟨n - k - 1, by omega⟩
  rw [show n - (k + 1) = r by omega, hr, List.replicate_succ, List.take_succ_eq_append_getElem (by omega), List.set_append, if_neg (by simp; omega), hy]
  have e : k - min k l.length = 0 := by omega
  simp [e]
theorem fillP_all {l : List (Int × Int)} {n : Nat} (h : n = l.length) : fillP l n n = l := by
  unfold fillP; rw [Nat.sub_self, List.replicate_zero, List.append_nil, List.take_of_length_le (by omega)]
/-- a row that has just been made -/
theorem made_row {T : TypeId} {w w1 : World} {n : Nat} (l : List (Int × Int)) (hown : w1.ownsRow w.heap.size T 2 (.slice (some ⟨w.heap.size, 0, none⟩) n n) n (madeCells #[Value.int .i64 0, Value.int .i64 0] (n * 2)).toList) (hb : Below w.heap.size w w1) : RowP T w w1 w.heap.size (fillP l n 0) := by
  refine ⟨?_, hb, Nat.le_refl _⟩
  rcases hown.2 with ⟨e, _⟩ | ⟨g, cap', cur, e, _, hg, _, _, hcs, htk⟩
  · cases e
  · simp only [Value.slice.injEq, Option.some.injEq, Addr.mk.injEq, and_true, true_and] at e
    obtain ⟨e1, e2⟩ := e
    subst e1 e2
    rw [hg]
    congr 2
    apply Array.ext'
    rw [List.take_of_length_le (by simp [hcs])] at htk
    rw [htk, madeP, fillP_zero]
set_option maxHeartbeats 1000000 in
theorem pointsOf_any (a : Option Addr) (n cap : Nat) (l : List (Int × Int)) (w : World) (h : PtsAt w a n l) (hn : n ≤ 1000000) :
    Calls Tryd.prog 38 #[.slice a n cap] w fun e w' => ∃ R, e = .returned (.slice (some ⟨R, 0, none⟩) n n) ∧ PtsAt w' (some ⟨R, 0, none⟩) n l ∧ Below w.heap.size w w' := by
  obtain ⟨j0, hj0, jz0, jz1, jz2⟩ := info_parts infoP
  have HH := Lib.hid h
  have HL := Lib.hid h.len
  clear h
  go_enter Tryd.func38, Tryd.ntmps38
  go_wp2_with (at_make; refine wpList_make_full _ rfl _ _ 64 rfl w.heap.size 66 j0 (.agg #[.int .i64 0, .int .i64 0]) 2 Tryd.underlying64 hj0 jz0 jz1 _ _ _ _ n rfl rfl (by omega) (by omega) (by rw [jz2]; omega) (by unfold maxLen; omega) (by simp) ?_)
  intro w1 hown hgrow
  have D1 : Hid (Below w.heap.size w w1) := Lib.hid ((Below.refl _ _).grown hgrow (Nat.le_refl _) (fun k h => by cases h))
  have hR : Hid (RowP 66 w w1 w.heap.size (fillP l n 0)) := Lib.hid (made_row l hown D1.out)
  clear hown hgrow D1 hj0 jz0 jz1 jz2
  go_wp2_with fail
  go_loopw [11] (fun ii wr => ∃ k : Nat, k ≤ n ∧ ii = .int .i64 (k : Int) ∧ Hid (RowP 66 w wr w.heap.size (fillP l n k))) (fun ii _ => n - (intOf ii).toNat)
  case atStart => exact ⟨0, by omega, rfl, hR⟩
  case round =>
    clear hR
    obtain ⟨k, hk, rfl, hR⟩ := hrel
    by_cases hlt : k < n
    · obtain ⟨b, off, rfl, -⟩ := HH.out.cells (by omega)
      have hkl : k < l.length := by have := HL.out; omega
      obtain ⟨hcx, hcy⟩ := (HH.out.bel hR.out.below).cell hkl
      obtain ⟨x, hx⟩ : ∃ x, x = l[k].1 := ⟨_, rfl⟩
      obtain ⟨y, hy⟩ : ∃ y, y = l[k].2 := ⟨_, rfl⟩
      rw [← hx] at hcx
      rw [← hy] at hcy
      have hA2 := Lib.hid (hR.out.alloc (Obj.cells #[Value.int .i64 x, Value.int .i64 y] 24))
      have hzl : k < (fillP l n k).length := by rw [fillP_len HL.out hk]; exact hlt
      obtain ⟨hca, hcb⟩ := hA2.out.cell hzl
      have hfa := hA2.out.frozen (k * 2)
      have hfb := hA2.out.frozen (k * 2 + 1)
      generalize (fillP l n k)[k].1 = z0 at hca
      generalize (fillP l n k)[k].2 = z1 at hcb
      have hR2 : Hid (RowP 66 w (((wr.alloc (Obj.cells #[Value.int .i64 x, Value.int .i64 y] 24)).setCell ⟨w.heap.size, k * 2, none⟩ (.int .i64 x)).setCell ⟨w.heap.size, k * 2 + 1, none⟩ (.int .i64 y)) w.heap.size (fillP l n (k + 1))) := Lib.hid (by
        rw [← fillP_next HL.out hlt (Prod.ext hx.symm hy.symm)]; exact hA2.out.store k x y)
      have b1 : (0 : Int) ≤ (k : Int) := by omega
      have b2 : (k : Int) < (n : Int) := by omega
      clear hx hy hzl hR hA2
      go_wp2_with fail
      go_roundw
      case rel => exact ⟨k + 1, by omega, by go_num, hR2⟩
      case measure => simp [intOf]; omega
    · obtain rfl : k = n := by omega
      have hR2 : Hid (RowP 66 w wr w.heap.size l) := Lib.hid (by have := hR.out; rwa [fillP_all HL.out] at this)
      go_wp2_with fail
      go_ret
      exact ⟨_, rfl, hR2.out.pts HL.out, hR2.out.below⟩
end Go.Proofs.YtcdnddjoonecdaaDoor
