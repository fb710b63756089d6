/-
  The walk of RationalForm.
-/
import Derived.Test.YthpghjklnkdmfaaDoorRmQ
import Derived.Deep.DeepCutAuto
set_option linter.unusedVariables false
set_option maxRecDepth 100000
namespace Go.Proofs.YthpghjklnkdmfaaDoor
open Go.RowKit
open Rt
/-- the five results in memory -/
structure ArrAt (L : Nat) (p0 p1 p2 p3 p4 : Raw) (w : World) : Prop where
  cells : w.heap[L]? = some (.cells #[Value.bool p0.neg, Value.string p0.num, Value.string p0.den, Value.bool p1.neg, Value.string p1.num, Value.string p1.den, Value.bool p2.neg, Value.string p2.num, Value.string p2.den, Value.bool p3.neg, Value.string p3.num, Value.string p3.den, Value.bool p4.neg, Value.string p4.num, Value.string p4.den] 28 (0, 0))
/-- the five errors in memory -/
structure ErrAt (E : Nat) (e0 e1 e2 e3 e4 : Int) (w : World) : Prop where
  cells : w.heap[E]? = some (.cells #[Value.int .i64 e0, Value.int .i64 e1, Value.int .i64 e2, Value.int .i64 e3, Value.int .i64 e4] 30 (0, 0))
theorem ArrAt.bel {L : Nat} {p0 p1 p2 p3 p4 : Raw} {w w' : World} (h : ArrAt L p0 p1 p2 p3 p4 w) (hb : Below w.heap.size w w') : ArrAt L p0 p1 p2 p3 p4 w' := ⟨(hb.block _ (blk_lt h.cells)).trans h.cells⟩
theorem ErrAt.bel {E : Nat} {e0 e1 e2 e3 e4 : Int} {w w' : World} (h : ErrAt E e0 e1 e2 e3 e4 w) (hb : Below w.heap.size w w') : ErrAt E e0 e1 e2 e3 e4 w' := ⟨(hb.block _ (blk_lt h.cells)).trans h.cells⟩
theorem ArrAt.bes {L B : Nat} {p0 p1 p2 p3 p4 : Raw} {w w' : World} (h : ArrAt L p0 p1 p2 p3 p4 w) (hb : Bes B w w') (hne : L ≠ B) : ArrAt L p0 p1 p2 p3 p4 w' := ⟨(hb.block _ (blk_lt h.cells) hne).trans h.cells⟩
theorem ErrAt.bes {E B : Nat} {e0 e1 e2 e3 e4 : Int} {w w' : World} (h : ErrAt E e0 e1 e2 e3 e4 w) (hb : Bes B w w') (hne : E ≠ B) : ErrAt E e0 e1 e2 e3 e4 w' := ⟨(hb.block _ (blk_lt h.cells) hne).trans h.cells⟩
theorem arr_set0 {L E : Nat} {p0 p1 p2 p3 p4 : Raw} {e0 e1 e2 e3 e4 : Int} {w : World} (ha : ArrAt L p0 p1 p2 p3 p4 w) (he : ErrAt E e0 e1 e2 e3 e4 w) (hne : L ≠ E) (q : Raw) (f : Int) :
    ArrAt L q p1 p2 p3 p4 (((((w).setCell ⟨L, 0, none⟩ (.bool q.neg)).setCell ⟨L, 1, none⟩ (.string q.num)).setCell ⟨L, 2, none⟩ (.string q.den)).setCell ⟨E, 0, none⟩ (.int .i64 f)) ∧ ErrAt E f e1 e2 e3 e4 (((((w).setCell ⟨L, 0, none⟩ (.bool q.neg)).setCell ⟨L, 1, none⟩ (.string q.num)).setCell ⟨L, 2, none⟩ (.string q.den)).setCell ⟨E, 0, none⟩ (.int .i64 f)) ∧ (∀ B r, B ≠ L → B ≠ E → RatAt B r w → RatAt B r (((((w).setCell ⟨L, 0, none⟩ (.bool q.neg)).setCell ⟨L, 1, none⟩ (.string q.num)).setCell ⟨L, 2, none⟩ (.string q.den)).setCell ⟨E, 0, none⟩ (.int .i64 f))) ∧ (∀ m, m ≤ L → m ≤ E → Below m w (((((w).setCell ⟨L, 0, none⟩ (.bool q.neg)).setCell ⟨L, 1, none⟩ (.string q.num)).setCell ⟨L, 2, none⟩ (.string q.den)).setCell ⟨E, 0, none⟩ (.int .i64 f))) := by
  have h1 := heap_setCell_same w L 0 _ _ (.bool q.neg) ha.cells
  have h2 := heap_setCell_same _ L 1 _ _ (.string q.num) h1
  have h3 := heap_setCell_same _ L 2 _ _ (.string q.den) h2
  have b1 := Bes.set w L 0 (.bool q.neg)
  have b2 := Bes.set (w.setCell ⟨L, 0, none⟩ (.bool q.neg)) L 1 (.string q.num)
  have b3 := Bes.set ((w.setCell ⟨L, 0, none⟩ (.bool q.neg)).setCell ⟨L, 1, none⟩ (.string q.num)) L 2 (.string q.den)
  have b4 := Bes.set (((w.setCell ⟨L, 0, none⟩ (.bool q.neg)).setCell ⟨L, 1, none⟩ (.string q.num)).setCell ⟨L, 2, none⟩ (.string q.den)) E 0 (.int .i64 f)
  have he3 := ((he.bes b1 hne.symm).bes b2 hne.symm).bes b3 hne.symm
  refine ⟨ArrAt.bes (p0 := q) ⟨h3⟩ b4 hne, ⟨heap_setCell_same _ E 0 _ _ (.int .i64 f) he3.cells⟩, fun B r n1 n2 hr => (((hr.bes b1 n1).bes b2 n1).bes b3 n1).bes b4 n2, fun m m1 m2 => ?_⟩
  exact ((((Below.refl m w).setCell (p := ⟨L, 0, none⟩) m1 _).setCell (p := ⟨L, 1, none⟩) m1 _).setCell (p := ⟨L, 2, none⟩) m1 _).setCell (p := ⟨E, 0, none⟩) m2 _
theorem arr_set1 {L E : Nat} {p0 p1 p2 p3 p4 : Raw} {e0 e1 e2 e3 e4 : Int} {w : World} (ha : ArrAt L p0 p1 p2 p3 p4 w) (he : ErrAt E e0 e1 e2 e3 e4 w) (hne : L ≠ E) (q : Raw) (f : Int) :
    ArrAt L p0 q p2 p3 p4 (((((w).setCell ⟨L, 3, none⟩ (.bool q.neg)).setCell ⟨L, 4, none⟩ (.string q.num)).setCell ⟨L, 5, none⟩ (.string q.den)).setCell ⟨E, 1, none⟩ (.int .i64 f)) ∧ ErrAt E e0 f e2 e3 e4 (((((w).setCell ⟨L, 3, none⟩ (.bool q.neg)).setCell ⟨L, 4, none⟩ (.string q.num)).setCell ⟨L, 5, none⟩ (.string q.den)).setCell ⟨E, 1, none⟩ (.int .i64 f)) ∧ (∀ B r, B ≠ L → B ≠ E → RatAt B r w → RatAt B r (((((w).setCell ⟨L, 3, none⟩ (.bool q.neg)).setCell ⟨L, 4, none⟩ (.string q.num)).setCell ⟨L, 5, none⟩ (.string q.den)).setCell ⟨E, 1, none⟩ (.int .i64 f))) ∧ (∀ m, m ≤ L → m ≤ E → Below m w (((((w).setCell ⟨L, 3, none⟩ (.bool q.neg)).setCell ⟨L, 4, none⟩ (.string q.num)).setCell ⟨L, 5, none⟩ (.string q.den)).setCell ⟨E, 1, none⟩ (.int .i64 f))) := by
  have h1 := heap_setCell_same w L 3 _ _ (.bool q.neg) ha.cells
  have h2 := heap_setCell_same _ L 4 _ _ (.string q.num) h1
  have h3 := heap_setCell_same _ L 5 _ _ (.string q.den) h2
  have b1 := Bes.set w L 3 (.bool q.neg)
  have b2 := Bes.set (w.setCell ⟨L, 3, none⟩ (.bool q.neg)) L 4 (.string q.num)
  have b3 := Bes.set ((w.setCell ⟨L, 3, none⟩ (.bool q.neg)).setCell ⟨L, 4, none⟩ (.string q.num)) L 5 (.string q.den)
  have b4 := Bes.set (((w.setCell ⟨L, 3, none⟩ (.bool q.neg)).setCell ⟨L, 4, none⟩ (.string q.num)).setCell ⟨L, 5, none⟩ (.string q.den)) E 1 (.int .i64 f)
  have he3 := ((he.bes b1 hne.symm).bes b2 hne.symm).bes b3 hne.symm
  refine ⟨ArrAt.bes (p1 := q) ⟨h3⟩ b4 hne, ⟨heap_setCell_same _ E 1 _ _ (.int .i64 f) he3.cells⟩, fun B r n1 n2 hr => (((hr.bes b1 n1).bes b2 n1).bes b3 n1).bes b4 n2, fun m m1 m2 => ?_⟩
  exact ((((Below.refl m w).setCell (p := ⟨L, 3, none⟩) m1 _).setCell (p := ⟨L, 4, none⟩) m1 _).setCell (p := ⟨L, 5, none⟩) m1 _).setCell (p := ⟨E, 1, none⟩) m2 _
theorem arr_set2 {L E : Nat} {p0 p1 p2 p3 p4 : Raw} {e0 e1 e2 e3 e4 : Int} {w : World} (ha : ArrAt L p0 p1 p2 p3 p4 w) (he : ErrAt E e0 e1 e2 e3 e4 w) (hne : L ≠ E) (q : Raw) (f : Int) :
    ArrAt L p0 p1 q p3 p4 (((((w).setCell ⟨L, 6, none⟩ (.bool q.neg)).setCell ⟨L, 7, none⟩ (.string q.num)).setCell ⟨L, 8, none⟩ (.string q.den)).setCell ⟨E, 2, none⟩ (.int .i64 f)) ∧ ErrAt E e0 e1 f e3 e4 (((((w).setCell ⟨L, 6, none⟩ (.bool q.neg)).setCell ⟨L, 7, none⟩ (.string q.num)).setCell ⟨L, 8, none⟩ (.string q.den)).setCell ⟨E, 2, none⟩ (.int .i64 f)) ∧ (∀ B r, B ≠ L → B ≠ E → RatAt B r w → RatAt B r (((((w).setCell ⟨L, 6, none⟩ (.bool q.neg)).setCell ⟨L, 7, none⟩ (.string q.num)).setCell ⟨L, 8, none⟩ (.string q.den)).setCell ⟨E, 2, none⟩ (.int .i64 f))) ∧ (∀ m, m ≤ L → m ≤ E → Below m w (((((w).setCell ⟨L, 6, none⟩ (.bool q.neg)).setCell ⟨L, 7, none⟩ (.string q.num)).setCell ⟨L, 8, none⟩ (.string q.den)).setCell ⟨E, 2, none⟩ (.int .i64 f))) := by
  have h1 := heap_setCell_same w L 6 _ _ (.bool q.neg) ha.cells
  have h2 := heap_setCell_same _ L 7 _ _ (.string q.num) h1
  have h3 := heap_setCell_same _ L 8 _ _ (.string q.den) h2
  have b1 := Bes.set w L 6 (.bool q.neg)
  have b2 := Bes.set (w.setCell ⟨L, 6, none⟩ (.bool q.neg)) L 7 (.string q.num)
  have b3 := Bes.set ((w.setCell ⟨L, 6, none⟩ (.bool q.neg)).setCell ⟨L, 7, none⟩ (.string q.num)) L 8 (.string q.den)
  have b4 := Bes.set (((w.setCell ⟨L, 6, none⟩ (.bool q.neg)).setCell ⟨L, 7, none⟩ (.string q.num)).setCell ⟨L, 8, none⟩ (.string q.den)) E 2 (.int .i64 f)
  have he3 := ((he.bes b1 hne.symm).bes b2 hne.symm).bes b3 hne.symm
  refine ⟨ArrAt.bes (p2 := q) ⟨h3⟩ b4 hne, ⟨heap_setCell_same _ E 2 _ _ (.int .i64 f) he3.cells⟩, fun B r n1 n2 hr => (((hr.bes b1 n1).bes b2 n1).bes b3 n1).bes b4 n2, fun m m1 m2 => ?_⟩
  exact ((((Below.refl m w).setCell (p := ⟨L, 6, none⟩) m1 _).setCell (p := ⟨L, 7, none⟩) m1 _).setCell (p := ⟨L, 8, none⟩) m1 _).setCell (p := ⟨E, 2, none⟩) m2 _
theorem arr_set3 {L E : Nat} {p0 p1 p2 p3 p4 : Raw} {e0 e1 e2 e3 e4 : Int} {w : World} (ha : ArrAt L p0 p1 p2 p3 p4 w) (he : ErrAt E e0 e1 e2 e3 e4 w) (hne : L ≠ E) (q : Raw) (f : Int) :
    ArrAt L p0 p1 p2 q p4 (((((w).setCell ⟨L, 9, none⟩ (.bool q.neg)).setCell ⟨L, 10, none⟩ (.string q.num)).setCell ⟨L, 11, none⟩ (.string q.den)).setCell ⟨E, 3, none⟩ (.int .i64 f)) ∧ ErrAt E e0 e1 e2 f e4 (((((w).setCell ⟨L, 9, none⟩ (.bool q.neg)).setCell ⟨L, 10, none⟩ (.string q.num)).setCell ⟨L, 11, none⟩ (.string q.den)).setCell ⟨E, 3, none⟩ (.int .i64 f)) ∧ (∀ B r, B ≠ L → B ≠ E → RatAt B r w → RatAt B r (((((w).setCell ⟨L, 9, none⟩ (.bool q.neg)).setCell ⟨L, 10, none⟩ (.string q.num)).setCell ⟨L, 11, none⟩ (.string q.den)).setCell ⟨E, 3, none⟩ (.int .i64 f))) ∧ (∀ m, m ≤ L → m ≤ E → Below m w (((((w).setCell ⟨L, 9, none⟩ (.bool q.neg)).setCell ⟨L, 10, none⟩ (.string q.num)).setCell ⟨L, 11, none⟩ (.string q.den)).setCell ⟨E, 3, none⟩ (.int .i64 f))) := by
  have h1 := heap_setCell_same w L 9 _ _ (.bool q.neg) ha.cells
  have h2 := heap_setCell_same _ L 10 _ _ (.string q.num) h1
  have h3 := heap_setCell_same _ L 11 _ _ (.string q.den) h2
  have b1 := Bes.set w L 9 (.bool q.neg)
  have b2 := Bes.set (w.setCell ⟨L, 9, none⟩ (.bool q.neg)) L 10 (.string q.num)
  have b3 := Bes.set ((w.setCell ⟨L, 9, none⟩ (.bool q.neg)).setCell ⟨L, 10, none⟩ (.string q.num)) L 11 (.string q.den)
  have b4 := Bes.set (((w.setCell ⟨L, 9, none⟩ (.bool q.neg)).setCell ⟨L, 10, none⟩ (.string q.num)).setCell ⟨L, 11, none⟩ (.string q.den)) E 3 (.int .i64 f)
  have he3 := ((he.bes b1 hne.symm).bes b2 hne.symm).bes b3 hne.symm
  refine ⟨ArrAt.bes (p3 := q) ⟨h3⟩ b4 hne, ⟨heap_setCell_same _ E 3 _ _ (.int .i64 f) he3.cells⟩, fun B r n1 n2 hr => (((hr.bes b1 n1).bes b2 n1).bes b3 n1).bes b4 n2, fun m m1 m2 => ?_⟩
  exact ((((Below.refl m w).setCell (p := ⟨L, 9, none⟩) m1 _).setCell (p := ⟨L, 10, none⟩) m1 _).setCell (p := ⟨L, 11, none⟩) m1 _).setCell (p := ⟨E, 3, none⟩) m2 _
theorem arr_set4 {L E : Nat} {p0 p1 p2 p3 p4 : Raw} {e0 e1 e2 e3 e4 : Int} {w : World} (ha : ArrAt L p0 p1 p2 p3 p4 w) (he : ErrAt E e0 e1 e2 e3 e4 w) (hne : L ≠ E) (q : Raw) (f : Int) :
    ArrAt L p0 p1 p2 p3 q (((((w).setCell ⟨L, 12, none⟩ (.bool q.neg)).setCell ⟨L, 13, none⟩ (.string q.num)).setCell ⟨L, 14, none⟩ (.string q.den)).setCell ⟨E, 4, none⟩ (.int .i64 f)) ∧ ErrAt E e0 e1 e2 e3 f (((((w).setCell ⟨L, 12, none⟩ (.bool q.neg)).setCell ⟨L, 13, none⟩ (.string q.num)).setCell ⟨L, 14, none⟩ (.string q.den)).setCell ⟨E, 4, none⟩ (.int .i64 f)) ∧ (∀ B r, B ≠ L → B ≠ E → RatAt B r w → RatAt B r (((((w).setCell ⟨L, 12, none⟩ (.bool q.neg)).setCell ⟨L, 13, none⟩ (.string q.num)).setCell ⟨L, 14, none⟩ (.string q.den)).setCell ⟨E, 4, none⟩ (.int .i64 f))) ∧ (∀ m, m ≤ L → m ≤ E → Below m w (((((w).setCell ⟨L, 12, none⟩ (.bool q.neg)).setCell ⟨L, 13, none⟩ (.string q.num)).setCell ⟨L, 14, none⟩ (.string q.den)).setCell ⟨E, 4, none⟩ (.int .i64 f))) := by
  have h1 := heap_setCell_same w L 12 _ _ (.bool q.neg) ha.cells
  have h2 := heap_setCell_same _ L 13 _ _ (.string q.num) h1
  have h3 := heap_setCell_same _ L 14 _ _ (.string q.den) h2
  have b1 := Bes.set w L 12 (.bool q.neg)
  have b2 := Bes.set (w.setCell ⟨L, 12, none⟩ (.bool q.neg)) L 13 (.string q.num)
  have b3 := Bes.set ((w.setCell ⟨L, 12, none⟩ (.bool q.neg)).setCell ⟨L, 13, none⟩ (.string q.num)) L 14 (.string q.den)
  have b4 := Bes.set (((w.setCell ⟨L, 12, none⟩ (.bool q.neg)).setCell ⟨L, 13, none⟩ (.string q.num)).setCell ⟨L, 14, none⟩ (.string q.den)) E 4 (.int .i64 f)
  have he3 := ((he.bes b1 hne.symm).bes b2 hne.symm).bes b3 hne.symm
  refine ⟨ArrAt.bes (p4 := q) ⟨h3⟩ b4 hne, ⟨heap_setCell_same _ E 4 _ _ (.int .i64 f) he3.cells⟩, fun B r n1 n2 hr => (((hr.bes b1 n1).bes b2 n1).bes b3 n1).bes b4 n2, fun m m1 m2 => ?_⟩
  exact ((((Below.refl m w).setCell (p := ⟨L, 12, none⟩) m1 _).setCell (p := ⟨L, 13, none⟩) m1 _).setCell (p := ⟨L, 14, none⟩) m1 _).setCell (p := ⟨E, 4, none⟩) m2 _
set_option maxHeartbeats 8000000 in
theorem walkRationalForm (a b : Raw) (x y : Int) (w : World) (ht : TabOk w) (sa : a.num.size ≤ maxLen ∧ a.den.size ≤ maxLen) (sb : b.num.size ≤ maxLen ∧ b.den.size ≤ maxLen) (hx : -9223372036854775808 ≤ x ∧ x ≤ 9223372036854775807) (hy : -9223372036854775808 ≤ y ∧ y ≤ 9223372036854775807) : Calls Tryd.prog 3 #[.agg #[.bool a.neg, .string a.num, .string a.den], .agg #[.bool b.neg, .string b.num, .string b.den], .int .i64 x, .int .i64 y] w fun e w' => e = .returned (.bool true) ∧ Below w.heap.size w w' := by
  have HT := Lib.hid ht
  have HS : Hid (OkSz [a, b]) := Lib.hid (by intro r hr; simp only [List.mem_cons, List.not_mem_nil, or_false] at hr; rcases hr with rfl | rfl <;> assumption)
  clear ht sa sb
  have D0 := Lib.hid (Below.refl w.heap.size w)
  go_enter Tryd.func3, Tryd.ntmps3
  go_wp2_with fail
  obtain ⟨B1, hB1⟩ : ∃ B, B = w.heap.size := ⟨_, rfl⟩
  obtain ⟨W1_0, hW1_0⟩ : ∃ W, W = w.alloc (Obj.cells #[Value.bool a.neg, Value.string a.num, Value.string a.den] 24) := ⟨_, rfl⟩
  have hb : Below w.heap.size w W1_0 := by rw [hW1_0]; exact (Below.refl _ _).alloc (Nat.le_refl _) _
  have hzW1_0 : w.heap.size = B1 := by rw [hB1]
  have hlW1_0 : RatAt (B1) a W1_0 := by rw [← hzW1_0, hW1_0]; exact ⟨heap_lastM _ _⟩
  have D1 := Lib.hid (D0.out.trans (hb.mono D0.out.size))
  clear hb
  have a_1 := Lib.hid hlW1_0
  clear hlW1_0
  obtain ⟨W1_1, hW1_1⟩ : ∃ W, W = W1_0.alloc (Obj.cells #[Value.bool b.neg, Value.string b.num, Value.string b.den] 24) := ⟨_, rfl⟩
  have hb : Below W1_0.heap.size W1_0 W1_1 := by rw [hW1_1]; exact (Below.refl _ _).alloc (Nat.le_refl _) _
  have hzW1_1 : W1_0.heap.size = B1 + 1 := by rw [hW1_0]; simp [hzW1_0]
  have hlW1_1 : RatAt (B1 + 1) b W1_1 := by rw [← hzW1_1, hW1_1]; exact ⟨heap_lastM _ _⟩
  have D2 := Lib.hid (D1.out.trans (hb.mono D1.out.size))
  have a_2 := Lib.hid (a_1.out.bel hb)
  clear D1 a_1
  clear hb
  have b_2 := Lib.hid hlW1_1
  clear hlW1_1
  rw [← hW1_0]
  rw [← hW1_1]
  simp only [← hB1]
  have HW1_0 := Lib.hid hW1_0
  clear hW1_0 hzW1_0
  have HW1_1 := Lib.hid hW1_1
  clear hW1_1 hzW1_1
  have HB1 := Lib.hid hB1
  clear hB1
  have HX := Lib.hid hx; have HY := Lib.hid hy; clear hx hy
  refine (head4_any _ (HT.out.below D2.out)).mono ?_
  rintro e v3 ⟨rfl, hb⟩
  have D3 := Lib.hid (D2.out.trans (hb.mono D2.out.size))
  have a_3 := Lib.hid (a_2.out.bel hb)
  have b_3 := Lib.hid (b_2.out.bel hb)
  clear D2 a_2 b_2
  clear hb
  have ac0 := a_3.out.c0
  have ac1 := a_3.out.c1
  have ac2 := a_3.out.c2
  have az := blk_lt a_3.out.cells
  have bc0 := b_3.out.c0
  have bc1 := b_3.out.c1
  have bc2 := b_3.out.c2
  have bz := blk_lt b_3.out.cells
  go_wp2_with fail
  clear ac0 ac1 ac2 az bc0 bc1 bc2 bz
  refine (few4_two _ a b HS.out).mono ?_
  rintro e v4 ⟨rfl, hb⟩
  have D4 := Lib.hid (D3.out.trans (hb.mono D3.out.size))
  have a_4 := Lib.hid (a_3.out.bel hb)
  have b_4 := Lib.hid (b_3.out.bel hb)
  clear D3 a_3 b_3
  clear hb
  rcases Bool.eq_false_or_eq_true (fewR [a, b]) with hp | hp
  rotate_left
  ·
    simp only [hp]
    go_wp2_with fail
    go_ret
    exact ⟨rfl, D4.out⟩
  simp only [hp]
  have HF := Lib.hid hp; clear hp
  obtain ⟨bad, hbad⟩ : ∃ bad, bad = !(okR a && okR b) := ⟨_, rfl⟩
  obtain ⟨f0, f1, f2, f3⟩ := form_pure (a := a) (b := b) (few_two HF.out).1 (few_two HF.out).2
  rw [← hbad] at f0 f1 f2 f3
  have HBAD := Lib.hid hbad; clear hbad
  obtain ⟨p0, e0, hv⟩ : ∃ p e, addE a b = (p, e) := ⟨_, _, rfl⟩
  rw [hv] at f0; have Hp0 := Lib.hid hv; have F0 := Lib.hid f0; clear hv f0
  obtain ⟨p1, e1, hv⟩ : ∃ p e, subE a b = (p, e) := ⟨_, _, rfl⟩
  rw [hv] at f1; have Hp1 := Lib.hid hv; have F1 := Lib.hid f1; clear hv f1
  obtain ⟨p2, e2, hv⟩ : ∃ p e, mulE a b = (p, e) := ⟨_, _, rfl⟩
  rw [hv] at f2; have Hp2 := Lib.hid hv; have F2 := Lib.hid f2; clear hv f2
  obtain ⟨p3, e3, hv⟩ : ∃ p e, divE a b = (p, e) := ⟨_, _, rfl⟩
  rw [hv] at f3; have Hp3 := Lib.hid hv; have F3 := Lib.hid f3; clear hv f3
  obtain ⟨p4, e4, hv⟩ : ∃ p e, ofE x y = (p, e) := ⟨_, _, rfl⟩
  have f4 := of_pure HX.out HY.out; rw [hv] at f4; have Hp4 := Lib.hid hv; have F4 := Lib.hid f4; clear hv f4
  go_upto_region 4 with fail
  go_cut [10] (fun s10 wx => s10 = .bool bad ∧ Hid (Below v4.heap.size v4 wx))
  case first =>
    have hva : Hid (∀ w, Calls Tryd.prog 11 #[.agg #[.bool a.neg, .string a.num, .string a.den]] w (GivesB (okR a) w)) := Lib.hid (fun w => pratvalid_any a w)
    have hvb : Hid (∀ w, Calls Tryd.prog 11 #[.agg #[.bool b.neg, .string b.num, .string b.den]] w (GivesB (okR b) w)) := Lib.hid (fun w => pratvalid_any b w)
    have hbad := HBAD.out; clear HBAD F0 F1 F2 F3 F4 Hp0 Hp1 Hp2 Hp3 Hp4
    generalize okR a = va at *
    generalize okR b = vb at *
    have HBAD := Lib.hid hbad; clear hbad
    cases va
    ·
      have ac0 := a_4.out.c0
      have ac1 := a_4.out.c1
      have ac2 := a_4.out.c2
      have bc0 := b_4.out.c0
      have bc1 := b_4.out.c1
      have bc2 := b_4.out.c2
      go_wp2_with fail
      clear ac0 ac1 ac2 bc0 bc1 bc2
      refine (hva.out _).mono ?_
      rintro e x1 ⟨rfl, hb1⟩
      have HB1' := Lib.hid hb1; clear hb1
      go_wp2_with fail
      go_meet
      exact ⟨by rw [HBAD.out]; rfl, Lib.hid (HB1'.out)⟩
    ·
      cases vb
      ·
        have ac0 := a_4.out.c0
        have ac1 := a_4.out.c1
        have ac2 := a_4.out.c2
        have bc0 := b_4.out.c0
        have bc1 := b_4.out.c1
        have bc2 := b_4.out.c2
        go_wp2_with fail
        clear ac0 ac1 ac2 bc0 bc1 bc2
        refine (hva.out _).mono ?_
        rintro e x1 ⟨rfl, hb1⟩
        have ac0 := (a_4.out.bel hb1).c0
        have ac1 := (a_4.out.bel hb1).c1
        have ac2 := (a_4.out.bel hb1).c2
        have bc0 := (b_4.out.bel hb1).c0
        have bc1 := (b_4.out.bel hb1).c1
        have bc2 := (b_4.out.bel hb1).c2
        have HB1' := Lib.hid hb1; clear hb1
        go_wp2_with fail
        clear ac0 ac1 ac2 bc0 bc1 bc2
        refine (hvb.out _).mono ?_
        rintro e x2 ⟨rfl, hb2⟩
        have HB2' := Lib.hid (HB1'.out.trans (hb2.mono HB1'.out.size)); clear hb2
        go_wp2_with fail
        go_meet
        exact ⟨by rw [HBAD.out]; rfl, Lib.hid (HB2'.out)⟩
      ·
        have ac0 := a_4.out.c0
        have ac1 := a_4.out.c1
        have ac2 := a_4.out.c2
        have bc0 := b_4.out.c0
        have bc1 := b_4.out.c1
        have bc2 := b_4.out.c2
        go_wp2_with fail
        clear ac0 ac1 ac2 bc0 bc1 bc2
        refine (hva.out _).mono ?_
        rintro e x1 ⟨rfl, hb1⟩
        have ac0 := (a_4.out.bel hb1).c0
        have ac1 := (a_4.out.bel hb1).c1
        have ac2 := (a_4.out.bel hb1).c2
        have bc0 := (b_4.out.bel hb1).c0
        have bc1 := (b_4.out.bel hb1).c1
        have bc2 := (b_4.out.bel hb1).c2
        have HB1' := Lib.hid hb1; clear hb1
        go_wp2_with fail
        clear ac0 ac1 ac2 bc0 bc1 bc2
        refine (hvb.out _).mono ?_
        rintro e x2 ⟨rfl, hb2⟩
        have HB2' := Lib.hid (HB1'.out.trans (hb2.mono HB1'.out.size)); clear hb2
        go_wp2_with fail
        go_meet
        exact ⟨by rw [HBAD.out]; rfl, Lib.hid (HB2'.out)⟩
  case rest =>
    obtain ⟨rfl, hcutB⟩ := hcut
    have D5 := Lib.hid (D4.out.trans (hcutB.out.mono D4.out.size))
    have a_5 := Lib.hid (a_4.out.bel hcutB.out)
    have b_5 := Lib.hid (b_4.out.bel hcutB.out)
    clear D4 a_4 b_4
    clear hcutB HBAD
    obtain ⟨wd, hnm⟩ : ∃ x, x = wc := ⟨_, rfl⟩
    subst hnm
    have ac0 := a_5.out.c0
    have ac1 := a_5.out.c1
    have ac2 := a_5.out.c2
    have az := blk_lt a_5.out.cells
    have bc0 := b_5.out.c0
    have bc1 := b_5.out.c1
    have bc2 := b_5.out.c2
    have bz := blk_lt b_5.out.cells
    go_wp2_with fail
    clear ac0 ac1 ac2 az bc0 bc1 bc2 bz
    obtain ⟨L, hL⟩ : ∃ B, B = wd.heap.size := ⟨_, rfl⟩
    obtain ⟨E, hE⟩ : ∃ B, B = L + 1 := ⟨_, rfl⟩
    obtain ⟨V0, hV0⟩ : ∃ W, W = wd.alloc (Obj.cells #[Value.bool false, Value.string ⟨#[]⟩, Value.string ⟨#[]⟩, Value.bool false, Value.string ⟨#[]⟩, Value.string ⟨#[]⟩, Value.bool false, Value.string ⟨#[]⟩, Value.string ⟨#[]⟩, Value.bool false, Value.string ⟨#[]⟩, Value.string ⟨#[]⟩, Value.bool false, Value.string ⟨#[]⟩, Value.string ⟨#[]⟩] 28) := ⟨_, rfl⟩
    obtain ⟨V1, hV1⟩ : ∃ W, W = V0.alloc (Obj.cells #[Value.int .i64 0, Value.int .i64 0, Value.int .i64 0, Value.int .i64 0, Value.int .i64 0] 30) := ⟨_, rfl⟩
    have hz0 : V0.heap.size = E := by rw [hV0, hE, hL]; simp
    have hb0 : Below wd.heap.size wd V0 := by rw [hV0]; exact (Below.refl _ _).alloc (Nat.le_refl _) _
    have hb1 : Below V0.heap.size V0 V1 := by rw [hV1]; exact (Below.refl _ _).alloc (Nat.le_refl _) _
    have ha0 : ArrAt L (⟨false, ⟨#[]⟩, ⟨#[]⟩⟩ : Raw) (⟨false, ⟨#[]⟩, ⟨#[]⟩⟩ : Raw) (⟨false, ⟨#[]⟩, ⟨#[]⟩⟩ : Raw) (⟨false, ⟨#[]⟩, ⟨#[]⟩⟩ : Raw) (⟨false, ⟨#[]⟩, ⟨#[]⟩⟩ : Raw) V0 := by rw [hL, hV0]; exact ⟨heap_lastM _ _⟩
    have AR0 : Hid (ArrAt L (⟨false, ⟨#[]⟩, ⟨#[]⟩⟩ : Raw) (⟨false, ⟨#[]⟩, ⟨#[]⟩⟩ : Raw) (⟨false, ⟨#[]⟩, ⟨#[]⟩⟩ : Raw) (⟨false, ⟨#[]⟩, ⟨#[]⟩⟩ : Raw) (⟨false, ⟨#[]⟩, ⟨#[]⟩⟩ : Raw) V1) := Lib.hid (ha0.bel hb1)
    have ER0 : Hid (ErrAt E 0 0 0 0 0 V1) := Lib.hid (by rw [← hz0, hV1]; exact ⟨heap_lastM _ _⟩)
    have hsz := D5.out.size
    have hla := blk_lt a_5.out.cells
    have hlb := blk_lt b_5.out.cells
    have NEa : Hid (B1 ≠ L ∧ B1 ≠ E) := Lib.hid (by omega)
    have NEb : Hid (B1 + 1 ≠ L ∧ B1 + 1 ≠ E) := Lib.hid (by omega)
    have NEL : Hid (L ≠ E ∧ w.heap.size ≤ L ∧ w.heap.size ≤ E) := Lib.hid (by omega)
    clear hsz hla hlb
    have D6 := Lib.hid (D5.out.trans (hb0.mono D5.out.size))
    have a_6 := Lib.hid (a_5.out.bel hb0)
    have b_6 := Lib.hid (b_5.out.bel hb0)
    clear D5 a_5 b_5
    have D7 := Lib.hid (D6.out.trans (hb1.mono D6.out.size))
    have a_7 := Lib.hid (a_6.out.bel hb1)
    have b_7 := Lib.hid (b_6.out.bel hb1)
    clear D6 a_6 b_6
    rw [← hV0, ← hV1]; simp only [← hL, ← hE]
    have HV0 := Lib.hid hV0; have HV1 := Lib.hid hV1; have HL := Lib.hid hL; have HE := Lib.hid hE; clear hV0 hV1 hL hE hz0 hb0 hb1 ha0
    refine (pratadd_any a b _).mono ?_
    rintro e v8 ⟨rfl, hb⟩
    have AS0 := Lib.hid (AR0.out.bel hb); have ES0 := Lib.hid (ER0.out.bel hb); clear AR0 ER0
    have D8 := Lib.hid (D7.out.trans (hb.mono D7.out.size))
    have a_8 := Lib.hid (a_7.out.bel hb)
    have b_8 := Lib.hid (b_7.out.bel hb)
    clear D7 a_7 b_7
    clear hb
    simp only [Hp0.out]
    have lc0 : v8.cell? ⟨L, 0, none⟩ = some (.bool false) := by rw [Lib.cell_of_heap AS0.out.cells]; rfl
    have lf0 : v8.frozen? ⟨L, 0, none⟩ = false := Lib.frozen_of_heap AS0.out.cells 0
    have lc1 : v8.cell? ⟨L, 1, none⟩ = some (.string ⟨#[]⟩) := by rw [Lib.cell_of_heap AS0.out.cells]; rfl
    have lf1 : v8.frozen? ⟨L, 1, none⟩ = false := Lib.frozen_of_heap AS0.out.cells 1
    have lc2 : v8.cell? ⟨L, 2, none⟩ = some (.string ⟨#[]⟩) := by rw [Lib.cell_of_heap AS0.out.cells]; rfl
    have lf2 : v8.frozen? ⟨L, 2, none⟩ = false := Lib.frozen_of_heap AS0.out.cells 2
    have ec0 : v8.cell? ⟨E, 0, none⟩ = some (.int .i64 0) := by rw [Lib.cell_of_heap ES0.out.cells]; rfl
    have ef0 : v8.frozen? ⟨E, 0, none⟩ = false := Lib.frozen_of_heap ES0.out.cells 0
    have hne := NEL.out.1
    go_upto_region 8 with fail
    clear lc0 lf0 lc1 lf1 lc2 lf2 ec0 ef0 hne
    obtain ⟨s1, s2, s3, s4⟩ := arr_set0 AS0.out ES0.out NEL.out.1 p0 e0
    obtain ⟨X9, hX9⟩ : ∃ W, W = (((((v8).setCell ⟨L, 0, none⟩ (.bool p0.neg)).setCell ⟨L, 1, none⟩ (.string p0.num)).setCell ⟨L, 2, none⟩ (.string p0.den)).setCell ⟨E, 0, none⟩ (.int .i64 e0)) := ⟨_, rfl⟩
    rw [← hX9] at s1 s2 s3 s4
    rw [← hX9]
    have D9 := Lib.hid (D8.out.trans (s4 _ NEL.out.2.1 NEL.out.2.2))
    have a_9 := Lib.hid (s3 _ _ NEa.out.1 NEa.out.2 a_8.out)
    have b_9 := Lib.hid (s3 _ _ NEb.out.1 NEb.out.2 b_8.out)
    have AR1 := Lib.hid s1; have ER1 := Lib.hid s2
    clear s1 s2 s3 s4 AS0 ES0 D8 a_8 b_8
    have HX9 := Lib.hid hX9; clear hX9
    have ac0 := a_9.out.c0
    have ac1 := a_9.out.c1
    have ac2 := a_9.out.c2
    have bc0 := b_9.out.c0
    have bc1 := b_9.out.c1
    have bc2 := b_9.out.c2
    go_wp2_with fail
    clear ac0 ac1 ac2 bc0 bc1 bc2
    refine (pratsub_any a b _).mono ?_
    rintro e v10 ⟨rfl, hb⟩
    have AS1 := Lib.hid (AR1.out.bel hb); have ES1 := Lib.hid (ER1.out.bel hb); clear AR1 ER1
    have D10 := Lib.hid (D9.out.trans (hb.mono D9.out.size))
    have a_10 := Lib.hid (a_9.out.bel hb)
    have b_10 := Lib.hid (b_9.out.bel hb)
    clear D9 a_9 b_9
    clear hb
    simp only [Hp1.out]
    have lc0 : v10.cell? ⟨L, 3, none⟩ = some (.bool false) := by rw [Lib.cell_of_heap AS1.out.cells]; rfl
    have lf0 : v10.frozen? ⟨L, 3, none⟩ = false := Lib.frozen_of_heap AS1.out.cells 3
    have lc1 : v10.cell? ⟨L, 4, none⟩ = some (.string ⟨#[]⟩) := by rw [Lib.cell_of_heap AS1.out.cells]; rfl
    have lf1 : v10.frozen? ⟨L, 4, none⟩ = false := Lib.frozen_of_heap AS1.out.cells 4
    have lc2 : v10.cell? ⟨L, 5, none⟩ = some (.string ⟨#[]⟩) := by rw [Lib.cell_of_heap AS1.out.cells]; rfl
    have lf2 : v10.frozen? ⟨L, 5, none⟩ = false := Lib.frozen_of_heap AS1.out.cells 5
    have ec0 : v10.cell? ⟨E, 1, none⟩ = some (.int .i64 0) := by rw [Lib.cell_of_heap ES1.out.cells]; rfl
    have ef0 : v10.frozen? ⟨E, 1, none⟩ = false := Lib.frozen_of_heap ES1.out.cells 1
    have hne := NEL.out.1
    go_upto_region 9 with fail
    clear lc0 lf0 lc1 lf1 lc2 lf2 ec0 ef0 hne
    obtain ⟨s1, s2, s3, s4⟩ := arr_set1 AS1.out ES1.out NEL.out.1 p1 e1
    obtain ⟨X11, hX11⟩ : ∃ W, W = (((((v10).setCell ⟨L, 3, none⟩ (.bool p1.neg)).setCell ⟨L, 4, none⟩ (.string p1.num)).setCell ⟨L, 5, none⟩ (.string p1.den)).setCell ⟨E, 1, none⟩ (.int .i64 e1)) := ⟨_, rfl⟩
    rw [← hX11] at s1 s2 s3 s4
    rw [← hX11]
    have D11 := Lib.hid (D10.out.trans (s4 _ NEL.out.2.1 NEL.out.2.2))
    have a_11 := Lib.hid (s3 _ _ NEa.out.1 NEa.out.2 a_10.out)
    have b_11 := Lib.hid (s3 _ _ NEb.out.1 NEb.out.2 b_10.out)
    have AR2 := Lib.hid s1; have ER2 := Lib.hid s2
    clear s1 s2 s3 s4 AS1 ES1 D10 a_10 b_10
    have HX11 := Lib.hid hX11; clear hX11
    have ac0 := a_11.out.c0
    have ac1 := a_11.out.c1
    have ac2 := a_11.out.c2
    have bc0 := b_11.out.c0
    have bc1 := b_11.out.c1
    have bc2 := b_11.out.c2
    go_wp2_with fail
    clear ac0 ac1 ac2 bc0 bc1 bc2
    refine (pratmul_any a b _).mono ?_
    rintro e v12 ⟨rfl, hb⟩
    have AS2 := Lib.hid (AR2.out.bel hb); have ES2 := Lib.hid (ER2.out.bel hb); clear AR2 ER2
    have D12 := Lib.hid (D11.out.trans (hb.mono D11.out.size))
    have a_12 := Lib.hid (a_11.out.bel hb)
    have b_12 := Lib.hid (b_11.out.bel hb)
    clear D11 a_11 b_11
    clear hb
    simp only [Hp2.out]
    have lc0 : v12.cell? ⟨L, 6, none⟩ = some (.bool false) := by rw [Lib.cell_of_heap AS2.out.cells]; rfl
    have lf0 : v12.frozen? ⟨L, 6, none⟩ = false := Lib.frozen_of_heap AS2.out.cells 6
    have lc1 : v12.cell? ⟨L, 7, none⟩ = some (.string ⟨#[]⟩) := by rw [Lib.cell_of_heap AS2.out.cells]; rfl
    have lf1 : v12.frozen? ⟨L, 7, none⟩ = false := Lib.frozen_of_heap AS2.out.cells 7
    have lc2 : v12.cell? ⟨L, 8, none⟩ = some (.string ⟨#[]⟩) := by rw [Lib.cell_of_heap AS2.out.cells]; rfl
    have lf2 : v12.frozen? ⟨L, 8, none⟩ = false := Lib.frozen_of_heap AS2.out.cells 8
    have ec0 : v12.cell? ⟨E, 2, none⟩ = some (.int .i64 0) := by rw [Lib.cell_of_heap ES2.out.cells]; rfl
    have ef0 : v12.frozen? ⟨E, 2, none⟩ = false := Lib.frozen_of_heap ES2.out.cells 2
    have hne := NEL.out.1
    go_upto_region 10 with fail
    clear lc0 lf0 lc1 lf1 lc2 lf2 ec0 ef0 hne
    obtain ⟨s1, s2, s3, s4⟩ := arr_set2 AS2.out ES2.out NEL.out.1 p2 e2
    obtain ⟨X13, hX13⟩ : ∃ W, W = (((((v12).setCell ⟨L, 6, none⟩ (.bool p2.neg)).setCell ⟨L, 7, none⟩ (.string p2.num)).setCell ⟨L, 8, none⟩ (.string p2.den)).setCell ⟨E, 2, none⟩ (.int .i64 e2)) := ⟨_, rfl⟩
    rw [← hX13] at s1 s2 s3 s4
    rw [← hX13]
    have D13 := Lib.hid (D12.out.trans (s4 _ NEL.out.2.1 NEL.out.2.2))
    have a_13 := Lib.hid (s3 _ _ NEa.out.1 NEa.out.2 a_12.out)
    have b_13 := Lib.hid (s3 _ _ NEb.out.1 NEb.out.2 b_12.out)
    have AR3 := Lib.hid s1; have ER3 := Lib.hid s2
    clear s1 s2 s3 s4 AS2 ES2 D12 a_12 b_12
    have HX13 := Lib.hid hX13; clear hX13
    have ac0 := a_13.out.c0
    have ac1 := a_13.out.c1
    have ac2 := a_13.out.c2
    have bc0 := b_13.out.c0
    have bc1 := b_13.out.c1
    have bc2 := b_13.out.c2
    go_wp2_with fail
    clear ac0 ac1 ac2 bc0 bc1 bc2
    refine (pratdiv_any a b _).mono ?_
    rintro e v14 ⟨rfl, hb⟩
    have AS3 := Lib.hid (AR3.out.bel hb); have ES3 := Lib.hid (ER3.out.bel hb); clear AR3 ER3
    have D14 := Lib.hid (D13.out.trans (hb.mono D13.out.size))
    have a_14 := Lib.hid (a_13.out.bel hb)
    have b_14 := Lib.hid (b_13.out.bel hb)
    clear D13 a_13 b_13
    clear hb
    simp only [Hp3.out]
    have lc0 : v14.cell? ⟨L, 9, none⟩ = some (.bool false) := by rw [Lib.cell_of_heap AS3.out.cells]; rfl
    have lf0 : v14.frozen? ⟨L, 9, none⟩ = false := Lib.frozen_of_heap AS3.out.cells 9
    have lc1 : v14.cell? ⟨L, 10, none⟩ = some (.string ⟨#[]⟩) := by rw [Lib.cell_of_heap AS3.out.cells]; rfl
    have lf1 : v14.frozen? ⟨L, 10, none⟩ = false := Lib.frozen_of_heap AS3.out.cells 10
    have lc2 : v14.cell? ⟨L, 11, none⟩ = some (.string ⟨#[]⟩) := by rw [Lib.cell_of_heap AS3.out.cells]; rfl
    have lf2 : v14.frozen? ⟨L, 11, none⟩ = false := Lib.frozen_of_heap AS3.out.cells 11
    have ec0 : v14.cell? ⟨E, 3, none⟩ = some (.int .i64 0) := by rw [Lib.cell_of_heap ES3.out.cells]; rfl
    have ef0 : v14.frozen? ⟨E, 3, none⟩ = false := Lib.frozen_of_heap ES3.out.cells 3
    have hne := NEL.out.1
    go_upto_region 11 with fail
    clear lc0 lf0 lc1 lf1 lc2 lf2 ec0 ef0 hne
    obtain ⟨s1, s2, s3, s4⟩ := arr_set3 AS3.out ES3.out NEL.out.1 p3 e3
    obtain ⟨X15, hX15⟩ : ∃ W, W = (((((v14).setCell ⟨L, 9, none⟩ (.bool p3.neg)).setCell ⟨L, 10, none⟩ (.string p3.num)).setCell ⟨L, 11, none⟩ (.string p3.den)).setCell ⟨E, 3, none⟩ (.int .i64 e3)) := ⟨_, rfl⟩
    rw [← hX15] at s1 s2 s3 s4
    rw [← hX15]
    have D15 := Lib.hid (D14.out.trans (s4 _ NEL.out.2.1 NEL.out.2.2))
    have a_15 := Lib.hid (s3 _ _ NEa.out.1 NEa.out.2 a_14.out)
    have b_15 := Lib.hid (s3 _ _ NEb.out.1 NEb.out.2 b_14.out)
    have AR4 := Lib.hid s1; have ER4 := Lib.hid s2
    clear s1 s2 s3 s4 AS3 ES3 D14 a_14 b_14
    have HX15 := Lib.hid hX15; clear hX15
    have ac0 := a_15.out.c0
    have ac1 := a_15.out.c1
    have ac2 := a_15.out.c2
    have bc0 := b_15.out.c0
    have bc1 := b_15.out.c1
    have bc2 := b_15.out.c2
    go_wp2_with fail
    clear ac0 ac1 ac2 bc0 bc1 bc2
    refine (pof_any x y _ HX.out.1 HX.out.2 HY.out.1 HY.out.2 (HT.out.below D15.out)).mono ?_
    rintro e v16 ⟨rfl, hb⟩
    have AS4 := Lib.hid (AR4.out.bel hb); have ES4 := Lib.hid (ER4.out.bel hb); clear AR4 ER4
    have D16 := Lib.hid (D15.out.trans (hb.mono D15.out.size))
    have a_16 := Lib.hid (a_15.out.bel hb)
    have b_16 := Lib.hid (b_15.out.bel hb)
    clear D15 a_15 b_15
    clear hb
    simp only [Hp4.out]
    have lc0 : v16.cell? ⟨L, 12, none⟩ = some (.bool false) := by rw [Lib.cell_of_heap AS4.out.cells]; rfl
    have lf0 : v16.frozen? ⟨L, 12, none⟩ = false := Lib.frozen_of_heap AS4.out.cells 12
    have lc1 : v16.cell? ⟨L, 13, none⟩ = some (.string ⟨#[]⟩) := by rw [Lib.cell_of_heap AS4.out.cells]; rfl
    have lf1 : v16.frozen? ⟨L, 13, none⟩ = false := Lib.frozen_of_heap AS4.out.cells 13
    have lc2 : v16.cell? ⟨L, 14, none⟩ = some (.string ⟨#[]⟩) := by rw [Lib.cell_of_heap AS4.out.cells]; rfl
    have lf2 : v16.frozen? ⟨L, 14, none⟩ = false := Lib.frozen_of_heap AS4.out.cells 14
    have ec0 : v16.cell? ⟨E, 4, none⟩ = some (.int .i64 0) := by rw [Lib.cell_of_heap ES4.out.cells]; rfl
    have ef0 : v16.frozen? ⟨E, 4, none⟩ = false := Lib.frozen_of_heap ES4.out.cells 4
    have hne := NEL.out.1
    go_upto_region 12 with fail
    clear lc0 lf0 lc1 lf1 lc2 lf2 ec0 ef0 hne
    obtain ⟨s1, s2, s3, s4⟩ := arr_set4 AS4.out ES4.out NEL.out.1 p4 e4
    obtain ⟨X17, hX17⟩ : ∃ W, W = (((((v16).setCell ⟨L, 12, none⟩ (.bool p4.neg)).setCell ⟨L, 13, none⟩ (.string p4.num)).setCell ⟨L, 14, none⟩ (.string p4.den)).setCell ⟨E, 4, none⟩ (.int .i64 e4)) := ⟨_, rfl⟩
    rw [← hX17] at s1 s2 s3 s4
    rw [← hX17]
    have D17 := Lib.hid (D16.out.trans (s4 _ NEL.out.2.1 NEL.out.2.2))
    have a_17 := Lib.hid (s3 _ _ NEa.out.1 NEa.out.2 a_16.out)
    have b_17 := Lib.hid (s3 _ _ NEb.out.1 NEb.out.2 b_16.out)
    have AR5 := Lib.hid s1; have ER5 := Lib.hid s2
    clear s1 s2 s3 s4 AS4 ES4 D16 a_16 b_16
    have HX17 := Lib.hid hX17; clear hX17
    have ac0 := a_17.out.c0
    have ac1 := a_17.out.c1
    have ac2 := a_17.out.c2
    have bc0 := b_17.out.c0
    have bc1 := b_17.out.c1
    have bc2 := b_17.out.c2
    go_wp2_with fail
    clear ac0 ac1 ac2 bc0 bc1 bc2
    go_loopw [13] (fun i wr => ∃ k : Nat, k ≤ 5 ∧ i = .int .i64 k ∧ Hid (Below X17.heap.size X17 wr)) (fun i _ => 5 - (intOf i).toNat)
    case atStart => exact ⟨0, by omega, rfl, Lib.hid (Below.refl _ _)⟩
    case round =>
      obtain ⟨k, hk, rfl, hB⟩ := hrel
      have HA := Lib.hid (AR5.out.bel hB.out); have HEr := Lib.hid (ER5.out.bel hB.out)
      have DD := Lib.hid (D17.out.trans (hB.out.mono D17.out.size))
      clear AR5 ER5 a_17 b_17
      obtain rfl | rfl | rfl | rfl | rfl | rfl : k = 0 ∨ k = 1 ∨ k = 2 ∨ k = 3 ∨ k = 4 ∨ k = 5 := by omega
      ·
        rcases F0.out with ⟨q1, q2, q3⟩ | ⟨q1, q2, q3⟩ | ⟨q1, q0, q2, q3⟩
        ·
          have ec : wr.cell? ⟨E, 0, none⟩ = some (.int .i64 0) := by rw [← show e0 = 0 from q1, Lib.cell_of_heap HEr.out.cells]; rfl
          subst q3
          have HQ := Lib.hid q2; clear q1 q2
          have pc0 : wr.cell? ⟨L, 0, none⟩ = some (.bool p0.neg) := by rw [Lib.cell_of_heap HA.out.cells]; rfl
          have pc1 : wr.cell? ⟨L, 1, none⟩ = some (.string p0.num) := by rw [Lib.cell_of_heap HA.out.cells]; rfl
          have pc2 : wr.cell? ⟨L, 2, none⟩ = some (.string p0.den) := by rw [Lib.cell_of_heap HA.out.cells]; rfl
          go_wp2_with fail
          clear pc0 pc1 pc2 ec
          refine (pratvalid_any p0 _).mono ?_
          rintro e v1 ⟨rfl, hb⟩
          rw [HQ.out]
          have HBB := Lib.hid (hB.out.trans (hb.mono hB.out.size))
          have ec : v1.cell? ⟨E, 0, none⟩ = some (.int .i64 0) := (hb.cell (p := ⟨E, 0, none⟩) (blk_lt HEr.out.cells)).trans (by have := HEr.out.cells; rcases F0.out with ⟨q1, q2, q3⟩ | ⟨q1, q2, q3⟩ | ⟨q1, q0, q2, q3⟩; (rw [← show e0 = 0 from q1, Lib.cell_of_heap this]; rfl); (cases q3); (exact absurd (show okR p0 = false by rw [show p0 = noRaw from q2]; exact okR_no) (by rw [HQ.out]; simp)))
          clear hb
          go_wp2_with fail
          go_roundw
          case rel => exact ⟨1, by omega, by go_num, Lib.hid (HBB.out)⟩
          case measure => simp [intOf]
        ·
          have ec : wr.cell? ⟨E, 0, none⟩ = some (.int .i64 1) := by rw [← show e0 = 1 from q1, Lib.cell_of_heap HEr.out.cells]; rfl
          subst q3
          have pc0 : wr.cell? ⟨L, 0, none⟩ = some (.bool false) := by have := HA.out.cells; rw [show p0 = noRaw from q2] at this; rw [Lib.cell_of_heap this]; rfl
          have pc1 : wr.cell? ⟨L, 1, none⟩ = some (.string ⟨#[]⟩) := by have := HA.out.cells; rw [show p0 = noRaw from q2] at this; rw [Lib.cell_of_heap this]; rfl
          have pc2 : wr.cell? ⟨L, 2, none⟩ = some (.string ⟨#[]⟩) := by have := HA.out.cells; rw [show p0 = noRaw from q2] at this; rw [Lib.cell_of_heap this]; rfl
          clear q1 q2
          have nz : ∀ w, (binOp .neq 24 (.agg #[.bool false, .string ⟨#[]⟩, .string ⟨#[]⟩]) (.agg #[.bool false, .string ⟨#[]⟩, .string ⟨#[]⟩])).run Tryd.prog w = .ok (.bool false) w := fun w => by have := run_neq_rat ⟨false, ⟨#[]⟩, ⟨#[]⟩⟩ ⟨false, ⟨#[]⟩, ⟨#[]⟩⟩ w; rwa [sameR_iff.2 rfl] at this
          go_wp2_with fail
          go_roundw
          case rel => exact ⟨1, by omega, by go_num, Lib.hid (hB.out)⟩
          case measure => simp [intOf]
        ·
          have ec : wr.cell? ⟨E, 0, none⟩ = some (.int .i64 e0) := by rw [Lib.cell_of_heap HEr.out.cells]; rfl
          subst q3
          have pc0 : wr.cell? ⟨L, 0, none⟩ = some (.bool false) := by have := HA.out.cells; rw [show p0 = noRaw from q2] at this; rw [Lib.cell_of_heap this]; rfl
          have pc1 : wr.cell? ⟨L, 1, none⟩ = some (.string ⟨#[]⟩) := by have := HA.out.cells; rw [show p0 = noRaw from q2] at this; rw [Lib.cell_of_heap this]; rfl
          have pc2 : wr.cell? ⟨L, 2, none⟩ = some (.string ⟨#[]⟩) := by have := HA.out.cells; rw [show p0 = noRaw from q2] at this; rw [Lib.cell_of_heap this]; rfl
          have z1 : (e0 == 0) = false := beq_eq_false_iff_ne.2 q1
          have z2 : (e0 != 0) = true := by rw [bne, z1]; rfl
          have z3 : (e0 == 1) = false := beq_eq_false_iff_ne.2 q0
          clear q1 q0 q2
          have nz : ∀ w, (binOp .neq 24 (.agg #[.bool false, .string ⟨#[]⟩, .string ⟨#[]⟩]) (.agg #[.bool false, .string ⟨#[]⟩, .string ⟨#[]⟩])).run Tryd.prog w = .ok (.bool false) w := fun w => by have := run_neq_rat ⟨false, ⟨#[]⟩, ⟨#[]⟩⟩ ⟨false, ⟨#[]⟩, ⟨#[]⟩⟩ w; rwa [sameR_iff.2 rfl] at this
          go_wp2_with fail
          go_roundw
          case rel => exact ⟨1, by omega, by go_num, Lib.hid (hB.out)⟩
          case measure => simp [intOf]
      ·
        rcases F1.out with ⟨q1, q2, q3⟩ | ⟨q1, q2, q3⟩ | ⟨q1, q0, q2, q3⟩
        ·
          have ec : wr.cell? ⟨E, 1, none⟩ = some (.int .i64 0) := by rw [← show e1 = 0 from q1, Lib.cell_of_heap HEr.out.cells]; rfl
          subst q3
          have HQ := Lib.hid q2; clear q1 q2
          have pc0 : wr.cell? ⟨L, 3, none⟩ = some (.bool p1.neg) := by rw [Lib.cell_of_heap HA.out.cells]; rfl
          have pc1 : wr.cell? ⟨L, 4, none⟩ = some (.string p1.num) := by rw [Lib.cell_of_heap HA.out.cells]; rfl
          have pc2 : wr.cell? ⟨L, 5, none⟩ = some (.string p1.den) := by rw [Lib.cell_of_heap HA.out.cells]; rfl
          go_wp2_with fail
          clear pc0 pc1 pc2 ec
          refine (pratvalid_any p1 _).mono ?_
          rintro e v1 ⟨rfl, hb⟩
          rw [HQ.out]
          have HBB := Lib.hid (hB.out.trans (hb.mono hB.out.size))
          have ec : v1.cell? ⟨E, 1, none⟩ = some (.int .i64 0) := (hb.cell (p := ⟨E, 1, none⟩) (blk_lt HEr.out.cells)).trans (by have := HEr.out.cells; rcases F1.out with ⟨q1, q2, q3⟩ | ⟨q1, q2, q3⟩ | ⟨q1, q0, q2, q3⟩; (rw [← show e1 = 0 from q1, Lib.cell_of_heap this]; rfl); (cases q3); (exact absurd (show okR p1 = false by rw [show p1 = noRaw from q2]; exact okR_no) (by rw [HQ.out]; simp)))
          clear hb
          go_wp2_with fail
          go_roundw
          case rel => exact ⟨2, by omega, by go_num, Lib.hid (HBB.out)⟩
          case measure => simp [intOf]
        ·
          have ec : wr.cell? ⟨E, 1, none⟩ = some (.int .i64 1) := by rw [← show e1 = 1 from q1, Lib.cell_of_heap HEr.out.cells]; rfl
          subst q3
          have pc0 : wr.cell? ⟨L, 3, none⟩ = some (.bool false) := by have := HA.out.cells; rw [show p1 = noRaw from q2] at this; rw [Lib.cell_of_heap this]; rfl
          have pc1 : wr.cell? ⟨L, 4, none⟩ = some (.string ⟨#[]⟩) := by have := HA.out.cells; rw [show p1 = noRaw from q2] at this; rw [Lib.cell_of_heap this]; rfl
          have pc2 : wr.cell? ⟨L, 5, none⟩ = some (.string ⟨#[]⟩) := by have := HA.out.cells; rw [show p1 = noRaw from q2] at this; rw [Lib.cell_of_heap this]; rfl
          clear q1 q2
          have nz : ∀ w, (binOp .neq 24 (.agg #[.bool false, .string ⟨#[]⟩, .string ⟨#[]⟩]) (.agg #[.bool false, .string ⟨#[]⟩, .string ⟨#[]⟩])).run Tryd.prog w = .ok (.bool false) w := fun w => by have := run_neq_rat ⟨false, ⟨#[]⟩, ⟨#[]⟩⟩ ⟨false, ⟨#[]⟩, ⟨#[]⟩⟩ w; rwa [sameR_iff.2 rfl] at this
          go_wp2_with fail
          go_roundw
          case rel => exact ⟨2, by omega, by go_num, Lib.hid (hB.out)⟩
          case measure => simp [intOf]
        ·
          have ec : wr.cell? ⟨E, 1, none⟩ = some (.int .i64 e1) := by rw [Lib.cell_of_heap HEr.out.cells]; rfl
          subst q3
          have pc0 : wr.cell? ⟨L, 3, none⟩ = some (.bool false) := by have := HA.out.cells; rw [show p1 = noRaw from q2] at this; rw [Lib.cell_of_heap this]; rfl
          have pc1 : wr.cell? ⟨L, 4, none⟩ = some (.string ⟨#[]⟩) := by have := HA.out.cells; rw [show p1 = noRaw from q2] at this; rw [Lib.cell_of_heap this]; rfl
          have pc2 : wr.cell? ⟨L, 5, none⟩ = some (.string ⟨#[]⟩) := by have := HA.out.cells; rw [show p1 = noRaw from q2] at this; rw [Lib.cell_of_heap this]; rfl
          have z1 : (e1 == 0) = false := beq_eq_false_iff_ne.2 q1
          have z2 : (e1 != 0) = true := by rw [bne, z1]; rfl
          have z3 : (e1 == 1) = false := beq_eq_false_iff_ne.2 q0
          clear q1 q0 q2
          have nz : ∀ w, (binOp .neq 24 (.agg #[.bool false, .string ⟨#[]⟩, .string ⟨#[]⟩]) (.agg #[.bool false, .string ⟨#[]⟩, .string ⟨#[]⟩])).run Tryd.prog w = .ok (.bool false) w := fun w => by have := run_neq_rat ⟨false, ⟨#[]⟩, ⟨#[]⟩⟩ ⟨false, ⟨#[]⟩, ⟨#[]⟩⟩ w; rwa [sameR_iff.2 rfl] at this
          go_wp2_with fail
          go_roundw
          case rel => exact ⟨2, by omega, by go_num, Lib.hid (hB.out)⟩
          case measure => simp [intOf]
      ·
        rcases F2.out with ⟨q1, q2, q3⟩ | ⟨q1, q2, q3⟩ | ⟨q1, q0, q2, q3⟩
        ·
          have ec : wr.cell? ⟨E, 2, none⟩ = some (.int .i64 0) := by rw [← show e2 = 0 from q1, Lib.cell_of_heap HEr.out.cells]; rfl
          subst q3
          have HQ := Lib.hid q2; clear q1 q2
          have pc0 : wr.cell? ⟨L, 6, none⟩ = some (.bool p2.neg) := by rw [Lib.cell_of_heap HA.out.cells]; rfl
          have pc1 : wr.cell? ⟨L, 7, none⟩ = some (.string p2.num) := by rw [Lib.cell_of_heap HA.out.cells]; rfl
          have pc2 : wr.cell? ⟨L, 8, none⟩ = some (.string p2.den) := by rw [Lib.cell_of_heap HA.out.cells]; rfl
          go_wp2_with fail
          clear pc0 pc1 pc2 ec
          refine (pratvalid_any p2 _).mono ?_
          rintro e v1 ⟨rfl, hb⟩
          rw [HQ.out]
          have HBB := Lib.hid (hB.out.trans (hb.mono hB.out.size))
          have ec : v1.cell? ⟨E, 2, none⟩ = some (.int .i64 0) := (hb.cell (p := ⟨E, 2, none⟩) (blk_lt HEr.out.cells)).trans (by have := HEr.out.cells; rcases F2.out with ⟨q1, q2, q3⟩ | ⟨q1, q2, q3⟩ | ⟨q1, q0, q2, q3⟩; (rw [← show e2 = 0 from q1, Lib.cell_of_heap this]; rfl); (cases q3); (exact absurd (show okR p2 = false by rw [show p2 = noRaw from q2]; exact okR_no) (by rw [HQ.out]; simp)))
          clear hb
          go_wp2_with fail
          go_roundw
          case rel => exact ⟨3, by omega, by go_num, Lib.hid (HBB.out)⟩
          case measure => simp [intOf]
        ·
          have ec : wr.cell? ⟨E, 2, none⟩ = some (.int .i64 1) := by rw [← show e2 = 1 from q1, Lib.cell_of_heap HEr.out.cells]; rfl
          subst q3
          have pc0 : wr.cell? ⟨L, 6, none⟩ = some (.bool false) := by have := HA.out.cells; rw [show p2 = noRaw from q2] at this; rw [Lib.cell_of_heap this]; rfl
          have pc1 : wr.cell? ⟨L, 7, none⟩ = some (.string ⟨#[]⟩) := by have := HA.out.cells; rw [show p2 = noRaw from q2] at this; rw [Lib.cell_of_heap this]; rfl
          have pc2 : wr.cell? ⟨L, 8, none⟩ = some (.string ⟨#[]⟩) := by have := HA.out.cells; rw [show p2 = noRaw from q2] at this; rw [Lib.cell_of_heap this]; rfl
          clear q1 q2
          have nz : ∀ w, (binOp .neq 24 (.agg #[.bool false, .string ⟨#[]⟩, .string ⟨#[]⟩]) (.agg #[.bool false, .string ⟨#[]⟩, .string ⟨#[]⟩])).run Tryd.prog w = .ok (.bool false) w := fun w => by have := run_neq_rat ⟨false, ⟨#[]⟩, ⟨#[]⟩⟩ ⟨false, ⟨#[]⟩, ⟨#[]⟩⟩ w; rwa [sameR_iff.2 rfl] at this
          go_wp2_with fail
          go_roundw
          case rel => exact ⟨3, by omega, by go_num, Lib.hid (hB.out)⟩
          case measure => simp [intOf]
        ·
          have ec : wr.cell? ⟨E, 2, none⟩ = some (.int .i64 e2) := by rw [Lib.cell_of_heap HEr.out.cells]; rfl
          subst q3
          have pc0 : wr.cell? ⟨L, 6, none⟩ = some (.bool false) := by have := HA.out.cells; rw [show p2 = noRaw from q2] at this; rw [Lib.cell_of_heap this]; rfl
          have pc1 : wr.cell? ⟨L, 7, none⟩ = some (.string ⟨#[]⟩) := by have := HA.out.cells; rw [show p2 = noRaw from q2] at this; rw [Lib.cell_of_heap this]; rfl
          have pc2 : wr.cell? ⟨L, 8, none⟩ = some (.string ⟨#[]⟩) := by have := HA.out.cells; rw [show p2 = noRaw from q2] at this; rw [Lib.cell_of_heap this]; rfl
          have z1 : (e2 == 0) = false := beq_eq_false_iff_ne.2 q1
          have z2 : (e2 != 0) = true := by rw [bne, z1]; rfl
          have z3 : (e2 == 1) = false := beq_eq_false_iff_ne.2 q0
          clear q1 q0 q2
          have nz : ∀ w, (binOp .neq 24 (.agg #[.bool false, .string ⟨#[]⟩, .string ⟨#[]⟩]) (.agg #[.bool false, .string ⟨#[]⟩, .string ⟨#[]⟩])).run Tryd.prog w = .ok (.bool false) w := fun w => by have := run_neq_rat ⟨false, ⟨#[]⟩, ⟨#[]⟩⟩ ⟨false, ⟨#[]⟩, ⟨#[]⟩⟩ w; rwa [sameR_iff.2 rfl] at this
          go_wp2_with fail
          go_roundw
          case rel => exact ⟨3, by omega, by go_num, Lib.hid (hB.out)⟩
          case measure => simp [intOf]
      ·
        rcases F3.out with ⟨q1, q2, q3⟩ | ⟨q1, q2, q3⟩ | ⟨q1, q0, q2, q3⟩
        ·
          have ec : wr.cell? ⟨E, 3, none⟩ = some (.int .i64 0) := by rw [← show e3 = 0 from q1, Lib.cell_of_heap HEr.out.cells]; rfl
          subst q3
          have HQ := Lib.hid q2; clear q1 q2
          have pc0 : wr.cell? ⟨L, 9, none⟩ = some (.bool p3.neg) := by rw [Lib.cell_of_heap HA.out.cells]; rfl
          have pc1 : wr.cell? ⟨L, 10, none⟩ = some (.string p3.num) := by rw [Lib.cell_of_heap HA.out.cells]; rfl
          have pc2 : wr.cell? ⟨L, 11, none⟩ = some (.string p3.den) := by rw [Lib.cell_of_heap HA.out.cells]; rfl
          go_wp2_with fail
          clear pc0 pc1 pc2 ec
          refine (pratvalid_any p3 _).mono ?_
          rintro e v1 ⟨rfl, hb⟩
          rw [HQ.out]
          have HBB := Lib.hid (hB.out.trans (hb.mono hB.out.size))
          have ec : v1.cell? ⟨E, 3, none⟩ = some (.int .i64 0) := (hb.cell (p := ⟨E, 3, none⟩) (blk_lt HEr.out.cells)).trans (by have := HEr.out.cells; rcases F3.out with ⟨q1, q2, q3⟩ | ⟨q1, q2, q3⟩ | ⟨q1, q0, q2, q3⟩; (rw [← show e3 = 0 from q1, Lib.cell_of_heap this]; rfl); (cases q3); (exact absurd (show okR p3 = false by rw [show p3 = noRaw from q2]; exact okR_no) (by rw [HQ.out]; simp)))
          clear hb
          go_wp2_with fail
          go_roundw
          case rel => exact ⟨4, by omega, by go_num, Lib.hid (HBB.out)⟩
          case measure => simp [intOf]
        ·
          have ec : wr.cell? ⟨E, 3, none⟩ = some (.int .i64 1) := by rw [← show e3 = 1 from q1, Lib.cell_of_heap HEr.out.cells]; rfl
          subst q3
          have pc0 : wr.cell? ⟨L, 9, none⟩ = some (.bool false) := by have := HA.out.cells; rw [show p3 = noRaw from q2] at this; rw [Lib.cell_of_heap this]; rfl
          have pc1 : wr.cell? ⟨L, 10, none⟩ = some (.string ⟨#[]⟩) := by have := HA.out.cells; rw [show p3 = noRaw from q2] at this; rw [Lib.cell_of_heap this]; rfl
          have pc2 : wr.cell? ⟨L, 11, none⟩ = some (.string ⟨#[]⟩) := by have := HA.out.cells; rw [show p3 = noRaw from q2] at this; rw [Lib.cell_of_heap this]; rfl
          clear q1 q2
          have nz : ∀ w, (binOp .neq 24 (.agg #[.bool false, .string ⟨#[]⟩, .string ⟨#[]⟩]) (.agg #[.bool false, .string ⟨#[]⟩, .string ⟨#[]⟩])).run Tryd.prog w = .ok (.bool false) w := fun w => by have := run_neq_rat ⟨false, ⟨#[]⟩, ⟨#[]⟩⟩ ⟨false, ⟨#[]⟩, ⟨#[]⟩⟩ w; rwa [sameR_iff.2 rfl] at this
          go_wp2_with fail
          go_roundw
          case rel => exact ⟨4, by omega, by go_num, Lib.hid (hB.out)⟩
          case measure => simp [intOf]
        ·
          have ec : wr.cell? ⟨E, 3, none⟩ = some (.int .i64 e3) := by rw [Lib.cell_of_heap HEr.out.cells]; rfl
          subst q3
          have pc0 : wr.cell? ⟨L, 9, none⟩ = some (.bool false) := by have := HA.out.cells; rw [show p3 = noRaw from q2] at this; rw [Lib.cell_of_heap this]; rfl
          have pc1 : wr.cell? ⟨L, 10, none⟩ = some (.string ⟨#[]⟩) := by have := HA.out.cells; rw [show p3 = noRaw from q2] at this; rw [Lib.cell_of_heap this]; rfl
          have pc2 : wr.cell? ⟨L, 11, none⟩ = some (.string ⟨#[]⟩) := by have := HA.out.cells; rw [show p3 = noRaw from q2] at this; rw [Lib.cell_of_heap this]; rfl
          have z1 : (e3 == 0) = false := beq_eq_false_iff_ne.2 q1
          have z2 : (e3 != 0) = true := by rw [bne, z1]; rfl
          have z3 : (e3 == 1) = false := beq_eq_false_iff_ne.2 q0
          clear q1 q0 q2
          have nz : ∀ w, (binOp .neq 24 (.agg #[.bool false, .string ⟨#[]⟩, .string ⟨#[]⟩]) (.agg #[.bool false, .string ⟨#[]⟩, .string ⟨#[]⟩])).run Tryd.prog w = .ok (.bool false) w := fun w => by have := run_neq_rat ⟨false, ⟨#[]⟩, ⟨#[]⟩⟩ ⟨false, ⟨#[]⟩, ⟨#[]⟩⟩ w; rwa [sameR_iff.2 rfl] at this
          go_wp2_with fail
          go_roundw
          case rel => exact ⟨4, by omega, by go_num, Lib.hid (hB.out)⟩
          case measure => simp [intOf]
      ·
        rcases F4.out with ⟨yz, q1⟩ | ⟨yz, r, q1, q2⟩
        ·
          have ec : wr.cell? ⟨E, 4, none⟩ = some (.int .i64 14) := by rw [← show e4 = 14 from congrArg Prod.snd q1, Lib.cell_of_heap HEr.out.cells]; rfl
          have pc0 : wr.cell? ⟨L, 12, none⟩ = some (.bool false) := by have := HA.out.cells; rw [show p4 = noRaw from congrArg Prod.fst q1] at this; rw [Lib.cell_of_heap this]; rfl
          have pc1 : wr.cell? ⟨L, 13, none⟩ = some (.string ⟨#[]⟩) := by have := HA.out.cells; rw [show p4 = noRaw from congrArg Prod.fst q1] at this; rw [Lib.cell_of_heap this]; rfl
          have pc2 : wr.cell? ⟨L, 14, none⟩ = some (.string ⟨#[]⟩) := by have := HA.out.cells; rw [show p4 = noRaw from congrArg Prod.fst q1] at this; rw [Lib.cell_of_heap this]; rfl
          clear q1 yz
          have nz : ∀ w, (binOp .neq 24 (.agg #[.bool false, .string ⟨#[]⟩, .string ⟨#[]⟩]) (.agg #[.bool false, .string ⟨#[]⟩, .string ⟨#[]⟩])).run Tryd.prog w = .ok (.bool false) w := fun w => by have := run_neq_rat ⟨false, ⟨#[]⟩, ⟨#[]⟩⟩ ⟨false, ⟨#[]⟩, ⟨#[]⟩⟩ w; rwa [sameR_iff.2 rfl] at this
          go_wp2_with fail
          go_roundw
          case rel => exact ⟨5, by omega, by go_num, Lib.hid (hB.out)⟩
          case measure => simp [intOf]
        ·
          have ec : wr.cell? ⟨E, 4, none⟩ = some (.int .i64 0) := by rw [← show e4 = 0 from congrArg Prod.snd q1, Lib.cell_of_heap HEr.out.cells]; rfl
          have HQ : Hid (okR p4 = true) := Lib.hid (by rw [show p4 = r from congrArg Prod.fst q1]; exact q2)
          clear q1 q2 yz
          have pc0 : wr.cell? ⟨L, 12, none⟩ = some (.bool p4.neg) := by rw [Lib.cell_of_heap HA.out.cells]; rfl
          have pc1 : wr.cell? ⟨L, 13, none⟩ = some (.string p4.num) := by rw [Lib.cell_of_heap HA.out.cells]; rfl
          have pc2 : wr.cell? ⟨L, 14, none⟩ = some (.string p4.den) := by rw [Lib.cell_of_heap HA.out.cells]; rfl
          go_wp2_with fail
          clear pc0 pc1 pc2 ec
          refine (pratvalid_any p4 _).mono ?_
          rintro e v1 ⟨rfl, hb⟩
          rw [HQ.out]
          have HBB := Lib.hid (hB.out.trans (hb.mono hB.out.size))
          have ec : v1.cell? ⟨E, 4, none⟩ = some (.int .i64 0) := (hb.cell (p := ⟨E, 4, none⟩) (blk_lt HEr.out.cells)).trans (by have := HEr.out.cells; rcases F4.out with ⟨yz, q1⟩ | ⟨yz, r, q1, q2⟩; (exact absurd (show okR p4 = false by rw [show p4 = noRaw from congrArg Prod.fst q1]; exact okR_no) (by rw [HQ.out]; simp)); (rw [← show e4 = 0 from congrArg Prod.snd q1, Lib.cell_of_heap this]; rfl))
          clear hb
          go_wp2_with fail
          go_roundw
          case rel => exact ⟨5, by omega, by go_num, Lib.hid (HBB.out)⟩
          case measure => simp [intOf]
      ·
        rcases F4.out with ⟨yz, q1⟩ | ⟨yz, r, q1, q2⟩
        ·
          have ec : wr.cell? ⟨E, 4, none⟩ = some (.int .i64 14) := by rw [← show e4 = 14 from congrArg Prod.snd q1, Lib.cell_of_heap HEr.out.cells]; rfl
          have y1 : (y == 0) = true := by rw [yz]; rfl
          clear q1 yz
          go_wp2_with fail
          go_ret
          exact ⟨rfl, DD.out⟩
        ·
          have ec : wr.cell? ⟨E, 4, none⟩ = some (.int .i64 0) := by rw [← show e4 = 0 from congrArg Prod.snd q1, Lib.cell_of_heap HEr.out.cells]; rfl
          have y1 : (y == 0) = false := beq_eq_false_iff_ne.2 yz
          clear q1 yz q2
          go_wp2_with fail
          go_ret
          exact ⟨rfl, DD.out⟩
end Go.Proofs.YthpghjklnkdmfaaDoor
