/-
  The chapter's examples (layer 10).
-/
import Derived.Test.YtaebejhncjadhaaSkProg
set_option linter.unusedVariables false
set_option maxRecDepth 100000
namespace Go.Proofs.Ytaebejhncjadhaa.Sk
open Go.RowKit
theorem ex_til1 : tilA 5759 0 = (31, 0) := by decide
theorem ex_til2 : tilA 180 360 = (65, 0) := by decide
theorem ex_cel1 : celA 5759 0 = (1, 0) := by decide
theorem ex_cel2 : celA 180 450 = (2, 0) := by decide
theorem ex_cen : cenA 65 = (270, 450, 0) := by decide
theorem ex_dis1 : disA 0 31 = (1, 0) := by decide
theorem ex_dis2 : disA 0 16 = (16, 0) := by decide
theorem ex_dis3 : disA 0 511 = (15, 0) := by decide
theorem ex_nea : neaA 0 1 = ([0, 1, 31, 32, 33, 63], 0) := by decide +kernel
theorem list_six (w : World) : ListAt (w.alloc (Obj.cells #[.int .i64 0, .int .i64 1, .int .i64 31, .int .i64 32, .int .i64 33, .int .i64 63] 3)) (.slice (some ⟨w.heap.size, 0, none⟩) 6 6) [0, 1, 31, 32, 33, 63] :=
  ⟨⟨_, 6, rfl, by decide, rfl, fun _ => ⟨_, _, rfl, fun j hj => by
    match j, hj with
    | 0, _ => rw [Lib.cell_of_heap (heap_lastS _ _)]; rfl
    | 1, _ => rw [Lib.cell_of_heap (heap_lastS _ _)]; rfl
    | 2, _ => rw [Lib.cell_of_heap (heap_lastS _ _)]; rfl
    | 3, _ => rw [Lib.cell_of_heap (heap_lastS _ _)]; rfl
    | 4, _ => rw [Lib.cell_of_heap (heap_lastS _ _)]; rfl
    | 5, _ => rw [Lib.cell_of_heap (heap_lastS _ _)]; rfl⟩⟩⟩
set_option maxHeartbeats 4000000 in
theorem head_any (w : World) : Calls Try.prog 8 #[] w fun e w' => e = .returned (.bool true) ∧ Below w.heap.size w w' := by
  have c0 : Hid (∀ w, Calls Try.prog 9 #[.agg #[.int .i64 5759, .int .i64 0]] w (GivesN 31 0 w)) := Lib.hid (fun w => by have := pTile_any 5759 0 (by unfold I64; omega) (by unfold I64; omega) w; rwa [ex_til1] at this)
  have c1 : Hid (∀ w, Calls Try.prog 9 #[.agg #[.int .i64 180, .int .i64 360]] w (GivesN 65 0 w)) := Lib.hid (fun w => by have := pTile_any 180 360 (by unfold I64; omega) (by unfold I64; omega) w; rwa [ex_til2] at this)
  have c2 : Hid (∀ w, Calls Try.prog 11 #[.agg #[.int .i64 5759, .int .i64 0]] w (GivesN 1 0 w)) := Lib.hid (fun w => by have := pCell_any 5759 0 (by unfold I64; omega) (by unfold I64; omega) w; rwa [ex_cel1] at this)
  have c3 : Hid (∀ w, Calls Try.prog 11 #[.agg #[.int .i64 180, .int .i64 450]] w (GivesN 2 0 w)) := Lib.hid (fun w => by have := pCell_any 180 450 (by unfold I64; omega) (by unfold I64; omega) w; rwa [ex_cel2] at this)
  have c4 : Hid (∀ w, Calls Try.prog 13 #[.int .i64 65] w (GivesP 270 450 0 w)) := Lib.hid (fun w => by have := pCentre_any 65 (by unfold I64; omega) w; rwa [ex_cen] at this)
  have c5 : Hid (∀ w, Calls Try.prog 15 #[.int .i64 0, .int .i64 31] w (GivesN 1 0 w)) := Lib.hid (fun w => by have := pDistance_any 0 31 (by unfold I64; omega) (by unfold I64; omega) w; rwa [ex_dis1] at this)
  have c6 : Hid (∀ w, Calls Try.prog 15 #[.int .i64 0, .int .i64 16] w (GivesN 16 0 w)) := Lib.hid (fun w => by have := pDistance_any 0 16 (by unfold I64; omega) (by unfold I64; omega) w; rwa [ex_dis2] at this)
  have c7 : Hid (∀ w, Calls Try.prog 15 #[.int .i64 0, .int .i64 511] w (GivesN 15 0 w)) := Lib.hid (fun w => by have := pDistance_any 0 511 (by unfold I64; omega) (by unfold I64; omega) w; rwa [ex_dis3] at this)
  have c8 : Hid (∀ w, Calls Try.prog 17 #[.int .i64 0, .int .i64 1] w (GivesL [0, 1, 31, 32, 33, 63] 0 w)) := Lib.hid (fun w => by have := pNear_any 0 1 (by unfold I64; omega) (by unfold I64; omega) w; rwa [ex_nea] at this)
  have D0 := Lib.hid (Below.refl w.heap.size w)
  go_enter Try.func8, Try.ntmps8
  go_wp2_with fail
  refine (c0.out _).mono ?_
  rintro e w1 ⟨rfl, hb⟩
  have D1 := Lib.hid (D0.out.trans (hb.mono D0.out.size))
  clear hb D0
  go_wp2_with fail
  refine (c1.out _).mono ?_
  rintro e w2 ⟨rfl, hb⟩
  have D2 := Lib.hid (D1.out.trans (hb.mono D1.out.size))
  clear hb D1
  go_wp2_with fail
  refine (c2.out _).mono ?_
  rintro e w3 ⟨rfl, hb⟩
  have D3 := Lib.hid (D2.out.trans (hb.mono D2.out.size))
  clear hb D2
  go_wp2_with fail
  refine (c3.out _).mono ?_
  rintro e w4 ⟨rfl, hb⟩
  have D4 := Lib.hid (D3.out.trans (hb.mono D3.out.size))
  clear hb D3
  go_wp2_with fail
  refine (c4.out _).mono ?_
  rintro e v5 ⟨rfl, hb⟩
  have E5 := Lib.hid (D4.out.trans (hb.mono D4.out.size))
  clear hb D4
  go_wp2_with fail
  obtain ⟨w5, hw5⟩ : ∃ W, W = v5.alloc (Obj.cells #[Value.int .i64 270, Value.int .i64 450] 23) := ⟨_, rfl⟩
  obtain ⟨B, hB⟩ : ∃ B, B = v5.heap.size := ⟨_, rfl⟩
  have hp : PosAt B 270 450 w5 := by rw [hB, hw5]; exact PosAt.new _ _ _
  have P5 := Lib.hid hp
  have D5 : Hid (Below w.heap.size w w5) := Lib.hid (by rw [hw5]; exact E5.out.alloc E5.out.size _)
  rw [← hw5]
  simp only [← hB]
  clear hp hB hw5 E5
  refine (c5.out _).mono ?_
  rintro e w6 ⟨rfl, hb⟩
  have D6 := Lib.hid (D5.out.trans (hb.mono D5.out.size))
  have P6 := Lib.hid (P5.out.bel hb)
  clear hb D5 P5
  go_wp2_with fail
  refine (c6.out _).mono ?_
  rintro e w7 ⟨rfl, hb⟩
  have D7 := Lib.hid (D6.out.trans (hb.mono D6.out.size))
  have P7 := Lib.hid (P6.out.bel hb)
  clear hb D6 P6
  go_wp2_with fail
  refine (c7.out _).mono ?_
  rintro e w8 ⟨rfl, hb⟩
  have D8 := Lib.hid (D7.out.trans (hb.mono D7.out.size))
  have P8 := Lib.hid (P7.out.bel hb)
  clear hb D7 P7
  go_wp2_with fail
  refine (c8.out _).mono ?_
  rintro e w9 ⟨v, rfl, hl, hb⟩
  have D9 := Lib.hid (D8.out.trans (hb.mono D8.out.size))
  have P9 := Lib.hid (P8.out.bel hb)
  have c0 := P9.out.c0
  have c1 := P9.out.c1
  have HL := Lib.hid hl
  clear hb hl
  go_wp2_with fail
  have hb2 : Below w9.heap.size w9 (w9.alloc (Obj.cells #[Value.int .i64 0, Value.int .i64 1, Value.int .i64 31, Value.int .i64 32, Value.int .i64 33, Value.int .i64 63] 3)) := (Below.refl _ _).alloc (Nat.le_refl _) _
  have hI := refInts_any v _ [0, 1, 31, 32, 33, 63] [0, 1, 31, 32, 33, 63] _ (HL.out.bel hb2) (list_six w9) (by decide)
  rw [decide_eq_true rfl] at hI
  have DA := Lib.hid (D9.out.trans (hb2.mono D9.out.size))
  clear hb2
  refine hI.mono ?_
  rintro e wa ⟨rfl, hb⟩
  have DB := Lib.hid (DA.out.trans (hb.mono DA.out.size))
  clear hb hI
  go_wp2_with fail
  go_ret
  exact ⟨rfl, DB.out⟩
end Go.Proofs.Ytaebejhncjadhaa.Sk
