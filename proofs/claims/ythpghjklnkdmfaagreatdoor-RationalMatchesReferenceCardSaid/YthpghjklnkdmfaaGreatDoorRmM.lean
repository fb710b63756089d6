/-
  The check of the chapter's examples in the statements of layer 4: it returns true.
-/
import Derived.Test.YthpghjklnkdmfaaGreatDoorRmL
import Derived.Deep.RegionHeld3
import Derived.Deep.DeepCutAuto
set_option linter.unusedVariables false
set_option maxRecDepth 100000
namespace Go.Proofs.YthpghjklnkdmfaaGreatDoor
open Go.RowKit
open Rt
theorem bcellR {W w1 : World} (hb : Below W.heap.size W w1) : (∀ b o, b < W.heap.size → w1.cell? ⟨b, o, none⟩ = W.cell? ⟨b, o, none⟩) ∧ (∀ b o, b < W.heap.size → w1.frozen? ⟨b, o, none⟩ = W.frozen? ⟨b, o, none⟩) :=
  ⟨fun b o h => hb.cell (p := ⟨b, o, none⟩) h, fun b o h => hb.frozen (p := ⟨b, o, none⟩) h⟩
theorem cell_keep {w w' : World} {b i : Nat} {v : Value} (hb : Below w.heap.size w w') (h : w.cell? ⟨b, i, none⟩ = some v) : w'.cell? ⟨b, i, none⟩ = some v := (hb.cell (p := ⟨b, i, none⟩) (cell_lt h)).trans h
theorem next1 {W w' w'' : World} {b0 : Nat} {x0 y0 z0 : Value} (hb : Below w'.heap.size w' w'') (h : Below W.heap.size W w' ∧ w'.cell? ⟨b0, 0, none⟩ = some x0 ∧ w'.cell? ⟨b0, 1, none⟩ = some y0 ∧ w'.cell? ⟨b0, 2, none⟩ = some z0) : Below W.heap.size W w'' ∧ w''.cell? ⟨b0, 0, none⟩ = some x0 ∧ w''.cell? ⟨b0, 1, none⟩ = some y0 ∧ w''.cell? ⟨b0, 2, none⟩ = some z0 := by
  obtain ⟨h, h0, h1, h2⟩ := h
  exact ⟨h.trans (hb.mono h.size), cell_keep hb h0, cell_keep hb h1, cell_keep hb h2⟩
theorem startn1 {W : World} {b0 : Nat} {r0 : Raw} (h0 : RatAt b0 r0 W) : Below W.heap.size W W.drew ∧ W.drew.cell? ⟨b0, 0, none⟩ = some (.bool r0.neg) ∧ W.drew.cell? ⟨b0, 1, none⟩ = some (.string r0.num) ∧ W.drew.cell? ⟨b0, 2, none⟩ = some (.string r0.den) := by
  have hb : Below W.heap.size W W.drew := (Below.refl _ _).drew
  exact ⟨hb, (h0.bel hb).c0, (h0.bel hb).c1, (h0.bel hb).c2⟩
theorem next2 {W w' w'' : World} {b0 b1 : Nat} {x0 y0 z0 x1 y1 z1 : Value} (hb : Below w'.heap.size w' w'') (h : Below W.heap.size W w' ∧ w'.cell? ⟨b0, 0, none⟩ = some x0 ∧ w'.cell? ⟨b0, 1, none⟩ = some y0 ∧ w'.cell? ⟨b0, 2, none⟩ = some z0 ∧ w'.cell? ⟨b1, 0, none⟩ = some x1 ∧ w'.cell? ⟨b1, 1, none⟩ = some y1 ∧ w'.cell? ⟨b1, 2, none⟩ = some z1) : Below W.heap.size W w'' ∧ w''.cell? ⟨b0, 0, none⟩ = some x0 ∧ w''.cell? ⟨b0, 1, none⟩ = some y0 ∧ w''.cell? ⟨b0, 2, none⟩ = some z0 ∧ w''.cell? ⟨b1, 0, none⟩ = some x1 ∧ w''.cell? ⟨b1, 1, none⟩ = some y1 ∧ w''.cell? ⟨b1, 2, none⟩ = some z1 := by
  obtain ⟨h, h0, h1, h2, h3, h4, h5⟩ := h
  exact ⟨h.trans (hb.mono h.size), cell_keep hb h0, cell_keep hb h1, cell_keep hb h2, cell_keep hb h3, cell_keep hb h4, cell_keep hb h5⟩
theorem startn2 {W : World} {b0 b1 : Nat} {r0 r1 : Raw} (h0 : RatAt b0 r0 W) (h1 : RatAt b1 r1 W) : Below W.heap.size W W.drew ∧ W.drew.cell? ⟨b0, 0, none⟩ = some (.bool r0.neg) ∧ W.drew.cell? ⟨b0, 1, none⟩ = some (.string r0.num) ∧ W.drew.cell? ⟨b0, 2, none⟩ = some (.string r0.den) ∧ W.drew.cell? ⟨b1, 0, none⟩ = some (.bool r1.neg) ∧ W.drew.cell? ⟨b1, 1, none⟩ = some (.string r1.num) ∧ W.drew.cell? ⟨b1, 2, none⟩ = some (.string r1.den) := by
  have hb : Below W.heap.size W W.drew := (Below.refl _ _).drew
  exact ⟨hb, (h0.bel hb).c0, (h0.bel hb).c1, (h0.bel hb).c2, (h1.bel hb).c0, (h1.bel hb).c1, (h1.bel hb).c2⟩
theorem next4 {W w' w'' : World} {b0 b1 b2 b3 : Nat} {x0 y0 z0 x1 y1 z1 x2 y2 z2 x3 y3 z3 : Value} (hb : Below w'.heap.size w' w'') (h : Below W.heap.size W w' ∧ w'.cell? ⟨b0, 0, none⟩ = some x0 ∧ w'.cell? ⟨b0, 1, none⟩ = some y0 ∧ w'.cell? ⟨b0, 2, none⟩ = some z0 ∧ w'.cell? ⟨b1, 0, none⟩ = some x1 ∧ w'.cell? ⟨b1, 1, none⟩ = some y1 ∧ w'.cell? ⟨b1, 2, none⟩ = some z1 ∧ w'.cell? ⟨b2, 0, none⟩ = some x2 ∧ w'.cell? ⟨b2, 1, none⟩ = some y2 ∧ w'.cell? ⟨b2, 2, none⟩ = some z2 ∧ w'.cell? ⟨b3, 0, none⟩ = some x3 ∧ w'.cell? ⟨b3, 1, none⟩ = some y3 ∧ w'.cell? ⟨b3, 2, none⟩ = some z3) : Below W.heap.size W w'' ∧ w''.cell? ⟨b0, 0, none⟩ = some x0 ∧ w''.cell? ⟨b0, 1, none⟩ = some y0 ∧ w''.cell? ⟨b0, 2, none⟩ = some z0 ∧ w''.cell? ⟨b1, 0, none⟩ = some x1 ∧ w''.cell? ⟨b1, 1, none⟩ = some y1 ∧ w''.cell? ⟨b1, 2, none⟩ = some z1 ∧ w''.cell? ⟨b2, 0, none⟩ = some x2 ∧ w''.cell? ⟨b2, 1, none⟩ = some y2 ∧ w''.cell? ⟨b2, 2, none⟩ = some z2 ∧ w''.cell? ⟨b3, 0, none⟩ = some x3 ∧ w''.cell? ⟨b3, 1, none⟩ = some y3 ∧ w''.cell? ⟨b3, 2, none⟩ = some z3 := by
  obtain ⟨h, h0, h1, h2, h3, h4, h5, h6, h7, h8, h9, h10, h11⟩ := h
  exact ⟨h.trans (hb.mono h.size), cell_keep hb h0, cell_keep hb h1, cell_keep hb h2, cell_keep hb h3, cell_keep hb h4, cell_keep hb h5, cell_keep hb h6, cell_keep hb h7, cell_keep hb h8, cell_keep hb h9, cell_keep hb h10, cell_keep hb h11⟩
theorem startn4 {W : World} {b0 b1 b2 b3 : Nat} {r0 r1 r2 r3 : Raw} (h0 : RatAt b0 r0 W) (h1 : RatAt b1 r1 W) (h2 : RatAt b2 r2 W) (h3 : RatAt b3 r3 W) : Below W.heap.size W W.drew ∧ W.drew.cell? ⟨b0, 0, none⟩ = some (.bool r0.neg) ∧ W.drew.cell? ⟨b0, 1, none⟩ = some (.string r0.num) ∧ W.drew.cell? ⟨b0, 2, none⟩ = some (.string r0.den) ∧ W.drew.cell? ⟨b1, 0, none⟩ = some (.bool r1.neg) ∧ W.drew.cell? ⟨b1, 1, none⟩ = some (.string r1.num) ∧ W.drew.cell? ⟨b1, 2, none⟩ = some (.string r1.den) ∧ W.drew.cell? ⟨b2, 0, none⟩ = some (.bool r2.neg) ∧ W.drew.cell? ⟨b2, 1, none⟩ = some (.string r2.num) ∧ W.drew.cell? ⟨b2, 2, none⟩ = some (.string r2.den) ∧ W.drew.cell? ⟨b3, 0, none⟩ = some (.bool r3.neg) ∧ W.drew.cell? ⟨b3, 1, none⟩ = some (.string r3.num) ∧ W.drew.cell? ⟨b3, 2, none⟩ = some (.string r3.den) := by
  have hb : Below W.heap.size W W.drew := (Below.refl _ _).drew
  exact ⟨hb, (h0.bel hb).c0, (h0.bel hb).c1, (h0.bel hb).c2, (h1.bel hb).c0, (h1.bel hb).c1, (h1.bel hb).c2, (h2.bel hb).c0, (h2.bel hb).c1, (h2.bel hb).c2, (h3.bel hb).c0, (h3.bel hb).c1, (h3.bel hb).c2⟩
theorem from1 {W w' : World} {b0 B : Nat} {r0 : Raw} {u0 u1 u2 : Value} (h0 : RatAt b0 r0 W) (hB : W.heap.size ≤ B) (hb : Below W.heap.size W w') :
    Below W.heap.size W (((w'.setCell ⟨B, 0, none⟩ u0).setCell ⟨B, 1, none⟩ u1).setCell ⟨B, 2, none⟩ u2) ∧ (((w'.setCell ⟨B, 0, none⟩ u0).setCell ⟨B, 1, none⟩ u1).setCell ⟨B, 2, none⟩ u2).cell? ⟨b0, 0, none⟩ = some (.bool r0.neg) ∧ (((w'.setCell ⟨B, 0, none⟩ u0).setCell ⟨B, 1, none⟩ u1).setCell ⟨B, 2, none⟩ u2).cell? ⟨b0, 1, none⟩ = some (.string r0.num) ∧ (((w'.setCell ⟨B, 0, none⟩ u0).setCell ⟨B, 1, none⟩ u1).setCell ⟨B, 2, none⟩ u2).cell? ⟨b0, 2, none⟩ = some (.string r0.den) := by
  have hb' : Below W.heap.size W (((w'.setCell ⟨B, 0, none⟩ u0).setCell ⟨B, 1, none⟩ u1).setCell ⟨B, 2, none⟩ u2) := ((hb.setCell (p := ⟨B, 0, none⟩) hB _).setCell (p := ⟨B, 1, none⟩) hB _).setCell (p := ⟨B, 2, none⟩) hB _
  exact ⟨hb', (h0.bel hb').c0, (h0.bel hb').c1, (h0.bel hb').c2⟩
/-- the texts that Parse refuses, in memory -/
structure RefAt (w : World) (b : Nat) : Prop where
  cells : ∀ k (h : k < refusedL.length), w.cell? ⟨b, k, none⟩ = some (.string refusedL[k])
theorem refAt_new (w : World) : RefAt (w.alloc (Obj.cells #[Value.string ⟨#[54, 47, 56]⟩, Value.string ⟨#[53, 47, 49]⟩, Value.string ⟨#[45, 48]⟩, Value.string ⟨#[]⟩, Value.string ⟨#[49, 47, 48]⟩, Value.string ⟨#[47, 50]⟩, Value.string ⟨#[48, 49]⟩] 9)) w.heap.size := by
  refine ⟨fun k h => ?_⟩
  match k, h with
  | 0, _ => simp [refusedL]
  | 1, _ => simp [refusedL]
  | 2, _ => simp [refusedL]
  | 3, _ => simp [refusedL]
  | 4, _ => simp [refusedL]
  | 5, _ => simp [refusedL]
  | 6, _ => simp [refusedL]
theorem RefAt.bel {w w' : World} {b : Nat} (h : RefAt w b) (hb : Below w.heap.size w w') : RefAt w' b := ⟨fun k hk => cell_keep hb (h.cells k hk)⟩
theorem RefAt.get {w : World} {b : Nat} (h : RefAt w b) (k : Nat) (hk : k < 7) : ∃ t, w.cell? ⟨b, k, none⟩ = some (.string t) ∧ parseE t = (noRaw, 5) ∧ t.size ≤ maxLen := by
  refine ⟨_, h.cells k hk, x_refused _ (List.getElem_mem _), ?_⟩
  have : ∀ t ∈ refusedL, t.size ≤ 3 := by
    intro t ht
    simp only [refusedL, List.mem_cons, List.not_mem_nil, or_false] at ht
    rcases ht with rfl | rfl | rfl | rfl | rfl | rfl | rfl <;> decide
  exact Nat.le_trans (this _ (List.getElem_mem _)) (by decide)
set_option maxRecDepth 100000 in
set_option maxHeartbeats 8000000 in
theorem head4_any (w : World) (ht : TabOk w) : Calls Tryz.prog 5 #[] w fun e w' => e = .returned (.bool true) ∧ Below w.heap.size w w' := by
  have HT := Lib.hid ht
  clear ht
  have D0 := Lib.hid (Below.refl w.heap.size w)
  go_enter Tryz.func5, Tryz.ntmps5
  go_wp2_with fail
  refine (prat_any _ _ _ _).mono ?_
  rintro e v1 ⟨rfl, hb⟩
  have D1 := Lib.hid (D0.out.trans (hb.mono D0.out.size))
  clear hb
  go_wp2_with fail
  refine (prat_any _ _ _ _).mono ?_
  rintro e v2 ⟨rfl, hb⟩
  have D2 := Lib.hid (D1.out.trans (hb.mono D1.out.size))
  clear D1
  clear hb
  go_wp2_with fail
  obtain ⟨B1, hB1⟩ : ∃ B, B = v2.heap.size := ⟨_, rfl⟩
  obtain ⟨W1_0, hW1_0⟩ : ∃ W, W = v2.alloc (Obj.cells #[Value.bool false, Value.string ⟨#[49]⟩, Value.string ⟨#[50]⟩] 24) := ⟨_, rfl⟩
  have hb : Below v2.heap.size v2 W1_0 := by rw [hW1_0]; exact (Below.refl _ _).alloc (Nat.le_refl _) _
  have hzW1_0 : v2.heap.size = B1 := by rw [hB1]
  have hlW1_0 : RatAt (B1) ⟨false, ⟨#[49]⟩, ⟨#[50]⟩⟩ W1_0 := by rw [← hzW1_0, hW1_0]; exact ⟨heap_lastM _ _⟩
  have D3 := Lib.hid (D2.out.trans (hb.mono D2.out.size))
  clear D2
  clear hb
  have half_3 := Lib.hid hlW1_0
  clear hlW1_0
  obtain ⟨W1_1, hW1_1⟩ : ∃ W, W = W1_0.alloc (Obj.cells #[Value.bool false, Value.string ⟨#[49]⟩, Value.string ⟨#[51]⟩] 24) := ⟨_, rfl⟩
  have hb : Below W1_0.heap.size W1_0 W1_1 := by rw [hW1_1]; exact (Below.refl _ _).alloc (Nat.le_refl _) _
  have hzW1_1 : W1_0.heap.size = B1 + 1 := by rw [hW1_0]; simp [hzW1_0]
  have hlW1_1 : RatAt (B1 + 1) ⟨false, ⟨#[49]⟩, ⟨#[51]⟩⟩ W1_1 := by rw [← hzW1_1, hW1_1]; exact ⟨heap_lastM _ _⟩
  have D4 := Lib.hid (D3.out.trans (hb.mono D3.out.size))
  have half_4 := Lib.hid (half_3.out.bel hb)
  clear D3 half_3
  clear hb
  have third_4 := Lib.hid hlW1_1
  clear hlW1_1
  rw [← hW1_0]
  rw [← hW1_1]
  simp only [← hB1]
  have HW1_0 := Lib.hid hW1_0
  clear hW1_0 hzW1_0
  have HW1_1 := Lib.hid hW1_1
  clear hW1_1 hzW1_1
  have HB1 := Lib.hid hB1
  clear hB1
  refine (pof_any (6) (-8) _ (by decide) (by decide) (by decide) (by decide) (HT.out.below D4.out)).mono ?_
  rintro e v5 ⟨rfl, hb⟩
  have D5 := Lib.hid (D4.out.trans (hb.mono D4.out.size))
  have half_5 := Lib.hid (half_4.out.bel hb)
  have third_5 := Lib.hid (third_4.out.bel hb)
  clear D4 half_4 third_4
  clear hb
  simp only [x_of1]
  go_wp2_with fail
  obtain ⟨B2, hB2⟩ : ∃ B, B = v5.heap.size := ⟨_, rfl⟩
  obtain ⟨W2_0, hW2_0⟩ : ∃ W, W = v5.alloc (Obj.cells #[Value.bool true, Value.string ⟨#[51]⟩, Value.string ⟨#[52]⟩] 24) := ⟨_, rfl⟩
  have hb : Below v5.heap.size v5 W2_0 := by rw [hW2_0]; exact (Below.refl _ _).alloc (Nat.le_refl _) _
  have hzW2_0 : v5.heap.size = B2 := by rw [hB2]
  have hlW2_0 : RatAt (B2) ⟨true, ⟨#[51]⟩, ⟨#[52]⟩⟩ W2_0 := by rw [← hzW2_0, hW2_0]; exact ⟨heap_lastM _ _⟩
  have D6 := Lib.hid (D5.out.trans (hb.mono D5.out.size))
  have half_6 := Lib.hid (half_5.out.bel hb)
  have third_6 := Lib.hid (third_5.out.bel hb)
  clear D5 half_5 third_5
  clear hb
  have a_6 := Lib.hid hlW2_0
  clear hlW2_0
  rw [← hW2_0]
  simp only [← hB2]
  have HW2_0 := Lib.hid hW2_0
  clear hW2_0 hzW2_0
  have HB2 := Lib.hid hB2
  clear hB2
  refine (pof_any (0) (-5) _ (by decide) (by decide) (by decide) (by decide) (HT.out.below D6.out)).mono ?_
  rintro e v7 ⟨rfl, hb⟩
  have D7 := Lib.hid (D6.out.trans (hb.mono D6.out.size))
  have half_7 := Lib.hid (half_6.out.bel hb)
  have third_7 := Lib.hid (third_6.out.bel hb)
  have a_7 := Lib.hid (a_6.out.bel hb)
  clear D6 half_6 third_6 a_6
  clear hb
  simp only [x_of2]
  go_wp2_with fail
  obtain ⟨B3, hB3⟩ : ∃ B, B = v7.heap.size := ⟨_, rfl⟩
  obtain ⟨W3_0, hW3_0⟩ : ∃ W, W = v7.alloc (Obj.cells #[Value.bool false, Value.string ⟨#[48]⟩, Value.string ⟨#[49]⟩] 24) := ⟨_, rfl⟩
  have hb : Below v7.heap.size v7 W3_0 := by rw [hW3_0]; exact (Below.refl _ _).alloc (Nat.le_refl _) _
  have hzW3_0 : v7.heap.size = B3 := by rw [hB3]
  have hlW3_0 : RatAt (B3) ⟨false, ⟨#[48]⟩, ⟨#[49]⟩⟩ W3_0 := by rw [← hzW3_0, hW3_0]; exact ⟨heap_lastM _ _⟩
  have D8 := Lib.hid (D7.out.trans (hb.mono D7.out.size))
  have half_8 := Lib.hid (half_7.out.bel hb)
  have third_8 := Lib.hid (third_7.out.bel hb)
  have a_8 := Lib.hid (a_7.out.bel hb)
  clear D7 half_7 third_7 a_7
  clear hb
  have b_8 := Lib.hid hlW3_0
  clear hlW3_0
  rw [← hW3_0]
  simp only [← hB3]
  have HW3_0 := Lib.hid hW3_0
  clear hW3_0 hzW3_0
  have HB3 := Lib.hid hB3
  clear hB3
  refine (pof_any (1) (0) _ (by decide) (by decide) (by decide) (by decide) (HT.out.below D8.out)).mono ?_
  rintro e v9 ⟨rfl, hb⟩
  have D9 := Lib.hid (D8.out.trans (hb.mono D8.out.size))
  have half_9 := Lib.hid (half_8.out.bel hb)
  have third_9 := Lib.hid (third_8.out.bel hb)
  have a_9 := Lib.hid (a_8.out.bel hb)
  have b_9 := Lib.hid (b_8.out.bel hb)
  clear D8 half_8 third_8 a_8 b_8
  clear hb
  simp only [x_of3]
  have halfc0 := half_9.out.c0
  have halfc1 := half_9.out.c1
  have halfc2 := half_9.out.c2
  have halfz := blk_lt half_9.out.cells
  have thirdc0 := third_9.out.c0
  have thirdc1 := third_9.out.c1
  have thirdc2 := third_9.out.c2
  have thirdz := blk_lt third_9.out.cells
  simp only [noRaw]
  go_wp2_with fail
  obtain ⟨B4, hB4⟩ : ∃ B, B = v9.heap.size := ⟨_, rfl⟩
  obtain ⟨W4_0, hW4_0⟩ : ∃ W, W = v9.alloc (Obj.cells #[Value.bool false, Value.string ⟨#[]⟩, Value.string ⟨#[]⟩] 24) := ⟨_, rfl⟩
  have hb : Below v9.heap.size v9 W4_0 := by rw [hW4_0]; exact (Below.refl _ _).alloc (Nat.le_refl _) _
  have hzW4_0 : v9.heap.size = B4 := by rw [hB4]
  have D10 := Lib.hid (D9.out.trans (hb.mono D9.out.size))
  have half_10 := Lib.hid (half_9.out.bel hb)
  have third_10 := Lib.hid (third_9.out.bel hb)
  have a_10 := Lib.hid (a_9.out.bel hb)
  have b_10 := Lib.hid (b_9.out.bel hb)
  clear D9 half_9 third_9 a_9 b_9
  clear hb
  rw [← hW4_0]
  simp only [← hB4]
  have HW4_0 := Lib.hid hW4_0
  clear hW4_0 hzW4_0
  have HB4 := Lib.hid hB4
  clear hB4
  clear halfc0 halfc1 halfc2 halfz thirdc0 thirdc1 thirdc2 thirdz
  refine (pratadd_any ⟨false, ⟨#[49]⟩, ⟨#[50]⟩⟩ ⟨false, ⟨#[49]⟩, ⟨#[51]⟩⟩ _).mono ?_
  rintro e v11 ⟨rfl, hb⟩
  have D11 := Lib.hid (D10.out.trans (hb.mono D10.out.size))
  have half_11 := Lib.hid (half_10.out.bel hb)
  have third_11 := Lib.hid (third_10.out.bel hb)
  have a_11 := Lib.hid (a_10.out.bel hb)
  have b_11 := Lib.hid (b_10.out.bel hb)
  clear D10 half_10 third_10 a_10 b_10
  clear hb
  simp only [x_add]
  have halfc0 := half_11.out.c0
  have halfc1 := half_11.out.c1
  have halfc2 := half_11.out.c2
  have halfz := blk_lt half_11.out.cells
  go_wp2_with fail
  obtain ⟨B5, hB5⟩ : ∃ B, B = v11.heap.size := ⟨_, rfl⟩
  obtain ⟨W5_0, hW5_0⟩ : ∃ W, W = v11.alloc (Obj.cells #[Value.bool false, Value.string ⟨#[53]⟩, Value.string ⟨#[54]⟩] 24) := ⟨_, rfl⟩
  have hb : Below v11.heap.size v11 W5_0 := by rw [hW5_0]; exact (Below.refl _ _).alloc (Nat.le_refl _) _
  have hzW5_0 : v11.heap.size = B5 := by rw [hB5]
  have hlW5_0 : RatAt (B5) ⟨false, ⟨#[53]⟩, ⟨#[54]⟩⟩ W5_0 := by rw [← hzW5_0, hW5_0]; exact ⟨heap_lastM _ _⟩
  have D12 := Lib.hid (D11.out.trans (hb.mono D11.out.size))
  have half_12 := Lib.hid (half_11.out.bel hb)
  have third_12 := Lib.hid (third_11.out.bel hb)
  have a_12 := Lib.hid (a_11.out.bel hb)
  have b_12 := Lib.hid (b_11.out.bel hb)
  clear D11 half_11 third_11 a_11 b_11
  clear hb
  have c_12 := Lib.hid hlW5_0
  clear hlW5_0
  rw [← hW5_0]
  simp only [← hB5]
  have HW5_0 := Lib.hid hW5_0
  clear hW5_0 hzW5_0
  have HB5 := Lib.hid hB5
  clear hB5
  clear halfc0 halfc1 halfc2 halfz
  refine (pratsub_any ⟨false, ⟨#[49]⟩, ⟨#[50]⟩⟩ ⟨false, ⟨#[49]⟩, ⟨#[50]⟩⟩ _).mono ?_
  rintro e v13 ⟨rfl, hb⟩
  have D13 := Lib.hid (D12.out.trans (hb.mono D12.out.size))
  have half_13 := Lib.hid (half_12.out.bel hb)
  have third_13 := Lib.hid (third_12.out.bel hb)
  have a_13 := Lib.hid (a_12.out.bel hb)
  have b_13 := Lib.hid (b_12.out.bel hb)
  have c_13 := Lib.hid (c_12.out.bel hb)
  clear D12 half_12 third_12 a_12 b_12 c_12
  clear hb
  simp only [x_sub]
  go_wp2_with fail
  obtain ⟨B6, hB6⟩ : ∃ B, B = v13.heap.size := ⟨_, rfl⟩
  obtain ⟨W6_0, hW6_0⟩ : ∃ W, W = v13.alloc (Obj.cells #[Value.bool false, Value.string ⟨#[48]⟩, Value.string ⟨#[49]⟩] 24) := ⟨_, rfl⟩
  have hb : Below v13.heap.size v13 W6_0 := by rw [hW6_0]; exact (Below.refl _ _).alloc (Nat.le_refl _) _
  have hzW6_0 : v13.heap.size = B6 := by rw [hB6]
  have hlW6_0 : RatAt (B6) ⟨false, ⟨#[48]⟩, ⟨#[49]⟩⟩ W6_0 := by rw [← hzW6_0, hW6_0]; exact ⟨heap_lastM _ _⟩
  have D14 := Lib.hid (D13.out.trans (hb.mono D13.out.size))
  have half_14 := Lib.hid (half_13.out.bel hb)
  have third_14 := Lib.hid (third_13.out.bel hb)
  have a_14 := Lib.hid (a_13.out.bel hb)
  have b_14 := Lib.hid (b_13.out.bel hb)
  have c_14 := Lib.hid (c_13.out.bel hb)
  clear D13 half_13 third_13 a_13 b_13 c_13
  clear hb
  have d_14 := Lib.hid hlW6_0
  clear hlW6_0
  rw [← hW6_0]
  simp only [← hB6]
  have HW6_0 := Lib.hid hW6_0
  clear hW6_0 hzW6_0
  have HB6 := Lib.hid hB6
  clear hB6
  refine (prat_any _ _ _ _).mono ?_
  rintro e v15 ⟨rfl, hb⟩
  have D15 := Lib.hid (D14.out.trans (hb.mono D14.out.size))
  have half_15 := Lib.hid (half_14.out.bel hb)
  have third_15 := Lib.hid (third_14.out.bel hb)
  have a_15 := Lib.hid (a_14.out.bel hb)
  have b_15 := Lib.hid (b_14.out.bel hb)
  have c_15 := Lib.hid (c_14.out.bel hb)
  have d_15 := Lib.hid (d_14.out.bel hb)
  clear D14 half_14 third_14 a_14 b_14 c_14 d_14
  clear hb
  go_wp2_with fail
  refine (prat_any _ _ _ _).mono ?_
  rintro e v16 ⟨rfl, hb⟩
  have D16 := Lib.hid (D15.out.trans (hb.mono D15.out.size))
  have half_16 := Lib.hid (half_15.out.bel hb)
  have third_16 := Lib.hid (third_15.out.bel hb)
  have a_16 := Lib.hid (a_15.out.bel hb)
  have b_16 := Lib.hid (b_15.out.bel hb)
  have c_16 := Lib.hid (c_15.out.bel hb)
  have d_16 := Lib.hid (d_15.out.bel hb)
  clear D15 half_15 third_15 a_15 b_15 c_15 d_15
  clear hb
  go_wp2_with fail
  refine (pratdiv_any ⟨true, ⟨#[49]⟩, ⟨#[50]⟩⟩ ⟨false, ⟨#[51]⟩, ⟨#[52]⟩⟩ _).mono ?_
  rintro e v17 ⟨rfl, hb⟩
  have D17 := Lib.hid (D16.out.trans (hb.mono D16.out.size))
  have half_17 := Lib.hid (half_16.out.bel hb)
  have third_17 := Lib.hid (third_16.out.bel hb)
  have a_17 := Lib.hid (a_16.out.bel hb)
  have b_17 := Lib.hid (b_16.out.bel hb)
  have c_17 := Lib.hid (c_16.out.bel hb)
  have d_17 := Lib.hid (d_16.out.bel hb)
  clear D16 half_16 third_16 a_16 b_16 c_16 d_16
  clear hb
  simp only [x_div]
  go_wp2_with fail
  obtain ⟨B7, hB7⟩ : ∃ B, B = v17.heap.size := ⟨_, rfl⟩
  obtain ⟨W7_0, hW7_0⟩ : ∃ W, W = v17.alloc (Obj.cells #[Value.bool true, Value.string ⟨#[50]⟩, Value.string ⟨#[51]⟩] 24) := ⟨_, rfl⟩
  have hb : Below v17.heap.size v17 W7_0 := by rw [hW7_0]; exact (Below.refl _ _).alloc (Nat.le_refl _) _
  have hzW7_0 : v17.heap.size = B7 := by rw [hB7]
  have hlW7_0 : RatAt (B7) ⟨true, ⟨#[50]⟩, ⟨#[51]⟩⟩ W7_0 := by rw [← hzW7_0, hW7_0]; exact ⟨heap_lastM _ _⟩
  have D18 := Lib.hid (D17.out.trans (hb.mono D17.out.size))
  have half_18 := Lib.hid (half_17.out.bel hb)
  have third_18 := Lib.hid (third_17.out.bel hb)
  have a_18 := Lib.hid (a_17.out.bel hb)
  have b_18 := Lib.hid (b_17.out.bel hb)
  have c_18 := Lib.hid (c_17.out.bel hb)
  have d_18 := Lib.hid (d_17.out.bel hb)
  clear D17 half_17 third_17 a_17 b_17 c_17 d_17
  clear hb
  have x_18 := Lib.hid hlW7_0
  clear hlW7_0
  rw [← hW7_0]
  simp only [← hB7]
  have HW7_0 := Lib.hid hW7_0
  clear hW7_0 hzW7_0
  have HB7 := Lib.hid hB7
  clear hB7
  go_upto_region 8 with fail
  go_cut [16] (fun s16 wx => s16 = .int .i64 14 ∧ Hid (Below W7_0.heap.size W7_0 wx))
  case first =>
    go_region_held3 (fun w' => Below W7_0.heap.size W7_0 w' ∧ w'.cell? ⟨B1, 0, none⟩ = some (.bool false) ∧ w'.cell? ⟨B1, 1, none⟩ = some (.string ⟨#[49]⟩) ∧ w'.cell? ⟨B1, 2, none⟩ = some (.string ⟨#[50]⟩)) (first | (with_reducible assumption) | exact startn1 half_18.out | exact next1 (by assumption) (by assumption) | exact next1 ((Below.refl _ _).alloc (Nat.le_refl _) _) (by assumption) | exact from1 half_18.out (by omega) (And.left (by assumption))) (first | (go_at_call 29; ((with_reducible refine (prat_any _ _ _ _).mono ?_); rintro e y1 ⟨rfl, hby1⟩; obtain ⟨hcy1, hfy1⟩ := bcellR hby1; have hzy1 := hby1.size; (try simp at hzy1); (try have hyy1 := Nat.lt_of_succ_le hzy1))) | (go_at_call 25; ((with_reducible refine (pratdiv_any ⟨false, ⟨#[49]⟩, ⟨#[50]⟩⟩ ⟨false, ⟨#[48]⟩, ⟨#[49]⟩⟩ _).mono ?_); rintro e y2 ⟨rfl, hby2⟩; obtain ⟨hcy2, hfy2⟩ := bcellR hby2; simp only [x_div0, noRaw])) | fail "no arm")
    all_goals (go_wp2_with fail; go_meet; exact ⟨rfl, Lib.hid (And.left (by assumption))⟩)
  case rest =>
    obtain ⟨rfl, hcutB⟩ := hcut
    have D19 := Lib.hid (D18.out.trans (hcutB.out.mono D18.out.size))
    have half_19 := Lib.hid (half_18.out.bel hcutB.out)
    have third_19 := Lib.hid (third_18.out.bel hcutB.out)
    have a_19 := Lib.hid (a_18.out.bel hcutB.out)
    have b_19 := Lib.hid (b_18.out.bel hcutB.out)
    have c_19 := Lib.hid (c_18.out.bel hcutB.out)
    have d_19 := Lib.hid (d_18.out.bel hcutB.out)
    have x_19 := Lib.hid (x_18.out.bel hcutB.out)
    clear D18 half_18 third_18 a_18 b_18 c_18 d_18 x_18
    clear hcutB
    obtain ⟨wc8, hnm⟩ : ∃ x, x = wc := ⟨_, rfl⟩
    subst hnm
    go_wp2_with fail
    refine (pratparse_any _ _ (by decide)).mono ?_
    rintro e v20 ⟨rfl, hb⟩
    have D20 := Lib.hid (D19.out.trans (hb.mono D19.out.size))
    have half_20 := Lib.hid (half_19.out.bel hb)
    have third_20 := Lib.hid (third_19.out.bel hb)
    have a_20 := Lib.hid (a_19.out.bel hb)
    have b_20 := Lib.hid (b_19.out.bel hb)
    have c_20 := Lib.hid (c_19.out.bel hb)
    have d_20 := Lib.hid (d_19.out.bel hb)
    have x_20 := Lib.hid (x_19.out.bel hb)
    clear D19 half_19 third_19 a_19 b_19 c_19 d_19 x_19
    clear hb
    simp only [x_parse]
    go_wp2_with fail
    obtain ⟨B8, hB8⟩ : ∃ B, B = v20.heap.size := ⟨_, rfl⟩
    obtain ⟨W8_0, hW8_0⟩ : ∃ W, W = v20.alloc (Obj.cells #[Value.bool true, Value.string ⟨#[51]⟩, Value.string ⟨#[52]⟩] 24) := ⟨_, rfl⟩
    have hb : Below v20.heap.size v20 W8_0 := by rw [hW8_0]; exact (Below.refl _ _).alloc (Nat.le_refl _) _
    have hzW8_0 : v20.heap.size = B8 := by rw [hB8]
    have hlW8_0 : RatAt (B8) ⟨true, ⟨#[51]⟩, ⟨#[52]⟩⟩ W8_0 := by rw [← hzW8_0, hW8_0]; exact ⟨heap_lastM _ _⟩
    have D21 := Lib.hid (D20.out.trans (hb.mono D20.out.size))
    have half_21 := Lib.hid (half_20.out.bel hb)
    have third_21 := Lib.hid (third_20.out.bel hb)
    have a_21 := Lib.hid (a_20.out.bel hb)
    have b_21 := Lib.hid (b_20.out.bel hb)
    have c_21 := Lib.hid (c_20.out.bel hb)
    have d_21 := Lib.hid (d_20.out.bel hb)
    have x_21 := Lib.hid (x_20.out.bel hb)
    clear D20 half_20 third_20 a_20 b_20 c_20 d_20 x_20
    clear hb
    have p_21 := Lib.hid hlW8_0
    clear hlW8_0
    rw [← hW8_0]
    simp only [← hB8]
    have HW8_0 := Lib.hid hW8_0
    clear hW8_0 hzW8_0
    have HB8 := Lib.hid hB8
    clear hB8
    refine (prat_any _ _ _ _).mono ?_
    rintro e v22 ⟨rfl, hb⟩
    have D22 := Lib.hid (D21.out.trans (hb.mono D21.out.size))
    have half_22 := Lib.hid (half_21.out.bel hb)
    have third_22 := Lib.hid (third_21.out.bel hb)
    have a_22 := Lib.hid (a_21.out.bel hb)
    have b_22 := Lib.hid (b_21.out.bel hb)
    have c_22 := Lib.hid (c_21.out.bel hb)
    have d_22 := Lib.hid (d_21.out.bel hb)
    have x_22 := Lib.hid (x_21.out.bel hb)
    have p_22 := Lib.hid (p_21.out.bel hb)
    clear D21 half_21 third_21 a_21 b_21 c_21 d_21 x_21 p_21
    clear hb
    go_wp2_with fail
    refine (prattext_any ⟨true, ⟨#[51]⟩, ⟨#[52]⟩⟩ _).mono ?_
    rintro e v23 ⟨rfl, hb⟩
    have D23 := Lib.hid (D22.out.trans (hb.mono D22.out.size))
    have half_23 := Lib.hid (half_22.out.bel hb)
    have third_23 := Lib.hid (third_22.out.bel hb)
    have a_23 := Lib.hid (a_22.out.bel hb)
    have b_23 := Lib.hid (b_22.out.bel hb)
    have c_23 := Lib.hid (c_22.out.bel hb)
    have d_23 := Lib.hid (d_22.out.bel hb)
    have x_23 := Lib.hid (x_22.out.bel hb)
    have p_23 := Lib.hid (p_22.out.bel hb)
    clear D22 half_22 third_22 a_22 b_22 c_22 d_22 x_22 p_22
    clear hb
    simp only [x_text]
    go_wp2_with fail
    have q1 : ∀ w, (binOp .eql 24 (.agg #[Value.bool true, Value.string ⟨#[51]⟩, Value.string ⟨#[52]⟩]) (.agg #[Value.bool true, Value.string ⟨#[51]⟩, Value.string ⟨#[52]⟩])).run Tryz.prog w = .ok (.bool true) w := fun w => by have := run_eql_rat ⟨true, ⟨#[51]⟩, ⟨#[52]⟩⟩ ⟨true, ⟨#[51]⟩, ⟨#[52]⟩⟩ w; rwa [sameR_iff.2 rfl] at this
    have q2 : ∀ w, (binOp .eql 24 (.agg #[Value.bool false, Value.string ⟨#[48]⟩, Value.string ⟨#[49]⟩]) (.agg #[Value.bool false, Value.string ⟨#[48]⟩, Value.string ⟨#[49]⟩])).run Tryz.prog w = .ok (.bool true) w := fun w => by have := run_eql_rat ⟨false, ⟨#[48]⟩, ⟨#[49]⟩⟩ ⟨false, ⟨#[48]⟩, ⟨#[49]⟩⟩ w; rwa [sameR_iff.2 rfl] at this
    have q3 : ∀ w, (binOp .eql 24 (.agg #[Value.bool false, Value.string ⟨#[53]⟩, Value.string ⟨#[54]⟩]) (.agg #[Value.bool false, Value.string ⟨#[53]⟩, Value.string ⟨#[54]⟩])).run Tryz.prog w = .ok (.bool true) w := fun w => by have := run_eql_rat ⟨false, ⟨#[53]⟩, ⟨#[54]⟩⟩ ⟨false, ⟨#[53]⟩, ⟨#[54]⟩⟩ w; rwa [sameR_iff.2 rfl] at this
    have q4 : ∀ w, (binOp .eql 24 (.agg #[Value.bool true, Value.string ⟨#[50]⟩, Value.string ⟨#[51]⟩]) (.agg #[Value.bool true, Value.string ⟨#[50]⟩, Value.string ⟨#[51]⟩])).run Tryz.prog w = .ok (.bool true) w := fun w => by have := run_eql_rat ⟨true, ⟨#[50]⟩, ⟨#[51]⟩⟩ ⟨true, ⟨#[50]⟩, ⟨#[51]⟩⟩ w; rwa [sameR_iff.2 rfl] at this
    go_upto_region 11 with fail
    go_cut [21] (fun s21 wx => s21 = .bool true ∧ Hid (Below v23.heap.size v23 wx))
    case first =>
      go_region_held3 (fun w' => Below v23.heap.size v23 w' ∧ w'.cell? ⟨B2, 0, none⟩ = some (.bool true) ∧ w'.cell? ⟨B2, 1, none⟩ = some (.string ⟨#[51]⟩) ∧ w'.cell? ⟨B2, 2, none⟩ = some (.string ⟨#[52]⟩) ∧ w'.cell? ⟨B3, 0, none⟩ = some (.bool false) ∧ w'.cell? ⟨B3, 1, none⟩ = some (.string ⟨#[48]⟩) ∧ w'.cell? ⟨B3, 2, none⟩ = some (.string ⟨#[49]⟩) ∧ w'.cell? ⟨B5, 0, none⟩ = some (.bool false) ∧ w'.cell? ⟨B5, 1, none⟩ = some (.string ⟨#[53]⟩) ∧ w'.cell? ⟨B5, 2, none⟩ = some (.string ⟨#[54]⟩) ∧ w'.cell? ⟨B6, 0, none⟩ = some (.bool false) ∧ w'.cell? ⟨B6, 1, none⟩ = some (.string ⟨#[48]⟩) ∧ w'.cell? ⟨B6, 2, none⟩ = some (.string ⟨#[49]⟩)) (first | (with_reducible assumption) | exact startn4 a_23.out b_23.out c_23.out d_23.out | exact next4 (by assumption) (by assumption) | exact next4 ((Below.refl _ _).alloc (Nat.le_refl _) _) (by assumption)) (first | (go_at_call 29; ((with_reducible refine (prat_any true ⟨#[51]⟩ ⟨#[52]⟩ _).mono ?_); rintro e y1 ⟨rfl, hby1⟩)) | (go_at_call 29; ((with_reducible refine (prat_any false ⟨#[48]⟩ ⟨#[49]⟩ _).mono ?_); rintro e y2 ⟨rfl, hby2⟩)) | (go_at_call 29; ((with_reducible refine (prat_any false ⟨#[53]⟩ ⟨#[54]⟩ _).mono ?_); rintro e y3 ⟨rfl, hby3⟩)) | fail "no arm")
      all_goals (go_wp2_with fail; go_meet; exact ⟨rfl, Lib.hid (And.left (by assumption))⟩)
    case rest =>
      obtain ⟨rfl, hcutB⟩ := hcut
      have D24 := Lib.hid (D23.out.trans (hcutB.out.mono D23.out.size))
      have half_24 := Lib.hid (half_23.out.bel hcutB.out)
      have third_24 := Lib.hid (third_23.out.bel hcutB.out)
      have a_24 := Lib.hid (a_23.out.bel hcutB.out)
      have b_24 := Lib.hid (b_23.out.bel hcutB.out)
      have c_24 := Lib.hid (c_23.out.bel hcutB.out)
      have d_24 := Lib.hid (d_23.out.bel hcutB.out)
      have x_24 := Lib.hid (x_23.out.bel hcutB.out)
      have p_24 := Lib.hid (p_23.out.bel hcutB.out)
      clear D23 half_23 third_23 a_23 b_23 c_23 d_23 x_23 p_23
      clear hcutB
      obtain ⟨wc11, hnm⟩ : ∃ x, x = wc := ⟨_, rfl⟩
      subst hnm
      clear q2 q3
      go_upto_region 12 with fail
      go_cut [22] (fun s22 wx => s22 = .bool true ∧ Hid (Below wc11.heap.size wc11 wx))
      case first =>
        go_region_held3 (fun w' => Below wc11.heap.size wc11 w' ∧ w'.cell? ⟨B1 + 1, 0, none⟩ = some (.bool false) ∧ w'.cell? ⟨B1 + 1, 1, none⟩ = some (.string ⟨#[49]⟩) ∧ w'.cell? ⟨B1 + 1, 2, none⟩ = some (.string ⟨#[51]⟩) ∧ w'.cell? ⟨B2, 0, none⟩ = some (.bool true) ∧ w'.cell? ⟨B2, 1, none⟩ = some (.string ⟨#[51]⟩) ∧ w'.cell? ⟨B2, 2, none⟩ = some (.string ⟨#[52]⟩) ∧ w'.cell? ⟨B7, 0, none⟩ = some (.bool true) ∧ w'.cell? ⟨B7, 1, none⟩ = some (.string ⟨#[50]⟩) ∧ w'.cell? ⟨B7, 2, none⟩ = some (.string ⟨#[51]⟩) ∧ w'.cell? ⟨B8, 0, none⟩ = some (.bool true) ∧ w'.cell? ⟨B8, 1, none⟩ = some (.string ⟨#[51]⟩) ∧ w'.cell? ⟨B8, 2, none⟩ = some (.string ⟨#[52]⟩)) (first | (with_reducible assumption) | exact startn4 third_24.out a_24.out x_24.out p_24.out | exact next4 (by assumption) (by assumption) | exact next4 ((Below.refl _ _).alloc (Nat.le_refl _) _) (by assumption)) (first | (go_at_call 29; ((with_reducible refine (prat_any true ⟨#[50]⟩ ⟨#[51]⟩ _).mono ?_); rintro e y1 ⟨rfl, hby1⟩)) | (go_at_call 29; ((with_reducible refine (prat_any true ⟨#[49]⟩ ⟨#[50]⟩ _).mono ?_); rintro e y2 ⟨rfl, hby2⟩)) | (go_at_call 29; ((with_reducible refine (prat_any false ⟨#[50]⟩ ⟨#[51]⟩ _).mono ?_); rintro e y3 ⟨rfl, hby3⟩)) | (go_at_call 29; ((with_reducible refine (prat_any false ⟨#[51]⟩ ⟨#[52]⟩ _).mono ?_); rintro e y4 ⟨rfl, hby4⟩)) | (go_at_call 17; ((with_reducible refine (pratcmp_any ⟨true, ⟨#[49]⟩, ⟨#[50]⟩⟩ ⟨false, ⟨#[49]⟩, ⟨#[51]⟩⟩ _).mono ?_); rintro e y5 ⟨rfl, hby5⟩; simp only [x_cmp1])) | (go_at_call 17; ((with_reducible refine (pratcmp_any ⟨false, ⟨#[50]⟩, ⟨#[51]⟩⟩ ⟨false, ⟨#[51]⟩, ⟨#[52]⟩⟩ _).mono ?_); rintro e y6 ⟨rfl, hby6⟩; simp only [x_cmp2])) | fail "no arm")
        all_goals (go_wp2_with fail; go_meet; exact ⟨rfl, Lib.hid (And.left (by assumption))⟩)
      case rest =>
        obtain ⟨rfl, hcutB⟩ := hcut
        have D25 := Lib.hid (D24.out.trans (hcutB.out.mono D24.out.size))
        have half_25 := Lib.hid (half_24.out.bel hcutB.out)
        have third_25 := Lib.hid (third_24.out.bel hcutB.out)
        have a_25 := Lib.hid (a_24.out.bel hcutB.out)
        have b_25 := Lib.hid (b_24.out.bel hcutB.out)
        have c_25 := Lib.hid (c_24.out.bel hcutB.out)
        have d_25 := Lib.hid (d_24.out.bel hcutB.out)
        have x_25 := Lib.hid (x_24.out.bel hcutB.out)
        have p_25 := Lib.hid (p_24.out.bel hcutB.out)
        clear D24 half_24 third_24 a_24 b_24 c_24 d_24 x_24 p_24
        clear hcutB
        obtain ⟨wc12, hnm⟩ : ∃ x, x = wc := ⟨_, rfl⟩
        subst hnm
        clear q1 q4
        go_wp2_with fail
        obtain ⟨B9, hB9⟩ : ∃ B, B = wc12.heap.size := ⟨_, rfl⟩
        obtain ⟨W9, hW9⟩ : ∃ W, W = wc12.alloc (Obj.cells #[Value.string ⟨#[54, 47, 56]⟩, Value.string ⟨#[53, 47, 49]⟩, Value.string ⟨#[45, 48]⟩, Value.string ⟨#[]⟩, Value.string ⟨#[49, 47, 48]⟩, Value.string ⟨#[47, 50]⟩, Value.string ⟨#[48, 49]⟩] 9) := ⟨_, rfl⟩
        have hb : Below wc12.heap.size wc12 W9 := by rw [hW9]; exact (Below.refl _ _).alloc (Nat.le_refl _) _
        have hR : RefAt W9 B9 := by rw [hB9, hW9]; exact refAt_new _
        have D26 := Lib.hid (D25.out.trans (hb.mono D25.out.size))
        have half_26 := Lib.hid (half_25.out.bel hb)
        have third_26 := Lib.hid (third_25.out.bel hb)
        have a_26 := Lib.hid (a_25.out.bel hb)
        have b_26 := Lib.hid (b_25.out.bel hb)
        have c_26 := Lib.hid (c_25.out.bel hb)
        have d_26 := Lib.hid (d_25.out.bel hb)
        have x_26 := Lib.hid (x_25.out.bel hb)
        have p_26 := Lib.hid (p_25.out.bel hb)
        clear D25 half_25 third_25 a_25 b_25 c_25 d_25 x_25 p_25
        clear hb
        rw [← hW9]
        simp only [← hB9]
        have HR := Lib.hid hR; have HW9 := Lib.hid hW9; have HB9 := Lib.hid hB9; clear hR hW9 hB9
        go_loopw [24] (fun ii wr => ∃ k : Nat, k ≤ 7 ∧ ii = .int .i64 k ∧ Hid (Below W9.heap.size W9 wr)) (fun ii _ => 7 - (intOf ii).toNat)
        case atStart => exact ⟨0, by omega, rfl, Lib.hid (Below.refl _ _)⟩
        case round =>
          obtain ⟨k, hk, rfl, HL⟩ := hrel
          by_cases hlt : k < 7
          ·
            obtain ⟨t, hc, hp, hs⟩ := (HR.out.bel HL.out).get k hlt
            have HP := Lib.hid hp; have HS := Lib.hid hs; clear hp hs
            go_wp2_with fail
            refine (pratparse_any t _ HS.out).mono ?_
            rintro e vp ⟨rfl, hb⟩
            have HL2 := Lib.hid (HL.out.trans (hb.mono HL.out.size)); clear hb hc
            simp only [HP.out, noRaw]
            go_wp2_with fail
            go_roundw
            case rel => exact ⟨k + 1, by omega, by go_num, Lib.hid (HL2.out.alloc HL2.out.size _)⟩
            case measure => simp [intOf]; omega
          ·
            obtain rfl : k = 7 := by omega
            have D27 := Lib.hid (D26.out.trans (HL.out.mono D26.out.size))
            have half_27 := Lib.hid (half_26.out.bel HL.out)
            have third_27 := Lib.hid (third_26.out.bel HL.out)
            have a_27 := Lib.hid (a_26.out.bel HL.out)
            have b_27 := Lib.hid (b_26.out.bel HL.out)
            have c_27 := Lib.hid (c_26.out.bel HL.out)
            have d_27 := Lib.hid (d_26.out.bel HL.out)
            have x_27 := Lib.hid (x_26.out.bel HL.out)
            have p_27 := Lib.hid (p_26.out.bel HL.out)
            clear D26 half_26 third_26 a_26 b_26 c_26 d_26 x_26 p_26
            clear HL HR
            have halfc0 := half_27.out.c0
            have halfc1 := half_27.out.c1
            have halfc2 := half_27.out.c2
            have halfz := blk_lt half_27.out.cells
            go_wp2_with fail
            clear halfc0 halfc1 halfc2 halfz
            refine (pratvalid_any ⟨false, ⟨#[49]⟩, ⟨#[50]⟩⟩ _).mono ?_
            rintro e v28 ⟨rfl, hb⟩
            have D28 := Lib.hid (D27.out.trans (hb.mono D27.out.size))
            have half_28 := Lib.hid (half_27.out.bel hb)
            have third_28 := Lib.hid (third_27.out.bel hb)
            have a_28 := Lib.hid (a_27.out.bel hb)
            have b_28 := Lib.hid (b_27.out.bel hb)
            have c_28 := Lib.hid (c_27.out.bel hb)
            have d_28 := Lib.hid (d_27.out.bel hb)
            have x_28 := Lib.hid (x_27.out.bel hb)
            have p_28 := Lib.hid (p_27.out.bel hb)
            clear D27 half_27 third_27 a_27 b_27 c_27 d_27 x_27 p_27
            clear hb
            simp only [x_ok]
            go_wp2_with fail
            refine (pratvalid_any noRaw _).mono ?_
            rintro e v29 ⟨rfl, hb⟩
            have D29 := Lib.hid (D28.out.trans (hb.mono D28.out.size))
            have half_29 := Lib.hid (half_28.out.bel hb)
            have third_29 := Lib.hid (third_28.out.bel hb)
            have a_29 := Lib.hid (a_28.out.bel hb)
            have b_29 := Lib.hid (b_28.out.bel hb)
            have c_29 := Lib.hid (c_28.out.bel hb)
            have d_29 := Lib.hid (d_28.out.bel hb)
            have x_29 := Lib.hid (x_28.out.bel hb)
            have p_29 := Lib.hid (p_28.out.bel hb)
            clear D28 half_28 third_28 a_28 b_28 c_28 d_28 x_28 p_28
            clear hb
            simp only [okR_no]
            go_wp2_with fail
            refine (prat_any _ _ _ _).mono ?_
            rintro e v30 ⟨rfl, hb⟩
            have D30 := Lib.hid (D29.out.trans (hb.mono D29.out.size))
            have half_30 := Lib.hid (half_29.out.bel hb)
            have third_30 := Lib.hid (third_29.out.bel hb)
            have a_30 := Lib.hid (a_29.out.bel hb)
            have b_30 := Lib.hid (b_29.out.bel hb)
            have c_30 := Lib.hid (c_29.out.bel hb)
            have d_30 := Lib.hid (d_29.out.bel hb)
            have x_30 := Lib.hid (x_29.out.bel hb)
            have p_30 := Lib.hid (p_29.out.bel hb)
            clear D29 half_29 third_29 a_29 b_29 c_29 d_29 x_29 p_29
            clear hb
            go_wp2_with fail
            refine (pratvalid_any ⟨false, ⟨#[50]⟩, ⟨#[52]⟩⟩ _).mono ?_
            rintro e v31 ⟨rfl, hb⟩
            have D31 := Lib.hid (D30.out.trans (hb.mono D30.out.size))
            have half_31 := Lib.hid (half_30.out.bel hb)
            have third_31 := Lib.hid (third_30.out.bel hb)
            have a_31 := Lib.hid (a_30.out.bel hb)
            have b_31 := Lib.hid (b_30.out.bel hb)
            have c_31 := Lib.hid (c_30.out.bel hb)
            have d_31 := Lib.hid (d_30.out.bel hb)
            have x_31 := Lib.hid (x_30.out.bel hb)
            have p_31 := Lib.hid (p_30.out.bel hb)
            clear D30 half_30 third_30 a_30 b_30 c_30 d_30 x_30 p_30
            clear hb
            simp only [x_no]
            go_wp2_with fail
            go_ret
            exact ⟨rfl, D31.out⟩
end Go.Proofs.YthpghjklnkdmfaaGreatDoor
