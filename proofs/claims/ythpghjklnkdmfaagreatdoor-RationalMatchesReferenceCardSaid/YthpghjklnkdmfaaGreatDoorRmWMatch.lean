/-
  The walk of RationalMatchesReference.
-/
import Derived.Test.YthpghjklnkdmfaaGreatDoorRmQ
import Derived.Test.YthpghjklnkdmfaaGreatDoorRfD
import Derived.Deep.DeepCutAuto
set_option linter.unusedVariables false
set_option maxRecDepth 100000
namespace Go.Proofs.YthpghjklnkdmfaaGreatDoor
open Go.RowKit
open Rt
theorem next8 {W w' w'' : World} {b0 b1 b2 b3 b4 b5 b6 b7 : Nat} {x0 y0 z0 x1 y1 z1 x2 y2 z2 x3 y3 z3 x4 y4 z4 x5 y5 z5 x6 y6 z6 x7 y7 z7 : Value} (hb : Below w'.heap.size w' w'') (h : Below W.heap.size W w' ∧ w'.cell? ⟨b0, 0, none⟩ = some x0 ∧ w'.cell? ⟨b0, 1, none⟩ = some y0 ∧ w'.cell? ⟨b0, 2, none⟩ = some z0 ∧ w'.cell? ⟨b1, 0, none⟩ = some x1 ∧ w'.cell? ⟨b1, 1, none⟩ = some y1 ∧ w'.cell? ⟨b1, 2, none⟩ = some z1 ∧ w'.cell? ⟨b2, 0, none⟩ = some x2 ∧ w'.cell? ⟨b2, 1, none⟩ = some y2 ∧ w'.cell? ⟨b2, 2, none⟩ = some z2 ∧ w'.cell? ⟨b3, 0, none⟩ = some x3 ∧ w'.cell? ⟨b3, 1, none⟩ = some y3 ∧ w'.cell? ⟨b3, 2, none⟩ = some z3 ∧ w'.cell? ⟨b4, 0, none⟩ = some x4 ∧ w'.cell? ⟨b4, 1, none⟩ = some y4 ∧ w'.cell? ⟨b4, 2, none⟩ = some z4 ∧ w'.cell? ⟨b5, 0, none⟩ = some x5 ∧ w'.cell? ⟨b5, 1, none⟩ = some y5 ∧ w'.cell? ⟨b5, 2, none⟩ = some z5 ∧ w'.cell? ⟨b6, 0, none⟩ = some x6 ∧ w'.cell? ⟨b6, 1, none⟩ = some y6 ∧ w'.cell? ⟨b6, 2, none⟩ = some z6 ∧ w'.cell? ⟨b7, 0, none⟩ = some x7 ∧ w'.cell? ⟨b7, 1, none⟩ = some y7 ∧ w'.cell? ⟨b7, 2, none⟩ = some z7) : Below W.heap.size W w'' ∧ w''.cell? ⟨b0, 0, none⟩ = some x0 ∧ w''.cell? ⟨b0, 1, none⟩ = some y0 ∧ w''.cell? ⟨b0, 2, none⟩ = some z0 ∧ w''.cell? ⟨b1, 0, none⟩ = some x1 ∧ w''.cell? ⟨b1, 1, none⟩ = some y1 ∧ w''.cell? ⟨b1, 2, none⟩ = some z1 ∧ w''.cell? ⟨b2, 0, none⟩ = some x2 ∧ w''.cell? ⟨b2, 1, none⟩ = some y2 ∧ w''.cell? ⟨b2, 2, none⟩ = some z2 ∧ w''.cell? ⟨b3, 0, none⟩ = some x3 ∧ w''.cell? ⟨b3, 1, none⟩ = some y3 ∧ w''.cell? ⟨b3, 2, none⟩ = some z3 ∧ w''.cell? ⟨b4, 0, none⟩ = some x4 ∧ w''.cell? ⟨b4, 1, none⟩ = some y4 ∧ w''.cell? ⟨b4, 2, none⟩ = some z4 ∧ w''.cell? ⟨b5, 0, none⟩ = some x5 ∧ w''.cell? ⟨b5, 1, none⟩ = some y5 ∧ w''.cell? ⟨b5, 2, none⟩ = some z5 ∧ w''.cell? ⟨b6, 0, none⟩ = some x6 ∧ w''.cell? ⟨b6, 1, none⟩ = some y6 ∧ w''.cell? ⟨b6, 2, none⟩ = some z6 ∧ w''.cell? ⟨b7, 0, none⟩ = some x7 ∧ w''.cell? ⟨b7, 1, none⟩ = some y7 ∧ w''.cell? ⟨b7, 2, none⟩ = some z7 := by
  obtain ⟨h, h0, h1, h2, h3, h4, h5, h6, h7, h8, h9, h10, h11, h12, h13, h14, h15, h16, h17, h18, h19, h20, h21, h22, h23⟩ := h
  exact ⟨h.trans (hb.mono h.size), cell_keep hb h0, cell_keep hb h1, cell_keep hb h2, cell_keep hb h3, cell_keep hb h4, cell_keep hb h5, cell_keep hb h6, cell_keep hb h7, cell_keep hb h8, cell_keep hb h9, cell_keep hb h10, cell_keep hb h11, cell_keep hb h12, cell_keep hb h13, cell_keep hb h14, cell_keep hb h15, cell_keep hb h16, cell_keep hb h17, cell_keep hb h18, cell_keep hb h19, cell_keep hb h20, cell_keep hb h21, cell_keep hb h22, cell_keep hb h23⟩
theorem startn8 {W : World} {b0 b1 b2 b3 b4 b5 b6 b7 : Nat} {r0 r1 r2 r3 r4 r5 r6 r7 : Raw} (h0 : RatAt b0 r0 W) (h1 : RatAt b1 r1 W) (h2 : RatAt b2 r2 W) (h3 : RatAt b3 r3 W) (h4 : RatAt b4 r4 W) (h5 : RatAt b5 r5 W) (h6 : RatAt b6 r6 W) (h7 : RatAt b7 r7 W) : Below W.heap.size W W.drew ∧ W.drew.cell? ⟨b0, 0, none⟩ = some (.bool r0.neg) ∧ W.drew.cell? ⟨b0, 1, none⟩ = some (.string r0.num) ∧ W.drew.cell? ⟨b0, 2, none⟩ = some (.string r0.den) ∧ W.drew.cell? ⟨b1, 0, none⟩ = some (.bool r1.neg) ∧ W.drew.cell? ⟨b1, 1, none⟩ = some (.string r1.num) ∧ W.drew.cell? ⟨b1, 2, none⟩ = some (.string r1.den) ∧ W.drew.cell? ⟨b2, 0, none⟩ = some (.bool r2.neg) ∧ W.drew.cell? ⟨b2, 1, none⟩ = some (.string r2.num) ∧ W.drew.cell? ⟨b2, 2, none⟩ = some (.string r2.den) ∧ W.drew.cell? ⟨b3, 0, none⟩ = some (.bool r3.neg) ∧ W.drew.cell? ⟨b3, 1, none⟩ = some (.string r3.num) ∧ W.drew.cell? ⟨b3, 2, none⟩ = some (.string r3.den) ∧ W.drew.cell? ⟨b4, 0, none⟩ = some (.bool r4.neg) ∧ W.drew.cell? ⟨b4, 1, none⟩ = some (.string r4.num) ∧ W.drew.cell? ⟨b4, 2, none⟩ = some (.string r4.den) ∧ W.drew.cell? ⟨b5, 0, none⟩ = some (.bool r5.neg) ∧ W.drew.cell? ⟨b5, 1, none⟩ = some (.string r5.num) ∧ W.drew.cell? ⟨b5, 2, none⟩ = some (.string r5.den) ∧ W.drew.cell? ⟨b6, 0, none⟩ = some (.bool r6.neg) ∧ W.drew.cell? ⟨b6, 1, none⟩ = some (.string r6.num) ∧ W.drew.cell? ⟨b6, 2, none⟩ = some (.string r6.den) ∧ W.drew.cell? ⟨b7, 0, none⟩ = some (.bool r7.neg) ∧ W.drew.cell? ⟨b7, 1, none⟩ = some (.string r7.num) ∧ W.drew.cell? ⟨b7, 2, none⟩ = some (.string r7.den) := by
  have hb : Below W.heap.size W W.drew := (Below.refl _ _).drew
  exact ⟨hb, (h0.bel hb).c0, (h0.bel hb).c1, (h0.bel hb).c2, (h1.bel hb).c0, (h1.bel hb).c1, (h1.bel hb).c2, (h2.bel hb).c0, (h2.bel hb).c1, (h2.bel hb).c2, (h3.bel hb).c0, (h3.bel hb).c1, (h3.bel hb).c2, (h4.bel hb).c0, (h4.bel hb).c1, (h4.bel hb).c2, (h5.bel hb).c0, (h5.bel hb).c1, (h5.bel hb).c2, (h6.bel hb).c0, (h6.bel hb).c1, (h6.bel hb).c2, (h7.bel hb).c0, (h7.bel hb).c1, (h7.bel hb).c2⟩
/-- three stores into one block -/
theorem stored (w : World) (B : Nat) (u0 u1 u2 : Value) : Bes B w (((w.setCell ⟨B, 0, none⟩ u0).setCell ⟨B, 1, none⟩ u1).setCell ⟨B, 2, none⟩ u2) :=
  ((Bes.set w B 0 u0).trans (Bes.set _ B 1 u1)).trans (Bes.set _ B 2 u2)
set_option maxHeartbeats 8000000 in
theorem walkRationalMatchesReference (a b : Raw) (x y : Int) (neg : Bool) (n d t : ByteArray) (w : World) (ht : TabOk w) (sa : a.num.size ≤ maxLen ∧ a.den.size ≤ maxLen) (sb : b.num.size ≤ maxLen ∧ b.den.size ≤ maxLen) (hx : -9223372036854775808 ≤ x ∧ x ≤ 9223372036854775807) (hy : -9223372036854775808 ≤ y ∧ y ≤ 9223372036854775807) (hn : n.size ≤ maxLen) (hd : d.size ≤ maxLen) (hlt : t.size ≤ maxLen) : Calls Tryz.prog 3 #[.agg #[.bool a.neg, .string a.num, .string a.den], .agg #[.bool b.neg, .string b.num, .string b.den], .int .i64 x, .int .i64 y, .bool neg, .string n, .string d, .string t] w fun e w' => e = .returned (.bool true) ∧ Below w.heap.size w w' := by
  have HT := Lib.hid ht
  have HS : Hid (OkSz [a, b]) := Lib.hid (by intro r hr; simp only [List.mem_cons, List.not_mem_nil, or_false] at hr; rcases hr with rfl | rfl <;> assumption)
  clear ht sa sb
  have D0 := Lib.hid (Below.refl w.heap.size w)
  go_enter Tryz.func3, Tryz.ntmps3
  go_wp2_with fail
  obtain ⟨B1, hB1⟩ : ∃ B, B = w.heap.size := ⟨_, rfl⟩
  obtain ⟨W1_0, hW1_0⟩ : ∃ W, W = w.alloc (Obj.cells #[Value.bool a.neg, Value.string a.num, Value.string a.den] 24) := ⟨_, rfl⟩
  have hb : Below w.heap.size w W1_0 := by rw [hW1_0]; exact (Below.refl _ _).alloc (Nat.le_refl _) _
  have hzW1_0 : w.heap.size = B1 := by rw [hB1]
  have hlW1_0 : RatAt (B1) a W1_0 := by rw [← hzW1_0, hW1_0]; exact ⟨heap_lastM _ _⟩
  have D1 := Lib.hid (D0.out.trans (hb.mono D0.out.size))
  clear hb
  have a_1 := Lib.hid hlW1_0
  clear hlW1_0
  obtain ⟨W1_1, hW1_1⟩ : ∃ W, W = W1_0.alloc (Obj.cells #[Value.bool b.neg, Value.string b.num, Value.string b.den] 24) := ⟨_, rfl⟩
  have hb : Below W1_0.heap.size W1_0 W1_1 := by rw [hW1_1]; exact (Below.refl _ _).alloc (Nat.le_refl _) _
  have hzW1_1 : W1_0.heap.size = B1 + 1 := by rw [hW1_0]; simp [hzW1_0]
  have hlW1_1 : RatAt (B1 + 1) b W1_1 := by rw [← hzW1_1, hW1_1]; exact ⟨heap_lastM _ _⟩
  have D2 := Lib.hid (D1.out.trans (hb.mono D1.out.size))
  have a_2 := Lib.hid (a_1.out.bel hb)
  clear D1 a_1
  clear hb
  have b_2 := Lib.hid hlW1_1
  clear hlW1_1
  rw [← hW1_0]
  rw [← hW1_1]
  simp only [← hB1]
  have HW1_0 := Lib.hid hW1_0
  clear hW1_0 hzW1_0
  have HW1_1 := Lib.hid hW1_1
  clear hW1_1 hzW1_1
  have HB1 := Lib.hid hB1
  clear hB1
  have HX := Lib.hid hx; have HY := Lib.hid hy; have HLT := Lib.hid hlt
  unfold maxLen at hn hd hlt
  refine (head4_any _ (HT.out.below D2.out)).mono ?_
  rintro e v3 ⟨rfl, hb⟩
  have D3 := Lib.hid (D2.out.trans (hb.mono D2.out.size))
  have a_3 := Lib.hid (a_2.out.bel hb)
  have b_3 := Lib.hid (b_2.out.bel hb)
  clear D2 a_2 b_2
  clear hb
  have ac0 := a_3.out.c0
  have ac1 := a_3.out.c1
  have ac2 := a_3.out.c2
  have az := blk_lt a_3.out.cells
  have bc0 := b_3.out.c0
  have bc1 := b_3.out.c1
  have bc2 := b_3.out.c2
  have bz := blk_lt b_3.out.cells
  go_wp2_with fail
  clear ac0 ac1 ac2 az bc0 bc1 bc2 bz
  refine (few4_two _ a b HS.out).mono ?_
  rintro e v4 ⟨rfl, hb⟩
  have D4 := Lib.hid (D3.out.trans (hb.mono D3.out.size))
  have a_4 := Lib.hid (a_3.out.bel hb)
  have b_4 := Lib.hid (b_3.out.bel hb)
  clear D3 a_3 b_3
  clear hb
  rcases Bool.eq_false_or_eq_true (fewR [a, b]) with hp | hp
  rotate_left
  ·
    simp only [hp]
    go_wp2_with fail
    go_ret
    exact ⟨rfl, D4.out⟩
  simp only [hp]
  have HF := Lib.hid hp; clear hp
  by_cases cn : 40 < n.size
  ·
    have k1 : decide (40 < n.size) = true := decide_eq_true cn
    have k2 : decide ((40 : Int) < (n.size : Int)) = true := decide_eq_true (by omega)
    clear hn hd hlt
    clear cn
    go_wp2_with fail
    go_ret
    exact ⟨rfl, D4.out⟩
  have kn1 : decide (40 < n.size) = false := decide_eq_false cn
  have kn2 : decide ((40 : Int) < (n.size : Int)) = false := decide_eq_false (by omega)
  by_cases cd : 40 < d.size
  ·
    have k1 : decide (40 < d.size) = true := decide_eq_true cd
    have k2 : decide ((40 : Int) < (d.size : Int)) = true := decide_eq_true (by omega)
    clear hn hd hlt
    clear cn cd
    go_wp2_with fail
    go_ret
    exact ⟨rfl, D4.out⟩
  have kd1 : decide (40 < d.size) = false := decide_eq_false cd
  have kd2 : decide ((40 : Int) < (d.size : Int)) = false := decide_eq_false (by omega)
  by_cases ct : 90 < t.size
  ·
    have k1 : decide (90 < t.size) = true := decide_eq_true ct
    have k2 : decide ((90 : Int) < (t.size : Int)) = true := decide_eq_true (by omega)
    clear hn hd hlt
    clear cn cd ct
    go_wp2_with fail
    go_ret
    exact ⟨rfl, D4.out⟩
  have kt1 : decide (90 < t.size) = false := decide_eq_false ct
  have kt2 : decide ((90 : Int) < (t.size : Int)) = false := decide_eq_false (by omega)
  clear cn cd ct hn hd hlt
  obtain ⟨p, e1, hv⟩ : ∃ p e, ofE x y = (p, e) := ⟨_, _, rfl⟩
  have Hp := Lib.hid hv; clear hv
  go_wp2_with fail
  refine (pof_any x y _ HX.out.1 HX.out.2 HY.out.1 HY.out.2 (HT.out.below D4.out)).mono ?_
  rintro e v5 ⟨rfl, hb⟩
  have D5 := Lib.hid (D4.out.trans (hb.mono D4.out.size))
  have a_5 := Lib.hid (a_4.out.bel hb)
  have b_5 := Lib.hid (b_4.out.bel hb)
  clear D4 a_4 b_4
  clear hb
  simp only [Hp.out]
  go_wp2_with fail
  have hsz_p1 := D5.out.size
  have hl_a := blk_lt a_5.out.cells
  have hl_b := blk_lt b_5.out.cells
  obtain ⟨B2, hB2⟩ : ∃ B, B = v5.heap.size := ⟨_, rfl⟩
  obtain ⟨W2_0, hW2_0⟩ : ∃ W, W = v5.alloc (Obj.cells #[Value.bool p.neg, Value.string p.num, Value.string p.den] 24) := ⟨_, rfl⟩
  have hb : Below v5.heap.size v5 W2_0 := by rw [hW2_0]; exact (Below.refl _ _).alloc (Nat.le_refl _) _
  have hzW2_0 : v5.heap.size = B2 := by rw [hB2]
  have hlW2_0 : RatAt (B2) p W2_0 := by rw [← hzW2_0, hW2_0]; exact ⟨heap_lastM _ _⟩
  have D6 := Lib.hid (D5.out.trans (hb.mono D5.out.size))
  have a_6 := Lib.hid (a_5.out.bel hb)
  have b_6 := Lib.hid (b_5.out.bel hb)
  clear D5 a_5 b_5
  clear hb
  have p1_6 := Lib.hid hlW2_0
  clear hlW2_0
  rw [← hW2_0]
  simp only [← hB2]
  have HW2_0 := Lib.hid hW2_0
  clear hW2_0 hzW2_0
  have HB2 := Lib.hid hB2
  clear hB2
  have ne_a_p1 : Hid (B1 ≠ B2) := Lib.hid (by have := HB2.out; omega)
  clear hl_a
  have ne_b_p1 : Hid (B1 + 1 ≠ B2) := Lib.hid (by have := HB2.out; omega)
  clear hl_b
  have le_p1 : Hid (w.heap.size ≤ B2) := Lib.hid (by have := HB2.out; omega)
  clear hsz_p1
  refine (refof4_any x y _ HX.out HY.out).mono ?_
  rintro e v7 ⟨rfl, hb⟩
  have D7 := Lib.hid (D6.out.trans (hb.mono D6.out.size))
  have a_7 := Lib.hid (a_6.out.bel hb)
  have b_7 := Lib.hid (b_6.out.bel hb)
  have p1_7 := Lib.hid (p1_6.out.bel hb)
  clear D6 a_6 b_6 p1_6
  clear hb
  simp only [Hp.out]
  go_wp2_with fail
  have hsz_q1 := D7.out.size
  have hl_a := blk_lt a_7.out.cells
  have hl_b := blk_lt b_7.out.cells
  have hl_p1 := blk_lt p1_7.out.cells
  obtain ⟨B3, hB3⟩ : ∃ B, B = v7.heap.size := ⟨_, rfl⟩
  obtain ⟨W3_0, hW3_0⟩ : ∃ W, W = v7.alloc (Obj.cells #[Value.bool p.neg, Value.string p.num, Value.string p.den] 24) := ⟨_, rfl⟩
  have hb : Below v7.heap.size v7 W3_0 := by rw [hW3_0]; exact (Below.refl _ _).alloc (Nat.le_refl _) _
  have hzW3_0 : v7.heap.size = B3 := by rw [hB3]
  have hlW3_0 : RatAt (B3) p W3_0 := by rw [← hzW3_0, hW3_0]; exact ⟨heap_lastM _ _⟩
  have D8 := Lib.hid (D7.out.trans (hb.mono D7.out.size))
  have a_8 := Lib.hid (a_7.out.bel hb)
  have b_8 := Lib.hid (b_7.out.bel hb)
  have p1_8 := Lib.hid (p1_7.out.bel hb)
  clear D7 a_7 b_7 p1_7
  clear hb
  have q1_8 := Lib.hid hlW3_0
  clear hlW3_0
  rw [← hW3_0]
  simp only [← hB3]
  have HW3_0 := Lib.hid hW3_0
  clear hW3_0 hzW3_0
  have HB3 := Lib.hid hB3
  clear hB3
  have ne_a_q1 : Hid (B1 ≠ B3) := Lib.hid (by have := HB3.out; omega)
  clear hl_a
  have ne_b_q1 : Hid (B1 + 1 ≠ B3) := Lib.hid (by have := HB3.out; omega)
  clear hl_b
  have ne_p1_q1 : Hid (B2 ≠ B3) := Lib.hid (by have := HB3.out; omega)
  clear hl_p1
  have le_q1 : Hid (w.heap.size ≤ B3) := Lib.hid (by have := HB3.out; omega)
  clear hsz_q1
  obtain ⟨r, e2, hv⟩ : ∃ p e, makeE neg n d = (p, e) := ⟨_, _, rfl⟩
  have Hr := Lib.hid hv; clear hv
  refine (pmake_any neg n d _).mono ?_
  rintro e v9 ⟨rfl, hb⟩
  have D9 := Lib.hid (D8.out.trans (hb.mono D8.out.size))
  have a_9 := Lib.hid (a_8.out.bel hb)
  have b_9 := Lib.hid (b_8.out.bel hb)
  have p1_9 := Lib.hid (p1_8.out.bel hb)
  have q1_9 := Lib.hid (q1_8.out.bel hb)
  clear D8 a_8 b_8 p1_8 q1_8
  clear hb
  simp only [Hr.out]
  go_wp2_with fail
  have hsz_r1 := D9.out.size
  have hl_a := blk_lt a_9.out.cells
  have hl_b := blk_lt b_9.out.cells
  have hl_p1 := blk_lt p1_9.out.cells
  have hl_q1 := blk_lt q1_9.out.cells
  obtain ⟨B4, hB4⟩ : ∃ B, B = v9.heap.size := ⟨_, rfl⟩
  obtain ⟨W4_0, hW4_0⟩ : ∃ W, W = v9.alloc (Obj.cells #[Value.bool r.neg, Value.string r.num, Value.string r.den] 24) := ⟨_, rfl⟩
  have hb : Below v9.heap.size v9 W4_0 := by rw [hW4_0]; exact (Below.refl _ _).alloc (Nat.le_refl _) _
  have hzW4_0 : v9.heap.size = B4 := by rw [hB4]
  have hlW4_0 : RatAt (B4) r W4_0 := by rw [← hzW4_0, hW4_0]; exact ⟨heap_lastM _ _⟩
  have D10 := Lib.hid (D9.out.trans (hb.mono D9.out.size))
  have a_10 := Lib.hid (a_9.out.bel hb)
  have b_10 := Lib.hid (b_9.out.bel hb)
  have p1_10 := Lib.hid (p1_9.out.bel hb)
  have q1_10 := Lib.hid (q1_9.out.bel hb)
  clear D9 a_9 b_9 p1_9 q1_9
  clear hb
  have r1_10 := Lib.hid hlW4_0
  clear hlW4_0
  rw [← hW4_0]
  simp only [← hB4]
  have HW4_0 := Lib.hid hW4_0
  clear hW4_0 hzW4_0
  have HB4 := Lib.hid hB4
  clear hB4
  have ne_a_r1 : Hid (B1 ≠ B4) := Lib.hid (by have := HB4.out; omega)
  clear hl_a
  have ne_b_r1 : Hid (B1 + 1 ≠ B4) := Lib.hid (by have := HB4.out; omega)
  clear hl_b
  have ne_p1_r1 : Hid (B2 ≠ B4) := Lib.hid (by have := HB4.out; omega)
  clear hl_p1
  have ne_q1_r1 : Hid (B3 ≠ B4) := Lib.hid (by have := HB4.out; omega)
  clear hl_q1
  have le_r1 : Hid (w.heap.size ≤ B4) := Lib.hid (by have := HB4.out; omega)
  clear hsz_r1
  refine (refmake4_any neg n d _).mono ?_
  rintro e v11 ⟨rfl, hb⟩
  have D11 := Lib.hid (D10.out.trans (hb.mono D10.out.size))
  have a_11 := Lib.hid (a_10.out.bel hb)
  have b_11 := Lib.hid (b_10.out.bel hb)
  have p1_11 := Lib.hid (p1_10.out.bel hb)
  have q1_11 := Lib.hid (q1_10.out.bel hb)
  have r1_11 := Lib.hid (r1_10.out.bel hb)
  clear D10 a_10 b_10 p1_10 q1_10 r1_10
  clear hb
  simp only [Hr.out]
  have ac0 := a_11.out.c0
  have ac1 := a_11.out.c1
  have ac2 := a_11.out.c2
  have az := blk_lt a_11.out.cells
  go_wp2_with fail
  clear ac0 ac1 ac2 az
  have hsz_s1 := D11.out.size
  have hl_a := blk_lt a_11.out.cells
  have hl_b := blk_lt b_11.out.cells
  have hl_p1 := blk_lt p1_11.out.cells
  have hl_q1 := blk_lt q1_11.out.cells
  have hl_r1 := blk_lt r1_11.out.cells
  obtain ⟨B5, hB5⟩ : ∃ B, B = v11.heap.size := ⟨_, rfl⟩
  obtain ⟨W5_0, hW5_0⟩ : ∃ W, W = v11.alloc (Obj.cells #[Value.bool r.neg, Value.string r.num, Value.string r.den] 24) := ⟨_, rfl⟩
  have hb : Below v11.heap.size v11 W5_0 := by rw [hW5_0]; exact (Below.refl _ _).alloc (Nat.le_refl _) _
  have hzW5_0 : v11.heap.size = B5 := by rw [hB5]
  have hlW5_0 : RatAt (B5) r W5_0 := by rw [← hzW5_0, hW5_0]; exact ⟨heap_lastM _ _⟩
  have D12 := Lib.hid (D11.out.trans (hb.mono D11.out.size))
  have a_12 := Lib.hid (a_11.out.bel hb)
  have b_12 := Lib.hid (b_11.out.bel hb)
  have p1_12 := Lib.hid (p1_11.out.bel hb)
  have q1_12 := Lib.hid (q1_11.out.bel hb)
  have r1_12 := Lib.hid (r1_11.out.bel hb)
  clear D11 a_11 b_11 p1_11 q1_11 r1_11
  clear hb
  have s1_12 := Lib.hid hlW5_0
  clear hlW5_0
  rw [← hW5_0]
  simp only [← hB5]
  have HW5_0 := Lib.hid hW5_0
  clear hW5_0 hzW5_0
  have HB5 := Lib.hid hB5
  clear hB5
  have ne_a_s1 : Hid (B1 ≠ B5) := Lib.hid (by have := HB5.out; omega)
  clear hl_a
  have ne_b_s1 : Hid (B1 + 1 ≠ B5) := Lib.hid (by have := HB5.out; omega)
  clear hl_b
  have ne_p1_s1 : Hid (B2 ≠ B5) := Lib.hid (by have := HB5.out; omega)
  clear hl_p1
  have ne_q1_s1 : Hid (B3 ≠ B5) := Lib.hid (by have := HB5.out; omega)
  clear hl_q1
  have ne_r1_s1 : Hid (B4 ≠ B5) := Lib.hid (by have := HB5.out; omega)
  clear hl_r1
  have le_s1 : Hid (w.heap.size ≤ B5) := Lib.hid (by have := HB5.out; omega)
  clear hsz_s1
  obtain ⟨u, e3, hv⟩ : ∃ p e, textE a = (p, e) := ⟨_, _, rfl⟩
  have Hu := Lib.hid hv; clear hv
  refine (prattext_any a _).mono ?_
  rintro e v13 ⟨rfl, hb⟩
  have D13 := Lib.hid (D12.out.trans (hb.mono D12.out.size))
  have a_13 := Lib.hid (a_12.out.bel hb)
  have b_13 := Lib.hid (b_12.out.bel hb)
  have p1_13 := Lib.hid (p1_12.out.bel hb)
  have q1_13 := Lib.hid (q1_12.out.bel hb)
  have r1_13 := Lib.hid (r1_12.out.bel hb)
  have s1_13 := Lib.hid (s1_12.out.bel hb)
  clear D12 a_12 b_12 p1_12 q1_12 r1_12 s1_12
  clear hb
  simp only [Hu.out]
  have ac0 := a_13.out.c0
  have ac1 := a_13.out.c1
  have ac2 := a_13.out.c2
  go_wp2_with fail
  clear ac0 ac1 ac2
  refine (reftext4_any a _).mono ?_
  rintro e v14 ⟨rfl, hb⟩
  have D14 := Lib.hid (D13.out.trans (hb.mono D13.out.size))
  have a_14 := Lib.hid (a_13.out.bel hb)
  have b_14 := Lib.hid (b_13.out.bel hb)
  have p1_14 := Lib.hid (p1_13.out.bel hb)
  have q1_14 := Lib.hid (q1_13.out.bel hb)
  have r1_14 := Lib.hid (r1_13.out.bel hb)
  have s1_14 := Lib.hid (s1_13.out.bel hb)
  clear D13 a_13 b_13 p1_13 q1_13 r1_13 s1_13
  clear hb
  simp only [Hu.out]
  go_wp2_with fail
  obtain ⟨v, e4, hv⟩ : ∃ p e, parseE t = (p, e) := ⟨_, _, rfl⟩
  have Hv := Lib.hid hv; clear hv
  refine (pratparse_any t _ HLT.out).mono ?_
  rintro e v15 ⟨rfl, hb⟩
  have D15 := Lib.hid (D14.out.trans (hb.mono D14.out.size))
  have a_15 := Lib.hid (a_14.out.bel hb)
  have b_15 := Lib.hid (b_14.out.bel hb)
  have p1_15 := Lib.hid (p1_14.out.bel hb)
  have q1_15 := Lib.hid (q1_14.out.bel hb)
  have r1_15 := Lib.hid (r1_14.out.bel hb)
  have s1_15 := Lib.hid (s1_14.out.bel hb)
  clear D14 a_14 b_14 p1_14 q1_14 r1_14 s1_14
  clear hb
  simp only [Hv.out]
  go_wp2_with fail
  have hsz_v1 := D15.out.size
  have hl_a := blk_lt a_15.out.cells
  have hl_b := blk_lt b_15.out.cells
  have hl_p1 := blk_lt p1_15.out.cells
  have hl_q1 := blk_lt q1_15.out.cells
  have hl_r1 := blk_lt r1_15.out.cells
  have hl_s1 := blk_lt s1_15.out.cells
  obtain ⟨B6, hB6⟩ : ∃ B, B = v15.heap.size := ⟨_, rfl⟩
  obtain ⟨W6_0, hW6_0⟩ : ∃ W, W = v15.alloc (Obj.cells #[Value.bool v.neg, Value.string v.num, Value.string v.den] 24) := ⟨_, rfl⟩
  have hb : Below v15.heap.size v15 W6_0 := by rw [hW6_0]; exact (Below.refl _ _).alloc (Nat.le_refl _) _
  have hzW6_0 : v15.heap.size = B6 := by rw [hB6]
  have hlW6_0 : RatAt (B6) v W6_0 := by rw [← hzW6_0, hW6_0]; exact ⟨heap_lastM _ _⟩
  have D16 := Lib.hid (D15.out.trans (hb.mono D15.out.size))
  have a_16 := Lib.hid (a_15.out.bel hb)
  have b_16 := Lib.hid (b_15.out.bel hb)
  have p1_16 := Lib.hid (p1_15.out.bel hb)
  have q1_16 := Lib.hid (q1_15.out.bel hb)
  have r1_16 := Lib.hid (r1_15.out.bel hb)
  have s1_16 := Lib.hid (s1_15.out.bel hb)
  clear D15 a_15 b_15 p1_15 q1_15 r1_15 s1_15
  clear hb
  have v1_16 := Lib.hid hlW6_0
  clear hlW6_0
  rw [← hW6_0]
  simp only [← hB6]
  have HW6_0 := Lib.hid hW6_0
  clear hW6_0 hzW6_0
  have HB6 := Lib.hid hB6
  clear hB6
  have ne_a_v1 : Hid (B1 ≠ B6) := Lib.hid (by have := HB6.out; omega)
  clear hl_a
  have ne_b_v1 : Hid (B1 + 1 ≠ B6) := Lib.hid (by have := HB6.out; omega)
  clear hl_b
  have ne_p1_v1 : Hid (B2 ≠ B6) := Lib.hid (by have := HB6.out; omega)
  clear hl_p1
  have ne_q1_v1 : Hid (B3 ≠ B6) := Lib.hid (by have := HB6.out; omega)
  clear hl_q1
  have ne_r1_v1 : Hid (B4 ≠ B6) := Lib.hid (by have := HB6.out; omega)
  clear hl_r1
  have ne_s1_v1 : Hid (B5 ≠ B6) := Lib.hid (by have := HB6.out; omega)
  clear hl_s1
  have le_v1 : Hid (w.heap.size ≤ B6) := Lib.hid (by have := HB6.out; omega)
  clear hsz_v1
  refine (refparse4_any t _ HLT.out).mono ?_
  rintro e v17 ⟨rfl, hb⟩
  have D17 := Lib.hid (D16.out.trans (hb.mono D16.out.size))
  have a_17 := Lib.hid (a_16.out.bel hb)
  have b_17 := Lib.hid (b_16.out.bel hb)
  have p1_17 := Lib.hid (p1_16.out.bel hb)
  have q1_17 := Lib.hid (q1_16.out.bel hb)
  have r1_17 := Lib.hid (r1_16.out.bel hb)
  have s1_17 := Lib.hid (s1_16.out.bel hb)
  have v1_17 := Lib.hid (v1_16.out.bel hb)
  clear D16 a_16 b_16 p1_16 q1_16 r1_16 s1_16 v1_16
  clear hb
  simp only [Hv.out]
  go_upto_region 12 with fail
  have hsz_w1 := D17.out.size
  have hl_a := blk_lt a_17.out.cells
  have hl_b := blk_lt b_17.out.cells
  have hl_p1 := blk_lt p1_17.out.cells
  have hl_q1 := blk_lt q1_17.out.cells
  have hl_r1 := blk_lt r1_17.out.cells
  have hl_s1 := blk_lt s1_17.out.cells
  have hl_v1 := blk_lt v1_17.out.cells
  obtain ⟨B7, hB7⟩ : ∃ B, B = v17.heap.size := ⟨_, rfl⟩
  obtain ⟨W7_0, hW7_0⟩ : ∃ W, W = v17.alloc (Obj.cells #[Value.bool v.neg, Value.string v.num, Value.string v.den] 24) := ⟨_, rfl⟩
  have hb : Below v17.heap.size v17 W7_0 := by rw [hW7_0]; exact (Below.refl _ _).alloc (Nat.le_refl _) _
  have hzW7_0 : v17.heap.size = B7 := by rw [hB7]
  have hlW7_0 : RatAt (B7) v W7_0 := by rw [← hzW7_0, hW7_0]; exact ⟨heap_lastM _ _⟩
  have D18 := Lib.hid (D17.out.trans (hb.mono D17.out.size))
  have a_18 := Lib.hid (a_17.out.bel hb)
  have b_18 := Lib.hid (b_17.out.bel hb)
  have p1_18 := Lib.hid (p1_17.out.bel hb)
  have q1_18 := Lib.hid (q1_17.out.bel hb)
  have r1_18 := Lib.hid (r1_17.out.bel hb)
  have s1_18 := Lib.hid (s1_17.out.bel hb)
  have v1_18 := Lib.hid (v1_17.out.bel hb)
  clear D17 a_17 b_17 p1_17 q1_17 r1_17 s1_17 v1_17
  clear hb
  have w1_18 := Lib.hid hlW7_0
  clear hlW7_0
  rw [← hW7_0]
  simp only [← hB7]
  have HW7_0 := Lib.hid hW7_0
  clear hW7_0 hzW7_0
  have HB7 := Lib.hid hB7
  clear hB7
  have ne_a_w1 : Hid (B1 ≠ B7) := Lib.hid (by have := HB7.out; omega)
  clear hl_a
  have ne_b_w1 : Hid (B1 + 1 ≠ B7) := Lib.hid (by have := HB7.out; omega)
  clear hl_b
  have ne_p1_w1 : Hid (B2 ≠ B7) := Lib.hid (by have := HB7.out; omega)
  clear hl_p1
  have ne_q1_w1 : Hid (B3 ≠ B7) := Lib.hid (by have := HB7.out; omega)
  clear hl_q1
  have ne_r1_w1 : Hid (B4 ≠ B7) := Lib.hid (by have := HB7.out; omega)
  clear hl_r1
  have ne_s1_w1 : Hid (B5 ≠ B7) := Lib.hid (by have := HB7.out; omega)
  clear hl_s1
  have ne_v1_w1 : Hid (B6 ≠ B7) := Lib.hid (by have := HB7.out; omega)
  clear hl_v1
  have le_w1 : Hid (w.heap.size ≤ B7) := Lib.hid (by have := HB7.out; omega)
  clear hsz_w1
  have n1 : ∀ w, (binOp .neq 24 (.agg #[.bool p.neg, .string p.num, .string p.den]) (.agg #[.bool p.neg, .string p.num, .string p.den])).run Tryz.prog w = .ok (.bool false) w := fun w => by rw [run_neq_rat, sameR_iff.2 rfl]; rfl
  have n2 : ∀ w, (binOp .neq 24 (.agg #[.bool r.neg, .string r.num, .string r.den]) (.agg #[.bool r.neg, .string r.num, .string r.den])).run Tryz.prog w = .ok (.bool false) w := fun w => by rw [run_neq_rat, sameR_iff.2 rfl]; rfl
  have n3 : ∀ w, (binOp .neq 24 (.agg #[.bool v.neg, .string v.num, .string v.den]) (.agg #[.bool v.neg, .string v.num, .string v.den])).run Tryz.prog w = .ok (.bool false) w := fun w => by rw [run_neq_rat, sameR_iff.2 rfl]; rfl
  go_cut [155] (fun s155 wx => s155 = .bool false ∧ Hid (Below W7_0.heap.size W7_0 wx))
  case first =>
    go_region_held3 (fun w' => Below W7_0.heap.size W7_0 w' ∧ w'.cell? ⟨B1, 0, none⟩ = some (.bool (a).neg) ∧ w'.cell? ⟨B1, 1, none⟩ = some (.string (a).num) ∧ w'.cell? ⟨B1, 2, none⟩ = some (.string (a).den) ∧ w'.cell? ⟨B1 + 1, 0, none⟩ = some (.bool (b).neg) ∧ w'.cell? ⟨B1 + 1, 1, none⟩ = some (.string (b).num) ∧ w'.cell? ⟨B1 + 1, 2, none⟩ = some (.string (b).den) ∧ w'.cell? ⟨B2, 0, none⟩ = some (.bool (p).neg) ∧ w'.cell? ⟨B2, 1, none⟩ = some (.string (p).num) ∧ w'.cell? ⟨B2, 2, none⟩ = some (.string (p).den) ∧ w'.cell? ⟨B3, 0, none⟩ = some (.bool (p).neg) ∧ w'.cell? ⟨B3, 1, none⟩ = some (.string (p).num) ∧ w'.cell? ⟨B3, 2, none⟩ = some (.string (p).den) ∧ w'.cell? ⟨B4, 0, none⟩ = some (.bool (r).neg) ∧ w'.cell? ⟨B4, 1, none⟩ = some (.string (r).num) ∧ w'.cell? ⟨B4, 2, none⟩ = some (.string (r).den) ∧ w'.cell? ⟨B5, 0, none⟩ = some (.bool (r).neg) ∧ w'.cell? ⟨B5, 1, none⟩ = some (.string (r).num) ∧ w'.cell? ⟨B5, 2, none⟩ = some (.string (r).den) ∧ w'.cell? ⟨B6, 0, none⟩ = some (.bool (v).neg) ∧ w'.cell? ⟨B6, 1, none⟩ = some (.string (v).num) ∧ w'.cell? ⟨B6, 2, none⟩ = some (.string (v).den) ∧ w'.cell? ⟨B7, 0, none⟩ = some (.bool (v).neg) ∧ w'.cell? ⟨B7, 1, none⟩ = some (.string (v).num) ∧ w'.cell? ⟨B7, 2, none⟩ = some (.string (v).den)) (first | (with_reducible assumption) | exact startn8 a_18.out b_18.out p1_18.out q1_18.out r1_18.out s1_18.out v1_18.out w1_18.out | exact next8 (by assumption) (by assumption) | exact next8 ((Below.refl _ _).alloc (Nat.le_refl _) _) (by assumption)) (first | (go_at_call 15; ((with_reducible refine (pratvalid_any a _).mono ?_); rintro e y1 ⟨rfl, hby1⟩)) | (go_at_call 16; ((with_reducible refine (refvalid4_any a _).mono ?_); rintro e y2 ⟨rfl, hby2⟩)) | (go_at_call 17; ((with_reducible refine (pratcmp_any a b _).mono ?_); rintro e y3 ⟨rfl, hby3⟩)) | (go_at_call 18; ((with_reducible refine (refcmp4_any a b _).mono ?_); rintro e y4 ⟨rfl, hby4⟩)) | fail "no arm")
    all_goals (go_wp2_with fail; go_meet; exact ⟨rfl, Lib.hid (And.left (by assumption))⟩)
  case rest =>
    obtain ⟨rfl, hcutB⟩ := hcut
    have D19 := Lib.hid (D18.out.trans (hcutB.out.mono D18.out.size))
    have a_19 := Lib.hid (a_18.out.bel hcutB.out)
    have b_19 := Lib.hid (b_18.out.bel hcutB.out)
    have p1_19 := Lib.hid (p1_18.out.bel hcutB.out)
    have q1_19 := Lib.hid (q1_18.out.bel hcutB.out)
    have r1_19 := Lib.hid (r1_18.out.bel hcutB.out)
    have s1_19 := Lib.hid (s1_18.out.bel hcutB.out)
    have v1_19 := Lib.hid (v1_18.out.bel hcutB.out)
    have w1_19 := Lib.hid (w1_18.out.bel hcutB.out)
    clear D18 a_18 b_18 p1_18 q1_18 r1_18 s1_18 v1_18 w1_18
    clear hcutB
    obtain ⟨wc12, hnm⟩ : ∃ x, x = wc := ⟨_, rfl⟩
    subst hnm
    clear n1 n2 n3
    clear v1_19
    clear w1_19
    obtain ⟨p2, e5, hv⟩ : ∃ p e, addE a b = (p, e) := ⟨_, _, rfl⟩
    have Hp2 := Lib.hid hv; clear hv
    obtain ⟨r2, e6, hv⟩ : ∃ p e, subE a b = (p, e) := ⟨_, _, rfl⟩
    have Hr2 := Lib.hid hv; clear hv
    have ac0 := a_19.out.c0
    have ac1 := a_19.out.c1
    have ac2 := a_19.out.c2
    have bc0 := b_19.out.c0
    have bc1 := b_19.out.c1
    have bc2 := b_19.out.c2
    go_wp2_with fail
    clear ac0 ac1 ac2 bc0 bc1 bc2
    refine (pratadd_any a b _).mono ?_
    rintro e v20 ⟨rfl, hb⟩
    have D20 := Lib.hid (D19.out.trans (hb.mono D19.out.size))
    have a_20 := Lib.hid (a_19.out.bel hb)
    have b_20 := Lib.hid (b_19.out.bel hb)
    have p1_20 := Lib.hid (p1_19.out.bel hb)
    have q1_20 := Lib.hid (q1_19.out.bel hb)
    have r1_20 := Lib.hid (r1_19.out.bel hb)
    have s1_20 := Lib.hid (s1_19.out.bel hb)
    clear D19 a_19 b_19 p1_19 q1_19 r1_19 s1_19
    clear hb
    simp only [Hp2.out]
    have ac0 := a_20.out.c0
    have ac1 := a_20.out.c1
    have ac2 := a_20.out.c2
    have bc0 := b_20.out.c0
    have bc1 := b_20.out.c1
    have bc2 := b_20.out.c2
    have sc0 := p1_20.out.c0; have sf0 := p1_20.out.fz 0
    have sc1 := p1_20.out.c1; have sf1 := p1_20.out.fz 1
    have sc2 := p1_20.out.c2; have sf2 := p1_20.out.fz 2
    go_upto_region 15 with fail
    clear ac0 ac1 ac2 bc0 bc1 bc2 sc0 sc1 sc2 sf0 sf1 sf2
    obtain ⟨X21, hX21⟩ : ∃ W, W = (((v20.setCell ⟨B2, 0, none⟩ (.bool p2.neg)).setCell ⟨B2, 1, none⟩ (.string p2.num)).setCell ⟨B2, 2, none⟩ (.string p2.den)) := ⟨_, rfl⟩
    have hbes : Bes B2 v20 X21 := by rw [hX21]; exact stored _ _ _ _ _
    have D21 : Hid (Below w.heap.size w X21) := Lib.hid (by rw [hX21]; exact ((D20.out.setCell (p := ⟨B2, 0, none⟩) le_p1.out _).setCell (p := ⟨B2, 1, none⟩) le_p1.out _).setCell (p := ⟨B2, 2, none⟩) le_p1.out _)
    have a_21 := Lib.hid (a_20.out.bes hbes ne_a_p1.out)
    have b_21 := Lib.hid (b_20.out.bes hbes ne_b_p1.out)
    have p1_21 : Hid (RatAt (B2) p2 X21) := Lib.hid (by rw [hX21]; exact p1_20.out.set p2)
    have q1_21 := Lib.hid (q1_20.out.bes hbes ne_p1_q1.out.symm)
    have r1_21 := Lib.hid (r1_20.out.bes hbes ne_p1_r1.out.symm)
    have s1_21 := Lib.hid (s1_20.out.bes hbes ne_p1_s1.out.symm)
    clear hbes D20 a_20 b_20 p1_20 q1_20 r1_20 s1_20
    rw [← hX21]
    have HX21 := Lib.hid hX21; clear hX21
    have ac0 := a_21.out.c0
    have ac1 := a_21.out.c1
    have ac2 := a_21.out.c2
    have bc0 := b_21.out.c0
    have bc1 := b_21.out.c1
    have bc2 := b_21.out.c2
    go_wp2_with fail
    clear ac0 ac1 ac2 bc0 bc1 bc2
    refine (refadd4_any a b _).mono ?_
    rintro e v22 ⟨rfl, hb⟩
    have D22 := Lib.hid (D21.out.trans (hb.mono D21.out.size))
    have a_22 := Lib.hid (a_21.out.bel hb)
    have b_22 := Lib.hid (b_21.out.bel hb)
    have p1_22 := Lib.hid (p1_21.out.bel hb)
    have q1_22 := Lib.hid (q1_21.out.bel hb)
    have r1_22 := Lib.hid (r1_21.out.bel hb)
    have s1_22 := Lib.hid (s1_21.out.bel hb)
    clear D21 a_21 b_21 p1_21 q1_21 r1_21 s1_21
    clear hb
    simp only [Hp2.out]
    have ac0 := a_22.out.c0
    have ac1 := a_22.out.c1
    have ac2 := a_22.out.c2
    have bc0 := b_22.out.c0
    have bc1 := b_22.out.c1
    have bc2 := b_22.out.c2
    have sc0 := q1_22.out.c0; have sf0 := q1_22.out.fz 0
    have sc1 := q1_22.out.c1; have sf1 := q1_22.out.fz 1
    have sc2 := q1_22.out.c2; have sf2 := q1_22.out.fz 2
    go_upto_region 16 with fail
    clear ac0 ac1 ac2 bc0 bc1 bc2 sc0 sc1 sc2 sf0 sf1 sf2
    obtain ⟨X23, hX23⟩ : ∃ W, W = (((v22.setCell ⟨B3, 0, none⟩ (.bool p2.neg)).setCell ⟨B3, 1, none⟩ (.string p2.num)).setCell ⟨B3, 2, none⟩ (.string p2.den)) := ⟨_, rfl⟩
    have hbes : Bes B3 v22 X23 := by rw [hX23]; exact stored _ _ _ _ _
    have D23 : Hid (Below w.heap.size w X23) := Lib.hid (by rw [hX23]; exact ((D22.out.setCell (p := ⟨B3, 0, none⟩) le_q1.out _).setCell (p := ⟨B3, 1, none⟩) le_q1.out _).setCell (p := ⟨B3, 2, none⟩) le_q1.out _)
    have a_23 := Lib.hid (a_22.out.bes hbes ne_a_q1.out)
    have b_23 := Lib.hid (b_22.out.bes hbes ne_b_q1.out)
    have p1_23 := Lib.hid (p1_22.out.bes hbes ne_p1_q1.out)
    have q1_23 : Hid (RatAt (B3) p2 X23) := Lib.hid (by rw [hX23]; exact q1_22.out.set p2)
    have r1_23 := Lib.hid (r1_22.out.bes hbes ne_q1_r1.out.symm)
    have s1_23 := Lib.hid (s1_22.out.bes hbes ne_q1_s1.out.symm)
    clear hbes D22 a_22 b_22 p1_22 q1_22 r1_22 s1_22
    rw [← hX23]
    have HX23 := Lib.hid hX23; clear hX23
    have ac0 := a_23.out.c0
    have ac1 := a_23.out.c1
    have ac2 := a_23.out.c2
    have bc0 := b_23.out.c0
    have bc1 := b_23.out.c1
    have bc2 := b_23.out.c2
    go_wp2_with fail
    clear ac0 ac1 ac2 bc0 bc1 bc2
    refine (pratsub_any a b _).mono ?_
    rintro e v24 ⟨rfl, hb⟩
    have D24 := Lib.hid (D23.out.trans (hb.mono D23.out.size))
    have a_24 := Lib.hid (a_23.out.bel hb)
    have b_24 := Lib.hid (b_23.out.bel hb)
    have p1_24 := Lib.hid (p1_23.out.bel hb)
    have q1_24 := Lib.hid (q1_23.out.bel hb)
    have r1_24 := Lib.hid (r1_23.out.bel hb)
    have s1_24 := Lib.hid (s1_23.out.bel hb)
    clear D23 a_23 b_23 p1_23 q1_23 r1_23 s1_23
    clear hb
    simp only [Hr2.out]
    have ac0 := a_24.out.c0
    have ac1 := a_24.out.c1
    have ac2 := a_24.out.c2
    have bc0 := b_24.out.c0
    have bc1 := b_24.out.c1
    have bc2 := b_24.out.c2
    have sc0 := r1_24.out.c0; have sf0 := r1_24.out.fz 0
    have sc1 := r1_24.out.c1; have sf1 := r1_24.out.fz 1
    have sc2 := r1_24.out.c2; have sf2 := r1_24.out.fz 2
    go_upto_region 17 with fail
    clear ac0 ac1 ac2 bc0 bc1 bc2 sc0 sc1 sc2 sf0 sf1 sf2
    obtain ⟨X25, hX25⟩ : ∃ W, W = (((v24.setCell ⟨B4, 0, none⟩ (.bool r2.neg)).setCell ⟨B4, 1, none⟩ (.string r2.num)).setCell ⟨B4, 2, none⟩ (.string r2.den)) := ⟨_, rfl⟩
    have hbes : Bes B4 v24 X25 := by rw [hX25]; exact stored _ _ _ _ _
    have D25 : Hid (Below w.heap.size w X25) := Lib.hid (by rw [hX25]; exact ((D24.out.setCell (p := ⟨B4, 0, none⟩) le_r1.out _).setCell (p := ⟨B4, 1, none⟩) le_r1.out _).setCell (p := ⟨B4, 2, none⟩) le_r1.out _)
    have a_25 := Lib.hid (a_24.out.bes hbes ne_a_r1.out)
    have b_25 := Lib.hid (b_24.out.bes hbes ne_b_r1.out)
    have p1_25 := Lib.hid (p1_24.out.bes hbes ne_p1_r1.out)
    have q1_25 := Lib.hid (q1_24.out.bes hbes ne_q1_r1.out)
    have r1_25 : Hid (RatAt (B4) r2 X25) := Lib.hid (by rw [hX25]; exact r1_24.out.set r2)
    have s1_25 := Lib.hid (s1_24.out.bes hbes ne_r1_s1.out.symm)
    clear hbes D24 a_24 b_24 p1_24 q1_24 r1_24 s1_24
    rw [← hX25]
    have HX25 := Lib.hid hX25; clear hX25
    have ac0 := a_25.out.c0
    have ac1 := a_25.out.c1
    have ac2 := a_25.out.c2
    have bc0 := b_25.out.c0
    have bc1 := b_25.out.c1
    have bc2 := b_25.out.c2
    go_wp2_with fail
    clear ac0 ac1 ac2 bc0 bc1 bc2
    refine (refsub4_any a b _).mono ?_
    rintro e v26 ⟨rfl, hb⟩
    have D26 := Lib.hid (D25.out.trans (hb.mono D25.out.size))
    have a_26 := Lib.hid (a_25.out.bel hb)
    have b_26 := Lib.hid (b_25.out.bel hb)
    have p1_26 := Lib.hid (p1_25.out.bel hb)
    have q1_26 := Lib.hid (q1_25.out.bel hb)
    have r1_26 := Lib.hid (r1_25.out.bel hb)
    have s1_26 := Lib.hid (s1_25.out.bel hb)
    clear D25 a_25 b_25 p1_25 q1_25 r1_25 s1_25
    clear hb
    simp only [Hr2.out]
    have ac0 := a_26.out.c0
    have ac1 := a_26.out.c1
    have ac2 := a_26.out.c2
    have bc0 := b_26.out.c0
    have bc1 := b_26.out.c1
    have bc2 := b_26.out.c2
    have sc0 := s1_26.out.c0; have sf0 := s1_26.out.fz 0
    have sc1 := s1_26.out.c1; have sf1 := s1_26.out.fz 1
    have sc2 := s1_26.out.c2; have sf2 := s1_26.out.fz 2
    go_upto_region 18 with fail
    clear ac0 ac1 ac2 bc0 bc1 bc2 sc0 sc1 sc2 sf0 sf1 sf2
    obtain ⟨X27, hX27⟩ : ∃ W, W = (((v26.setCell ⟨B5, 0, none⟩ (.bool r2.neg)).setCell ⟨B5, 1, none⟩ (.string r2.num)).setCell ⟨B5, 2, none⟩ (.string r2.den)) := ⟨_, rfl⟩
    have hbes : Bes B5 v26 X27 := by rw [hX27]; exact stored _ _ _ _ _
    have D27 : Hid (Below w.heap.size w X27) := Lib.hid (by rw [hX27]; exact ((D26.out.setCell (p := ⟨B5, 0, none⟩) le_s1.out _).setCell (p := ⟨B5, 1, none⟩) le_s1.out _).setCell (p := ⟨B5, 2, none⟩) le_s1.out _)
    have a_27 := Lib.hid (a_26.out.bes hbes ne_a_s1.out)
    have b_27 := Lib.hid (b_26.out.bes hbes ne_b_s1.out)
    have p1_27 := Lib.hid (p1_26.out.bes hbes ne_p1_s1.out)
    have q1_27 := Lib.hid (q1_26.out.bes hbes ne_q1_s1.out)
    have r1_27 := Lib.hid (r1_26.out.bes hbes ne_r1_s1.out)
    have s1_27 : Hid (RatAt (B5) r2 X27) := Lib.hid (by rw [hX27]; exact s1_26.out.set r2)
    clear hbes D26 a_26 b_26 p1_26 q1_26 r1_26 s1_26
    rw [← hX27]
    have HX27 := Lib.hid hX27; clear hX27
    obtain ⟨p3, e7, hv⟩ : ∃ p e, mulE a b = (p, e) := ⟨_, _, rfl⟩
    have Hp3 := Lib.hid hv; clear hv
    obtain ⟨r3, e8, hv⟩ : ∃ p e, divE a b = (p, e) := ⟨_, _, rfl⟩
    have Hr3 := Lib.hid hv; clear hv
    have n1 : ∀ w, (binOp .neq 24 (.agg #[.bool p2.neg, .string p2.num, .string p2.den]) (.agg #[.bool p2.neg, .string p2.num, .string p2.den])).run Tryz.prog w = .ok (.bool false) w := fun w => by rw [run_neq_rat, sameR_iff.2 rfl]; rfl
    have n2 : ∀ w, (binOp .neq 24 (.agg #[.bool r2.neg, .string r2.num, .string r2.den]) (.agg #[.bool r2.neg, .string r2.num, .string r2.den])).run Tryz.prog w = .ok (.bool false) w := fun w => by rw [run_neq_rat, sameR_iff.2 rfl]; rfl
    have ac0 := a_27.out.c0
    have ac1 := a_27.out.c1
    have ac2 := a_27.out.c2
    have bc0 := b_27.out.c0
    have bc1 := b_27.out.c1
    have bc2 := b_27.out.c2
    have p1c0 := p1_27.out.c0
    have p1c1 := p1_27.out.c1
    have p1c2 := p1_27.out.c2
    have q1c0 := q1_27.out.c0
    have q1c1 := q1_27.out.c1
    have q1c2 := q1_27.out.c2
    have r1c0 := r1_27.out.c0
    have r1c1 := r1_27.out.c1
    have r1c2 := r1_27.out.c2
    have s1c0 := s1_27.out.c0
    have s1c1 := s1_27.out.c1
    have s1c2 := s1_27.out.c2
    go_wp2_with fail
    clear ac0 ac1 ac2 bc0 bc1 bc2 p1c0 p1c1 p1c2 q1c0 q1c1 q1c2 r1c0 r1c1 r1c2 s1c0 s1c1 s1c2
    clear n1 n2
    refine (pratmul_any a b _).mono ?_
    rintro e v28 ⟨rfl, hb⟩
    have D28 := Lib.hid (D27.out.trans (hb.mono D27.out.size))
    have a_28 := Lib.hid (a_27.out.bel hb)
    have b_28 := Lib.hid (b_27.out.bel hb)
    have p1_28 := Lib.hid (p1_27.out.bel hb)
    have q1_28 := Lib.hid (q1_27.out.bel hb)
    have r1_28 := Lib.hid (r1_27.out.bel hb)
    have s1_28 := Lib.hid (s1_27.out.bel hb)
    clear D27 a_27 b_27 p1_27 q1_27 r1_27 s1_27
    clear hb
    simp only [Hp3.out]
    have ac0 := a_28.out.c0
    have ac1 := a_28.out.c1
    have ac2 := a_28.out.c2
    have bc0 := b_28.out.c0
    have bc1 := b_28.out.c1
    have bc2 := b_28.out.c2
    have sc0 := p1_28.out.c0; have sf0 := p1_28.out.fz 0
    have sc1 := p1_28.out.c1; have sf1 := p1_28.out.fz 1
    have sc2 := p1_28.out.c2; have sf2 := p1_28.out.fz 2
    go_upto_region 21 with fail
    clear ac0 ac1 ac2 bc0 bc1 bc2 sc0 sc1 sc2 sf0 sf1 sf2
    obtain ⟨X29, hX29⟩ : ∃ W, W = (((v28.setCell ⟨B2, 0, none⟩ (.bool p3.neg)).setCell ⟨B2, 1, none⟩ (.string p3.num)).setCell ⟨B2, 2, none⟩ (.string p3.den)) := ⟨_, rfl⟩
    have hbes : Bes B2 v28 X29 := by rw [hX29]; exact stored _ _ _ _ _
    have D29 : Hid (Below w.heap.size w X29) := Lib.hid (by rw [hX29]; exact ((D28.out.setCell (p := ⟨B2, 0, none⟩) le_p1.out _).setCell (p := ⟨B2, 1, none⟩) le_p1.out _).setCell (p := ⟨B2, 2, none⟩) le_p1.out _)
    have a_29 := Lib.hid (a_28.out.bes hbes ne_a_p1.out)
    have b_29 := Lib.hid (b_28.out.bes hbes ne_b_p1.out)
    have p1_29 : Hid (RatAt (B2) p3 X29) := Lib.hid (by rw [hX29]; exact p1_28.out.set p3)
    have q1_29 := Lib.hid (q1_28.out.bes hbes ne_p1_q1.out.symm)
    have r1_29 := Lib.hid (r1_28.out.bes hbes ne_p1_r1.out.symm)
    have s1_29 := Lib.hid (s1_28.out.bes hbes ne_p1_s1.out.symm)
    clear hbes D28 a_28 b_28 p1_28 q1_28 r1_28 s1_28
    rw [← hX29]
    have HX29 := Lib.hid hX29; clear hX29
    have ac0 := a_29.out.c0
    have ac1 := a_29.out.c1
    have ac2 := a_29.out.c2
    have bc0 := b_29.out.c0
    have bc1 := b_29.out.c1
    have bc2 := b_29.out.c2
    go_wp2_with fail
    clear ac0 ac1 ac2 bc0 bc1 bc2
    refine (refmul4_any a b _).mono ?_
    rintro e v30 ⟨rfl, hb⟩
    have D30 := Lib.hid (D29.out.trans (hb.mono D29.out.size))
    have a_30 := Lib.hid (a_29.out.bel hb)
    have b_30 := Lib.hid (b_29.out.bel hb)
    have p1_30 := Lib.hid (p1_29.out.bel hb)
    have q1_30 := Lib.hid (q1_29.out.bel hb)
    have r1_30 := Lib.hid (r1_29.out.bel hb)
    have s1_30 := Lib.hid (s1_29.out.bel hb)
    clear D29 a_29 b_29 p1_29 q1_29 r1_29 s1_29
    clear hb
    simp only [Hp3.out]
    have ac0 := a_30.out.c0
    have ac1 := a_30.out.c1
    have ac2 := a_30.out.c2
    have bc0 := b_30.out.c0
    have bc1 := b_30.out.c1
    have bc2 := b_30.out.c2
    have sc0 := q1_30.out.c0; have sf0 := q1_30.out.fz 0
    have sc1 := q1_30.out.c1; have sf1 := q1_30.out.fz 1
    have sc2 := q1_30.out.c2; have sf2 := q1_30.out.fz 2
    go_upto_region 22 with fail
    clear ac0 ac1 ac2 bc0 bc1 bc2 sc0 sc1 sc2 sf0 sf1 sf2
    obtain ⟨X31, hX31⟩ : ∃ W, W = (((v30.setCell ⟨B3, 0, none⟩ (.bool p3.neg)).setCell ⟨B3, 1, none⟩ (.string p3.num)).setCell ⟨B3, 2, none⟩ (.string p3.den)) := ⟨_, rfl⟩
    have hbes : Bes B3 v30 X31 := by rw [hX31]; exact stored _ _ _ _ _
    have D31 : Hid (Below w.heap.size w X31) := Lib.hid (by rw [hX31]; exact ((D30.out.setCell (p := ⟨B3, 0, none⟩) le_q1.out _).setCell (p := ⟨B3, 1, none⟩) le_q1.out _).setCell (p := ⟨B3, 2, none⟩) le_q1.out _)
    have a_31 := Lib.hid (a_30.out.bes hbes ne_a_q1.out)
    have b_31 := Lib.hid (b_30.out.bes hbes ne_b_q1.out)
    have p1_31 := Lib.hid (p1_30.out.bes hbes ne_p1_q1.out)
    have q1_31 : Hid (RatAt (B3) p3 X31) := Lib.hid (by rw [hX31]; exact q1_30.out.set p3)
    have r1_31 := Lib.hid (r1_30.out.bes hbes ne_q1_r1.out.symm)
    have s1_31 := Lib.hid (s1_30.out.bes hbes ne_q1_s1.out.symm)
    clear hbes D30 a_30 b_30 p1_30 q1_30 r1_30 s1_30
    rw [← hX31]
    have HX31 := Lib.hid hX31; clear hX31
    have ac0 := a_31.out.c0
    have ac1 := a_31.out.c1
    have ac2 := a_31.out.c2
    have bc0 := b_31.out.c0
    have bc1 := b_31.out.c1
    have bc2 := b_31.out.c2
    go_wp2_with fail
    clear ac0 ac1 ac2 bc0 bc1 bc2
    refine (pratdiv_any a b _).mono ?_
    rintro e v32 ⟨rfl, hb⟩
    have D32 := Lib.hid (D31.out.trans (hb.mono D31.out.size))
    have a_32 := Lib.hid (a_31.out.bel hb)
    have b_32 := Lib.hid (b_31.out.bel hb)
    have p1_32 := Lib.hid (p1_31.out.bel hb)
    have q1_32 := Lib.hid (q1_31.out.bel hb)
    have r1_32 := Lib.hid (r1_31.out.bel hb)
    have s1_32 := Lib.hid (s1_31.out.bel hb)
    clear D31 a_31 b_31 p1_31 q1_31 r1_31 s1_31
    clear hb
    simp only [Hr3.out]
    have ac0 := a_32.out.c0
    have ac1 := a_32.out.c1
    have ac2 := a_32.out.c2
    have bc0 := b_32.out.c0
    have bc1 := b_32.out.c1
    have bc2 := b_32.out.c2
    have sc0 := r1_32.out.c0; have sf0 := r1_32.out.fz 0
    have sc1 := r1_32.out.c1; have sf1 := r1_32.out.fz 1
    have sc2 := r1_32.out.c2; have sf2 := r1_32.out.fz 2
    go_upto_region 23 with fail
    clear ac0 ac1 ac2 bc0 bc1 bc2 sc0 sc1 sc2 sf0 sf1 sf2
    obtain ⟨X33, hX33⟩ : ∃ W, W = (((v32.setCell ⟨B4, 0, none⟩ (.bool r3.neg)).setCell ⟨B4, 1, none⟩ (.string r3.num)).setCell ⟨B4, 2, none⟩ (.string r3.den)) := ⟨_, rfl⟩
    have hbes : Bes B4 v32 X33 := by rw [hX33]; exact stored _ _ _ _ _
    have D33 : Hid (Below w.heap.size w X33) := Lib.hid (by rw [hX33]; exact ((D32.out.setCell (p := ⟨B4, 0, none⟩) le_r1.out _).setCell (p := ⟨B4, 1, none⟩) le_r1.out _).setCell (p := ⟨B4, 2, none⟩) le_r1.out _)
    have a_33 := Lib.hid (a_32.out.bes hbes ne_a_r1.out)
    have b_33 := Lib.hid (b_32.out.bes hbes ne_b_r1.out)
    have p1_33 := Lib.hid (p1_32.out.bes hbes ne_p1_r1.out)
    have q1_33 := Lib.hid (q1_32.out.bes hbes ne_q1_r1.out)
    have r1_33 : Hid (RatAt (B4) r3 X33) := Lib.hid (by rw [hX33]; exact r1_32.out.set r3)
    have s1_33 := Lib.hid (s1_32.out.bes hbes ne_r1_s1.out.symm)
    clear hbes D32 a_32 b_32 p1_32 q1_32 r1_32 s1_32
    rw [← hX33]
    have HX33 := Lib.hid hX33; clear hX33
    have ac0 := a_33.out.c0
    have ac1 := a_33.out.c1
    have ac2 := a_33.out.c2
    have bc0 := b_33.out.c0
    have bc1 := b_33.out.c1
    have bc2 := b_33.out.c2
    go_wp2_with fail
    clear ac0 ac1 ac2 bc0 bc1 bc2
    refine (refdiv4_any a b _).mono ?_
    rintro e v34 ⟨rfl, hb⟩
    have D34 := Lib.hid (D33.out.trans (hb.mono D33.out.size))
    have a_34 := Lib.hid (a_33.out.bel hb)
    have b_34 := Lib.hid (b_33.out.bel hb)
    have p1_34 := Lib.hid (p1_33.out.bel hb)
    have q1_34 := Lib.hid (q1_33.out.bel hb)
    have r1_34 := Lib.hid (r1_33.out.bel hb)
    have s1_34 := Lib.hid (s1_33.out.bel hb)
    clear D33 a_33 b_33 p1_33 q1_33 r1_33 s1_33
    clear hb
    simp only [Hr3.out]
    have ac0 := a_34.out.c0
    have ac1 := a_34.out.c1
    have ac2 := a_34.out.c2
    have bc0 := b_34.out.c0
    have bc1 := b_34.out.c1
    have bc2 := b_34.out.c2
    have sc0 := s1_34.out.c0; have sf0 := s1_34.out.fz 0
    have sc1 := s1_34.out.c1; have sf1 := s1_34.out.fz 1
    have sc2 := s1_34.out.c2; have sf2 := s1_34.out.fz 2
    go_upto_region 24 with fail
    clear ac0 ac1 ac2 bc0 bc1 bc2 sc0 sc1 sc2 sf0 sf1 sf2
    obtain ⟨X35, hX35⟩ : ∃ W, W = (((v34.setCell ⟨B5, 0, none⟩ (.bool r3.neg)).setCell ⟨B5, 1, none⟩ (.string r3.num)).setCell ⟨B5, 2, none⟩ (.string r3.den)) := ⟨_, rfl⟩
    have hbes : Bes B5 v34 X35 := by rw [hX35]; exact stored _ _ _ _ _
    have D35 : Hid (Below w.heap.size w X35) := Lib.hid (by rw [hX35]; exact ((D34.out.setCell (p := ⟨B5, 0, none⟩) le_s1.out _).setCell (p := ⟨B5, 1, none⟩) le_s1.out _).setCell (p := ⟨B5, 2, none⟩) le_s1.out _)
    have a_35 := Lib.hid (a_34.out.bes hbes ne_a_s1.out)
    have b_35 := Lib.hid (b_34.out.bes hbes ne_b_s1.out)
    have p1_35 := Lib.hid (p1_34.out.bes hbes ne_p1_s1.out)
    have q1_35 := Lib.hid (q1_34.out.bes hbes ne_q1_s1.out)
    have r1_35 := Lib.hid (r1_34.out.bes hbes ne_r1_s1.out)
    have s1_35 : Hid (RatAt (B5) r3 X35) := Lib.hid (by rw [hX35]; exact s1_34.out.set r3)
    clear hbes D34 a_34 b_34 p1_34 q1_34 r1_34 s1_34
    rw [← hX35]
    have HX35 := Lib.hid hX35; clear hX35
    have n1 : ∀ w, (binOp .eql 24 (.agg #[.bool p3.neg, .string p3.num, .string p3.den]) (.agg #[.bool p3.neg, .string p3.num, .string p3.den])).run Tryz.prog w = .ok (.bool true) w := fun w => by rw [run_eql_rat, sameR_iff.2 rfl]
    have n2 : ∀ w, (binOp .eql 24 (.agg #[.bool r3.neg, .string r3.num, .string r3.den]) (.agg #[.bool r3.neg, .string r3.num, .string r3.den])).run Tryz.prog w = .ok (.bool true) w := fun w => by rw [run_eql_rat, sameR_iff.2 rfl]
    have p1c0 := p1_35.out.c0
    have p1c1 := p1_35.out.c1
    have p1c2 := p1_35.out.c2
    have q1c0 := q1_35.out.c0
    have q1c1 := q1_35.out.c1
    have q1c2 := q1_35.out.c2
    have r1c0 := r1_35.out.c0
    have r1c1 := r1_35.out.c1
    have r1c2 := r1_35.out.c2
    have s1c0 := s1_35.out.c0
    have s1c1 := s1_35.out.c1
    have s1c2 := s1_35.out.c2
    go_wp2_with fail
    go_ret
    exact ⟨by first | rfl | simp, D35.out⟩
end Go.Proofs.YthpghjklnkdmfaaGreatDoor
