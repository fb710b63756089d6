/-
  The walk of IntervalOrder.
-/
import Derived.Test.YtbcoblpnihdhgaaDoorIvHead
set_option linter.unusedVariables false
set_option maxRecDepth 100000
namespace Go.Proofs.YtbcoblpnihdhgaaDoor
open Go.RowKit
open Rt
/-- six stores into one block -/
theorem stored6 (w : World) (B : Nat) (u0 u1 u2 u3 u4 u5 : Value) : Bes B w ((((((w.setCell ⟨B, 0, none⟩ u0).setCell ⟨B, 1, none⟩ u1).setCell ⟨B, 2, none⟩ u2).setCell ⟨B, 3, none⟩ u3).setCell ⟨B, 4, none⟩ u4).setCell ⟨B, 5, none⟩ u5) :=
  (((((Bes.set w B 0 u0).trans (Bes.set _ B 1 u1)).trans (Bes.set _ B 2 u2)).trans (Bes.set _ B 3 u3)).trans (Bes.set _ B 4 u4)).trans (Bes.set _ B 5 u5)
set_option maxHeartbeats 8000000 in
theorem walkIntervalOrder (a : Iv) (b : Iv) (c : Iv) (w : World) (ht : TabOk w) (sa : BigI a) (sb : BigI b) (sc : BigI c) : Calls Tryd.prog 7 #[.agg #[.bool a.low.neg, .string a.low.num, .string a.low.den, .bool a.high.neg, .string a.high.num, .string a.high.den], .agg #[.bool b.low.neg, .string b.low.num, .string b.low.den, .bool b.high.neg, .string b.high.num, .string b.high.den], .agg #[.bool c.low.neg, .string c.low.num, .string c.low.den, .bool c.high.neg, .string c.high.num, .string c.high.den]] w fun e w' => e = .returned (.bool true) ∧ Below w.heap.size w w' := by
  have HT := Lib.hid ht; clear ht
  have HSa := Lib.hid sa; clear sa
  have HSb := Lib.hid sb; clear sb
  have HSc := Lib.hid sc; clear sc
  have D0 := Lib.hid (Below.refl w.heap.size w)
  go_enter Tryd.func7, Tryd.ntmps7
  go_wp2_with fail
  obtain ⟨B1, hB1⟩ : ∃ B, B = w.heap.size := ⟨_, rfl⟩
  obtain ⟨W1_0, hW1_0⟩ : ∃ W, W = w.alloc (Obj.cells #[Value.bool a.low.neg, Value.string a.low.num, Value.string a.low.den, Value.bool a.high.neg, Value.string a.high.num, Value.string a.high.den] 26) := ⟨_, rfl⟩
  have hb : Below w.heap.size w W1_0 := by rw [hW1_0]; exact (Below.refl _ _).alloc (Nat.le_refl _) _
  have hzW1_0 : w.heap.size = B1 := by rw [hB1]
  have hlW1_0 : IvAt (B1) a W1_0 := by rw [← hzW1_0, hW1_0]; exact ⟨heap_lastM _ _⟩
  have D1 := Lib.hid (D0.out.trans (hb.mono D0.out.size))
  clear hb
  have a_1 := Lib.hid hlW1_0
  clear hlW1_0
  obtain ⟨W1_1, hW1_1⟩ : ∃ W, W = W1_0.alloc (Obj.cells #[Value.bool b.low.neg, Value.string b.low.num, Value.string b.low.den, Value.bool b.high.neg, Value.string b.high.num, Value.string b.high.den] 26) := ⟨_, rfl⟩
  have hb : Below W1_0.heap.size W1_0 W1_1 := by rw [hW1_1]; exact (Below.refl _ _).alloc (Nat.le_refl _) _
  have hzW1_1 : W1_0.heap.size = B1 + 1 := by rw [hW1_0]; simp [hzW1_0]
  have hlW1_1 : IvAt (B1 + 1) b W1_1 := by rw [← hzW1_1, hW1_1]; exact ⟨heap_lastM _ _⟩
  have D2 := Lib.hid (D1.out.trans (hb.mono D1.out.size))
  have a_2 := Lib.hid (a_1.out.bel hb)
  clear D1 a_1
  clear hb
  have b_2 := Lib.hid hlW1_1
  clear hlW1_1
  obtain ⟨W1_2, hW1_2⟩ : ∃ W, W = W1_1.alloc (Obj.cells #[Value.bool c.low.neg, Value.string c.low.num, Value.string c.low.den, Value.bool c.high.neg, Value.string c.high.num, Value.string c.high.den] 26) := ⟨_, rfl⟩
  have hb : Below W1_1.heap.size W1_1 W1_2 := by rw [hW1_2]; exact (Below.refl _ _).alloc (Nat.le_refl _) _
  have hzW1_2 : W1_1.heap.size = B1 + 1 + 1 := by rw [hW1_1]; simp [hzW1_1]
  have hlW1_2 : IvAt (B1 + 1 + 1) c W1_2 := by rw [← hzW1_2, hW1_2]; exact ⟨heap_lastM _ _⟩
  have D3 := Lib.hid (D2.out.trans (hb.mono D2.out.size))
  have a_3 := Lib.hid (a_2.out.bel hb)
  have b_3 := Lib.hid (b_2.out.bel hb)
  clear D2 a_2 b_2
  clear hb
  have c_3 := Lib.hid hlW1_2
  clear hlW1_2
  rw [← hW1_0]
  rw [← hW1_1]
  rw [← hW1_2]
  simp only [← hB1]
  have HW1_0 := Lib.hid hW1_0
  clear hW1_0 hzW1_0
  have HW1_1 := Lib.hid hW1_1
  clear hW1_1 hzW1_1
  have HW1_2 := Lib.hid hW1_2
  clear hW1_2 hzW1_2
  have HB1 := Lib.hid hB1
  clear hB1
  refine (head5_any _ (HT.out.below D3.out)).mono ?_
  rintro e v4 ⟨rfl, hb⟩
  have D4 := Lib.hid (D3.out.trans (hb.mono D3.out.size))
  have a_4 := Lib.hid (a_3.out.bel hb)
  have b_4 := Lib.hid (b_3.out.bel hb)
  have c_4 := Lib.hid (c_3.out.bel hb)
  clear D3 a_3 b_3 c_3
  clear hb
  have ac0 := a_4.out.c0
  have ac1 := a_4.out.c1
  have ac2 := a_4.out.c2
  have ac3 := a_4.out.c3
  have ac4 := a_4.out.c4
  have ac5 := a_4.out.c5
  have az := blk_lt a_4.out.cells
  have bc0 := b_4.out.c0
  have bc1 := b_4.out.c1
  have bc2 := b_4.out.c2
  have bc3 := b_4.out.c3
  have bc4 := b_4.out.c4
  have bc5 := b_4.out.c5
  have bz := blk_lt b_4.out.cells
  have cc0 := c_4.out.c0
  have cc1 := c_4.out.c1
  have cc2 := c_4.out.c2
  have cc3 := c_4.out.c3
  have cc4 := c_4.out.c4
  have cc5 := c_4.out.c5
  have cz := blk_lt c_4.out.cells
  go_wp2_with fail
  clear ac0 ac1 ac2 ac3 ac4 ac5 az bc0 bc1 bc2 bc3 bc4 bc5 bz cc0 cc1 cc2 cc3 cc4 cc5 cz
  have h1 : IvsOk (v4.alloc (Obj.cells #[Value.bool a.low.neg, Value.string a.low.num, Value.string a.low.den, Value.bool a.high.neg, Value.string a.high.num, Value.string a.high.den, Value.bool b.low.neg, Value.string b.low.num, Value.string b.low.den, Value.bool b.high.neg, Value.string b.high.num, Value.string b.high.den, Value.bool c.low.neg, Value.string c.low.num, Value.string c.low.den, Value.bool c.high.neg, Value.string c.high.num, Value.string c.high.den] 26)) (.slice (some ⟨v4.heap.size, 0, none⟩) 3 3) [a, b, c] := ivs_3 a b c v4 HSa.out HSb.out HSc.out
  have hx1 : Below v4.heap.size v4 (v4.alloc (Obj.cells #[Value.bool a.low.neg, Value.string a.low.num, Value.string a.low.den, Value.bool a.high.neg, Value.string a.high.num, Value.string a.high.den, Value.bool b.low.neg, Value.string b.low.num, Value.string b.low.den, Value.bool b.high.neg, Value.string b.high.num, Value.string b.high.den, Value.bool c.low.neg, Value.string c.low.num, Value.string c.low.den, Value.bool c.high.neg, Value.string c.high.num, Value.string c.high.den] 26)) := (Below.refl _ _).alloc (Nat.le_refl _) _
  have hx := hx1
  refine (few5_any _ _ _ _ _ h1 ⟨.inl ⟨rfl, rfl⟩, by decide, by intro r hr; cases hr⟩).mono ?_
  rintro e vf ⟨rfl, hbf⟩
  have hb := hx.trans (hbf.mono hx.size); clear h1 hx1 hx hbf
  have D5 := Lib.hid (D4.out.trans (hb.mono D4.out.size))
  have a_5 := Lib.hid (a_4.out.bel hb)
  have b_5 := Lib.hid (b_4.out.bel hb)
  have c_5 := Lib.hid (c_4.out.bel hb)
  clear D4 a_4 b_4 c_4
  clear hb
  rcases Bool.eq_false_or_eq_true (fewI [a, b, c] && fewS []) with hp | hp
  rotate_left
  ·
    simp only [hp]
    go_wp2_with fail
    go_ret
    exact ⟨rfl, D5.out⟩
  simp only [hp]
  have HF := Lib.hid hp; clear hp
  have hf := HF.out; rw [Bool.and_eq_true, fewI_iff, fewS_iff] at hf
  have Za : Hid (SzI a) := Lib.hid (hf.1.2 a (by simp))
  have Zb : Hid (SzI b) := Lib.hid (hf.1.2 b (by simp))
  have Zc : Hid (SzI c) := Lib.hid (hf.1.2 c (by simp))
  clear hf
  obtain ⟨p, e1, hv⟩ : ∃ p e, addI a b = (p, e) := ⟨_, _, rfl⟩
  have Hp := Lib.hid hv; clear hv
  obtain ⟨x, e2, hv⟩ : ∃ p e, mulI a b = (p, e) := ⟨_, _, rfl⟩
  have Hx := Lib.hid hv; clear hv
  obtain ⟨u, e3, hv⟩ : ∃ p e, meetI a b = (p, e) := ⟨_, _, rfl⟩
  have Hu := Lib.hid hv; clear hv
  have Hp' : Hid (addI b a = (p, e1)) := Lib.hid (by rw [add_swap Zb.out Za.out]; exact Hp.out)
  have Hx' : Hid (mulI b a = (x, e2)) := Lib.hid (by rw [mul_swap Zb.out Za.out]; exact Hx.out)
  have Hu' : Hid (meetI b a = (u, e3)) := Lib.hid (by rw [meet_swap]; exact Hu.out)
  have ac0 := a_5.out.c0
  have ac1 := a_5.out.c1
  have ac2 := a_5.out.c2
  have ac3 := a_5.out.c3
  have ac4 := a_5.out.c4
  have ac5 := a_5.out.c5
  have bc0 := b_5.out.c0
  have bc1 := b_5.out.c1
  have bc2 := b_5.out.c2
  have bc3 := b_5.out.c3
  have bc4 := b_5.out.c4
  have bc5 := b_5.out.c5
  have cc0 := c_5.out.c0
  have cc1 := c_5.out.c1
  have cc2 := c_5.out.c2
  have cc3 := c_5.out.c3
  have cc4 := c_5.out.c4
  have cc5 := c_5.out.c5
  go_wp2_with fail
  clear ac0 ac1 ac2 ac3 ac4 ac5 bc0 bc1 bc2 bc3 bc4 bc5 cc0 cc1 cc2 cc3 cc4 cc5
  refine (piadd_any a b _).mono ?_
  rintro e v6 ⟨rfl, hb⟩
  have D6 := Lib.hid (D5.out.trans (hb.mono D5.out.size))
  have a_6 := Lib.hid (a_5.out.bel hb)
  have b_6 := Lib.hid (b_5.out.bel hb)
  have c_6 := Lib.hid (c_5.out.bel hb)
  clear D5 a_5 b_5 c_5
  clear hb
  simp only [Hp.out]
  have ac0 := a_6.out.c0
  have ac1 := a_6.out.c1
  have ac2 := a_6.out.c2
  have ac3 := a_6.out.c3
  have ac4 := a_6.out.c4
  have ac5 := a_6.out.c5
  have az := blk_lt a_6.out.cells
  have bc0 := b_6.out.c0
  have bc1 := b_6.out.c1
  have bc2 := b_6.out.c2
  have bc3 := b_6.out.c3
  have bc4 := b_6.out.c4
  have bc5 := b_6.out.c5
  have bz := blk_lt b_6.out.cells
  have cc0 := c_6.out.c0
  have cc1 := c_6.out.c1
  have cc2 := c_6.out.c2
  have cc3 := c_6.out.c3
  have cc4 := c_6.out.c4
  have cc5 := c_6.out.c5
  have cz := blk_lt c_6.out.cells
  go_wp2_with fail
  clear ac0 ac1 ac2 ac3 ac4 ac5 az bc0 bc1 bc2 bc3 bc4 bc5 bz cc0 cc1 cc2 cc3 cc4 cc5 cz
  have hsz_p1 := D6.out.size
  have hl_a := blk_lt a_6.out.cells
  have hl_b := blk_lt b_6.out.cells
  have hl_c := blk_lt c_6.out.cells
  obtain ⟨B2, hB2⟩ : ∃ B, B = v6.heap.size := ⟨_, rfl⟩
  obtain ⟨W2_0, hW2_0⟩ : ∃ W, W = v6.alloc (Obj.cells #[Value.bool p.low.neg, Value.string p.low.num, Value.string p.low.den, Value.bool p.high.neg, Value.string p.high.num, Value.string p.high.den] 26) := ⟨_, rfl⟩
  have hb : Below v6.heap.size v6 W2_0 := by rw [hW2_0]; exact (Below.refl _ _).alloc (Nat.le_refl _) _
  have hzW2_0 : v6.heap.size = B2 := by rw [hB2]
  have hlW2_0 : IvAt (B2) p W2_0 := by rw [← hzW2_0, hW2_0]; exact ⟨heap_lastM _ _⟩
  have D7 := Lib.hid (D6.out.trans (hb.mono D6.out.size))
  have a_7 := Lib.hid (a_6.out.bel hb)
  have b_7 := Lib.hid (b_6.out.bel hb)
  have c_7 := Lib.hid (c_6.out.bel hb)
  clear D6 a_6 b_6 c_6
  clear hb
  have p1_7 := Lib.hid hlW2_0
  clear hlW2_0
  rw [← hW2_0]
  simp only [← hB2]
  have HW2_0 := Lib.hid hW2_0
  clear hW2_0 hzW2_0
  have HB2 := Lib.hid hB2
  clear hB2
  have ne_a_p1 : Hid (B1 ≠ B2) := Lib.hid (by have := HB2.out; omega)
  clear hl_a
  have ne_b_p1 : Hid (B1 + 1 ≠ B2) := Lib.hid (by have := HB2.out; omega)
  clear hl_b
  have ne_c_p1 : Hid (B1 + 1 + 1 ≠ B2) := Lib.hid (by have := HB2.out; omega)
  clear hl_c
  have le_p1 : Hid (w.heap.size ≤ B2) := Lib.hid (by have := HB2.out; omega)
  clear hsz_p1
  refine (piadd_any b a _).mono ?_
  rintro e v8 ⟨rfl, hb⟩
  have D8 := Lib.hid (D7.out.trans (hb.mono D7.out.size))
  have a_8 := Lib.hid (a_7.out.bel hb)
  have b_8 := Lib.hid (b_7.out.bel hb)
  have c_8 := Lib.hid (c_7.out.bel hb)
  have p1_8 := Lib.hid (p1_7.out.bel hb)
  clear D7 a_7 b_7 c_7 p1_7
  clear hb
  simp only [Hp'.out]
  have ac0 := a_8.out.c0
  have ac1 := a_8.out.c1
  have ac2 := a_8.out.c2
  have ac3 := a_8.out.c3
  have ac4 := a_8.out.c4
  have ac5 := a_8.out.c5
  have az := blk_lt a_8.out.cells
  have bc0 := b_8.out.c0
  have bc1 := b_8.out.c1
  have bc2 := b_8.out.c2
  have bc3 := b_8.out.c3
  have bc4 := b_8.out.c4
  have bc5 := b_8.out.c5
  have bz := blk_lt b_8.out.cells
  have cc0 := c_8.out.c0
  have cc1 := c_8.out.c1
  have cc2 := c_8.out.c2
  have cc3 := c_8.out.c3
  have cc4 := c_8.out.c4
  have cc5 := c_8.out.c5
  have cz := blk_lt c_8.out.cells
  go_wp2_with fail
  clear ac0 ac1 ac2 ac3 ac4 ac5 az bc0 bc1 bc2 bc3 bc4 bc5 bz cc0 cc1 cc2 cc3 cc4 cc5 cz
  have hsz_q1 := D8.out.size
  have hl_a := blk_lt a_8.out.cells
  have hl_b := blk_lt b_8.out.cells
  have hl_c := blk_lt c_8.out.cells
  have hl_p1 := blk_lt p1_8.out.cells
  obtain ⟨B3, hB3⟩ : ∃ B, B = v8.heap.size := ⟨_, rfl⟩
  obtain ⟨W3_0, hW3_0⟩ : ∃ W, W = v8.alloc (Obj.cells #[Value.bool p.low.neg, Value.string p.low.num, Value.string p.low.den, Value.bool p.high.neg, Value.string p.high.num, Value.string p.high.den] 26) := ⟨_, rfl⟩
  have hb : Below v8.heap.size v8 W3_0 := by rw [hW3_0]; exact (Below.refl _ _).alloc (Nat.le_refl _) _
  have hzW3_0 : v8.heap.size = B3 := by rw [hB3]
  have hlW3_0 : IvAt (B3) p W3_0 := by rw [← hzW3_0, hW3_0]; exact ⟨heap_lastM _ _⟩
  have D9 := Lib.hid (D8.out.trans (hb.mono D8.out.size))
  have a_9 := Lib.hid (a_8.out.bel hb)
  have b_9 := Lib.hid (b_8.out.bel hb)
  have c_9 := Lib.hid (c_8.out.bel hb)
  have p1_9 := Lib.hid (p1_8.out.bel hb)
  clear D8 a_8 b_8 c_8 p1_8
  clear hb
  have q1_9 := Lib.hid hlW3_0
  clear hlW3_0
  rw [← hW3_0]
  simp only [← hB3]
  have HW3_0 := Lib.hid hW3_0
  clear hW3_0 hzW3_0
  have HB3 := Lib.hid hB3
  clear hB3
  have ne_a_q1 : Hid (B1 ≠ B3) := Lib.hid (by have := HB3.out; omega)
  clear hl_a
  have ne_b_q1 : Hid (B1 + 1 ≠ B3) := Lib.hid (by have := HB3.out; omega)
  clear hl_b
  have ne_c_q1 : Hid (B1 + 1 + 1 ≠ B3) := Lib.hid (by have := HB3.out; omega)
  clear hl_c
  have ne_p1_q1 : Hid (B2 ≠ B3) := Lib.hid (by have := HB3.out; omega)
  clear hl_p1
  have le_q1 : Hid (w.heap.size ≤ B3) := Lib.hid (by have := HB3.out; omega)
  clear hsz_q1
  refine (pimul_any a b _).mono ?_
  rintro e v10 ⟨rfl, hb⟩
  have D10 := Lib.hid (D9.out.trans (hb.mono D9.out.size))
  have a_10 := Lib.hid (a_9.out.bel hb)
  have b_10 := Lib.hid (b_9.out.bel hb)
  have c_10 := Lib.hid (c_9.out.bel hb)
  have p1_10 := Lib.hid (p1_9.out.bel hb)
  have q1_10 := Lib.hid (q1_9.out.bel hb)
  clear D9 a_9 b_9 c_9 p1_9 q1_9
  clear hb
  simp only [Hx.out]
  have ac0 := a_10.out.c0
  have ac1 := a_10.out.c1
  have ac2 := a_10.out.c2
  have ac3 := a_10.out.c3
  have ac4 := a_10.out.c4
  have ac5 := a_10.out.c5
  have az := blk_lt a_10.out.cells
  have bc0 := b_10.out.c0
  have bc1 := b_10.out.c1
  have bc2 := b_10.out.c2
  have bc3 := b_10.out.c3
  have bc4 := b_10.out.c4
  have bc5 := b_10.out.c5
  have bz := blk_lt b_10.out.cells
  have cc0 := c_10.out.c0
  have cc1 := c_10.out.c1
  have cc2 := c_10.out.c2
  have cc3 := c_10.out.c3
  have cc4 := c_10.out.c4
  have cc5 := c_10.out.c5
  have cz := blk_lt c_10.out.cells
  go_wp2_with fail
  clear ac0 ac1 ac2 ac3 ac4 ac5 az bc0 bc1 bc2 bc3 bc4 bc5 bz cc0 cc1 cc2 cc3 cc4 cc5 cz
  have hsz_x1 := D10.out.size
  have hl_a := blk_lt a_10.out.cells
  have hl_b := blk_lt b_10.out.cells
  have hl_c := blk_lt c_10.out.cells
  have hl_p1 := blk_lt p1_10.out.cells
  have hl_q1 := blk_lt q1_10.out.cells
  obtain ⟨B4, hB4⟩ : ∃ B, B = v10.heap.size := ⟨_, rfl⟩
  obtain ⟨W4_0, hW4_0⟩ : ∃ W, W = v10.alloc (Obj.cells #[Value.bool x.low.neg, Value.string x.low.num, Value.string x.low.den, Value.bool x.high.neg, Value.string x.high.num, Value.string x.high.den] 26) := ⟨_, rfl⟩
  have hb : Below v10.heap.size v10 W4_0 := by rw [hW4_0]; exact (Below.refl _ _).alloc (Nat.le_refl _) _
  have hzW4_0 : v10.heap.size = B4 := by rw [hB4]
  have hlW4_0 : IvAt (B4) x W4_0 := by rw [← hzW4_0, hW4_0]; exact ⟨heap_lastM _ _⟩
  have D11 := Lib.hid (D10.out.trans (hb.mono D10.out.size))
  have a_11 := Lib.hid (a_10.out.bel hb)
  have b_11 := Lib.hid (b_10.out.bel hb)
  have c_11 := Lib.hid (c_10.out.bel hb)
  have p1_11 := Lib.hid (p1_10.out.bel hb)
  have q1_11 := Lib.hid (q1_10.out.bel hb)
  clear D10 a_10 b_10 c_10 p1_10 q1_10
  clear hb
  have x1_11 := Lib.hid hlW4_0
  clear hlW4_0
  rw [← hW4_0]
  simp only [← hB4]
  have HW4_0 := Lib.hid hW4_0
  clear hW4_0 hzW4_0
  have HB4 := Lib.hid hB4
  clear hB4
  have ne_a_x1 : Hid (B1 ≠ B4) := Lib.hid (by have := HB4.out; omega)
  clear hl_a
  have ne_b_x1 : Hid (B1 + 1 ≠ B4) := Lib.hid (by have := HB4.out; omega)
  clear hl_b
  have ne_c_x1 : Hid (B1 + 1 + 1 ≠ B4) := Lib.hid (by have := HB4.out; omega)
  clear hl_c
  have ne_p1_x1 : Hid (B2 ≠ B4) := Lib.hid (by have := HB4.out; omega)
  clear hl_p1
  have ne_q1_x1 : Hid (B3 ≠ B4) := Lib.hid (by have := HB4.out; omega)
  clear hl_q1
  have le_x1 : Hid (w.heap.size ≤ B4) := Lib.hid (by have := HB4.out; omega)
  clear hsz_x1
  refine (pimul_any b a _).mono ?_
  rintro e v12 ⟨rfl, hb⟩
  have D12 := Lib.hid (D11.out.trans (hb.mono D11.out.size))
  have a_12 := Lib.hid (a_11.out.bel hb)
  have b_12 := Lib.hid (b_11.out.bel hb)
  have c_12 := Lib.hid (c_11.out.bel hb)
  have p1_12 := Lib.hid (p1_11.out.bel hb)
  have q1_12 := Lib.hid (q1_11.out.bel hb)
  have x1_12 := Lib.hid (x1_11.out.bel hb)
  clear D11 a_11 b_11 c_11 p1_11 q1_11 x1_11
  clear hb
  simp only [Hx'.out]
  have ac0 := a_12.out.c0
  have ac1 := a_12.out.c1
  have ac2 := a_12.out.c2
  have ac3 := a_12.out.c3
  have ac4 := a_12.out.c4
  have ac5 := a_12.out.c5
  have az := blk_lt a_12.out.cells
  have bc0 := b_12.out.c0
  have bc1 := b_12.out.c1
  have bc2 := b_12.out.c2
  have bc3 := b_12.out.c3
  have bc4 := b_12.out.c4
  have bc5 := b_12.out.c5
  have bz := blk_lt b_12.out.cells
  have cc0 := c_12.out.c0
  have cc1 := c_12.out.c1
  have cc2 := c_12.out.c2
  have cc3 := c_12.out.c3
  have cc4 := c_12.out.c4
  have cc5 := c_12.out.c5
  have cz := blk_lt c_12.out.cells
  go_wp2_with fail
  clear ac0 ac1 ac2 ac3 ac4 ac5 az bc0 bc1 bc2 bc3 bc4 bc5 bz cc0 cc1 cc2 cc3 cc4 cc5 cz
  have hsz_y1 := D12.out.size
  have hl_a := blk_lt a_12.out.cells
  have hl_b := blk_lt b_12.out.cells
  have hl_c := blk_lt c_12.out.cells
  have hl_p1 := blk_lt p1_12.out.cells
  have hl_q1 := blk_lt q1_12.out.cells
  have hl_x1 := blk_lt x1_12.out.cells
  obtain ⟨B5, hB5⟩ : ∃ B, B = v12.heap.size := ⟨_, rfl⟩
  obtain ⟨W5_0, hW5_0⟩ : ∃ W, W = v12.alloc (Obj.cells #[Value.bool x.low.neg, Value.string x.low.num, Value.string x.low.den, Value.bool x.high.neg, Value.string x.high.num, Value.string x.high.den] 26) := ⟨_, rfl⟩
  have hb : Below v12.heap.size v12 W5_0 := by rw [hW5_0]; exact (Below.refl _ _).alloc (Nat.le_refl _) _
  have hzW5_0 : v12.heap.size = B5 := by rw [hB5]
  have hlW5_0 : IvAt (B5) x W5_0 := by rw [← hzW5_0, hW5_0]; exact ⟨heap_lastM _ _⟩
  have D13 := Lib.hid (D12.out.trans (hb.mono D12.out.size))
  have a_13 := Lib.hid (a_12.out.bel hb)
  have b_13 := Lib.hid (b_12.out.bel hb)
  have c_13 := Lib.hid (c_12.out.bel hb)
  have p1_13 := Lib.hid (p1_12.out.bel hb)
  have q1_13 := Lib.hid (q1_12.out.bel hb)
  have x1_13 := Lib.hid (x1_12.out.bel hb)
  clear D12 a_12 b_12 c_12 p1_12 q1_12 x1_12
  clear hb
  have y1_13 := Lib.hid hlW5_0
  clear hlW5_0
  rw [← hW5_0]
  simp only [← hB5]
  have HW5_0 := Lib.hid hW5_0
  clear hW5_0 hzW5_0
  have HB5 := Lib.hid hB5
  clear hB5
  have ne_a_y1 : Hid (B1 ≠ B5) := Lib.hid (by have := HB5.out; omega)
  clear hl_a
  have ne_b_y1 : Hid (B1 + 1 ≠ B5) := Lib.hid (by have := HB5.out; omega)
  clear hl_b
  have ne_c_y1 : Hid (B1 + 1 + 1 ≠ B5) := Lib.hid (by have := HB5.out; omega)
  clear hl_c
  have ne_p1_y1 : Hid (B2 ≠ B5) := Lib.hid (by have := HB5.out; omega)
  clear hl_p1
  have ne_q1_y1 : Hid (B3 ≠ B5) := Lib.hid (by have := HB5.out; omega)
  clear hl_q1
  have ne_x1_y1 : Hid (B4 ≠ B5) := Lib.hid (by have := HB5.out; omega)
  clear hl_x1
  have le_y1 : Hid (w.heap.size ≤ B5) := Lib.hid (by have := HB5.out; omega)
  clear hsz_y1
  refine (pimeet_any a b _).mono ?_
  rintro e v14 ⟨rfl, hb⟩
  have D14 := Lib.hid (D13.out.trans (hb.mono D13.out.size))
  have a_14 := Lib.hid (a_13.out.bel hb)
  have b_14 := Lib.hid (b_13.out.bel hb)
  have c_14 := Lib.hid (c_13.out.bel hb)
  have p1_14 := Lib.hid (p1_13.out.bel hb)
  have q1_14 := Lib.hid (q1_13.out.bel hb)
  have x1_14 := Lib.hid (x1_13.out.bel hb)
  have y1_14 := Lib.hid (y1_13.out.bel hb)
  clear D13 a_13 b_13 c_13 p1_13 q1_13 x1_13 y1_13
  clear hb
  simp only [Hu.out]
  have ac0 := a_14.out.c0
  have ac1 := a_14.out.c1
  have ac2 := a_14.out.c2
  have ac3 := a_14.out.c3
  have ac4 := a_14.out.c4
  have ac5 := a_14.out.c5
  have az := blk_lt a_14.out.cells
  have bc0 := b_14.out.c0
  have bc1 := b_14.out.c1
  have bc2 := b_14.out.c2
  have bc3 := b_14.out.c3
  have bc4 := b_14.out.c4
  have bc5 := b_14.out.c5
  have bz := blk_lt b_14.out.cells
  have cc0 := c_14.out.c0
  have cc1 := c_14.out.c1
  have cc2 := c_14.out.c2
  have cc3 := c_14.out.c3
  have cc4 := c_14.out.c4
  have cc5 := c_14.out.c5
  have cz := blk_lt c_14.out.cells
  go_wp2_with fail
  clear ac0 ac1 ac2 ac3 ac4 ac5 az bc0 bc1 bc2 bc3 bc4 bc5 bz cc0 cc1 cc2 cc3 cc4 cc5 cz
  have hsz_u1 := D14.out.size
  have hl_a := blk_lt a_14.out.cells
  have hl_b := blk_lt b_14.out.cells
  have hl_c := blk_lt c_14.out.cells
  have hl_p1 := blk_lt p1_14.out.cells
  have hl_q1 := blk_lt q1_14.out.cells
  have hl_x1 := blk_lt x1_14.out.cells
  have hl_y1 := blk_lt y1_14.out.cells
  obtain ⟨B6, hB6⟩ : ∃ B, B = v14.heap.size := ⟨_, rfl⟩
  obtain ⟨W6_0, hW6_0⟩ : ∃ W, W = v14.alloc (Obj.cells #[Value.bool u.low.neg, Value.string u.low.num, Value.string u.low.den, Value.bool u.high.neg, Value.string u.high.num, Value.string u.high.den] 26) := ⟨_, rfl⟩
  have hb : Below v14.heap.size v14 W6_0 := by rw [hW6_0]; exact (Below.refl _ _).alloc (Nat.le_refl _) _
  have hzW6_0 : v14.heap.size = B6 := by rw [hB6]
  have hlW6_0 : IvAt (B6) u W6_0 := by rw [← hzW6_0, hW6_0]; exact ⟨heap_lastM _ _⟩
  have D15 := Lib.hid (D14.out.trans (hb.mono D14.out.size))
  have a_15 := Lib.hid (a_14.out.bel hb)
  have b_15 := Lib.hid (b_14.out.bel hb)
  have c_15 := Lib.hid (c_14.out.bel hb)
  have p1_15 := Lib.hid (p1_14.out.bel hb)
  have q1_15 := Lib.hid (q1_14.out.bel hb)
  have x1_15 := Lib.hid (x1_14.out.bel hb)
  have y1_15 := Lib.hid (y1_14.out.bel hb)
  clear D14 a_14 b_14 c_14 p1_14 q1_14 x1_14 y1_14
  clear hb
  have u1_15 := Lib.hid hlW6_0
  clear hlW6_0
  rw [← hW6_0]
  simp only [← hB6]
  have HW6_0 := Lib.hid hW6_0
  clear hW6_0 hzW6_0
  have HB6 := Lib.hid hB6
  clear hB6
  have ne_a_u1 : Hid (B1 ≠ B6) := Lib.hid (by have := HB6.out; omega)
  clear hl_a
  have ne_b_u1 : Hid (B1 + 1 ≠ B6) := Lib.hid (by have := HB6.out; omega)
  clear hl_b
  have ne_c_u1 : Hid (B1 + 1 + 1 ≠ B6) := Lib.hid (by have := HB6.out; omega)
  clear hl_c
  have ne_p1_u1 : Hid (B2 ≠ B6) := Lib.hid (by have := HB6.out; omega)
  clear hl_p1
  have ne_q1_u1 : Hid (B3 ≠ B6) := Lib.hid (by have := HB6.out; omega)
  clear hl_q1
  have ne_x1_u1 : Hid (B4 ≠ B6) := Lib.hid (by have := HB6.out; omega)
  clear hl_x1
  have ne_y1_u1 : Hid (B5 ≠ B6) := Lib.hid (by have := HB6.out; omega)
  clear hl_y1
  have le_u1 : Hid (w.heap.size ≤ B6) := Lib.hid (by have := HB6.out; omega)
  clear hsz_u1
  refine (pimeet_any b a _).mono ?_
  rintro e v16 ⟨rfl, hb⟩
  have D16 := Lib.hid (D15.out.trans (hb.mono D15.out.size))
  have a_16 := Lib.hid (a_15.out.bel hb)
  have b_16 := Lib.hid (b_15.out.bel hb)
  have c_16 := Lib.hid (c_15.out.bel hb)
  have p1_16 := Lib.hid (p1_15.out.bel hb)
  have q1_16 := Lib.hid (q1_15.out.bel hb)
  have x1_16 := Lib.hid (x1_15.out.bel hb)
  have y1_16 := Lib.hid (y1_15.out.bel hb)
  have u1_16 := Lib.hid (u1_15.out.bel hb)
  clear D15 a_15 b_15 c_15 p1_15 q1_15 x1_15 y1_15 u1_15
  clear hb
  simp only [Hu'.out]
  go_upto_region 10 with fail
  have hsz_v1 := D16.out.size
  have hl_a := blk_lt a_16.out.cells
  have hl_b := blk_lt b_16.out.cells
  have hl_c := blk_lt c_16.out.cells
  have hl_p1 := blk_lt p1_16.out.cells
  have hl_q1 := blk_lt q1_16.out.cells
  have hl_x1 := blk_lt x1_16.out.cells
  have hl_y1 := blk_lt y1_16.out.cells
  have hl_u1 := blk_lt u1_16.out.cells
  obtain ⟨B7, hB7⟩ : ∃ B, B = v16.heap.size := ⟨_, rfl⟩
  obtain ⟨W7_0, hW7_0⟩ : ∃ W, W = v16.alloc (Obj.cells #[Value.bool u.low.neg, Value.string u.low.num, Value.string u.low.den, Value.bool u.high.neg, Value.string u.high.num, Value.string u.high.den] 26) := ⟨_, rfl⟩
  have hb : Below v16.heap.size v16 W7_0 := by rw [hW7_0]; exact (Below.refl _ _).alloc (Nat.le_refl _) _
  have hzW7_0 : v16.heap.size = B7 := by rw [hB7]
  have hlW7_0 : IvAt (B7) u W7_0 := by rw [← hzW7_0, hW7_0]; exact ⟨heap_lastM _ _⟩
  have D17 := Lib.hid (D16.out.trans (hb.mono D16.out.size))
  have a_17 := Lib.hid (a_16.out.bel hb)
  have b_17 := Lib.hid (b_16.out.bel hb)
  have c_17 := Lib.hid (c_16.out.bel hb)
  have p1_17 := Lib.hid (p1_16.out.bel hb)
  have q1_17 := Lib.hid (q1_16.out.bel hb)
  have x1_17 := Lib.hid (x1_16.out.bel hb)
  have y1_17 := Lib.hid (y1_16.out.bel hb)
  have u1_17 := Lib.hid (u1_16.out.bel hb)
  clear D16 a_16 b_16 c_16 p1_16 q1_16 x1_16 y1_16 u1_16
  clear hb
  have v1_17 := Lib.hid hlW7_0
  clear hlW7_0
  rw [← hW7_0]
  simp only [← hB7]
  have HW7_0 := Lib.hid hW7_0
  clear hW7_0 hzW7_0
  have HB7 := Lib.hid hB7
  clear hB7
  have ne_a_v1 : Hid (B1 ≠ B7) := Lib.hid (by have := HB7.out; omega)
  clear hl_a
  have ne_b_v1 : Hid (B1 + 1 ≠ B7) := Lib.hid (by have := HB7.out; omega)
  clear hl_b
  have ne_c_v1 : Hid (B1 + 1 + 1 ≠ B7) := Lib.hid (by have := HB7.out; omega)
  clear hl_c
  have ne_p1_v1 : Hid (B2 ≠ B7) := Lib.hid (by have := HB7.out; omega)
  clear hl_p1
  have ne_q1_v1 : Hid (B3 ≠ B7) := Lib.hid (by have := HB7.out; omega)
  clear hl_q1
  have ne_x1_v1 : Hid (B4 ≠ B7) := Lib.hid (by have := HB7.out; omega)
  clear hl_x1
  have ne_y1_v1 : Hid (B5 ≠ B7) := Lib.hid (by have := HB7.out; omega)
  clear hl_y1
  have ne_u1_v1 : Hid (B6 ≠ B7) := Lib.hid (by have := HB7.out; omega)
  clear hl_u1
  have le_v1 : Hid (w.heap.size ≤ B7) := Lib.hid (by have := HB7.out; omega)
  clear hsz_v1
  have n1 := run_neq_iv p; have n2 := run_neq_iv x; have n3 := run_neq_iv u
  have ac0 := a_17.out.c0
  have ac1 := a_17.out.c1
  have ac2 := a_17.out.c2
  have ac3 := a_17.out.c3
  have ac4 := a_17.out.c4
  have ac5 := a_17.out.c5
  have bc0 := b_17.out.c0
  have bc1 := b_17.out.c1
  have bc2 := b_17.out.c2
  have bc3 := b_17.out.c3
  have bc4 := b_17.out.c4
  have bc5 := b_17.out.c5
  have cc0 := c_17.out.c0
  have cc1 := c_17.out.c1
  have cc2 := c_17.out.c2
  have cc3 := c_17.out.c3
  have cc4 := c_17.out.c4
  have cc5 := c_17.out.c5
  have p1c0 := p1_17.out.c0
  have p1c1 := p1_17.out.c1
  have p1c2 := p1_17.out.c2
  have p1c3 := p1_17.out.c3
  have p1c4 := p1_17.out.c4
  have p1c5 := p1_17.out.c5
  have q1c0 := q1_17.out.c0
  have q1c1 := q1_17.out.c1
  have q1c2 := q1_17.out.c2
  have q1c3 := q1_17.out.c3
  have q1c4 := q1_17.out.c4
  have q1c5 := q1_17.out.c5
  have x1c0 := x1_17.out.c0
  have x1c1 := x1_17.out.c1
  have x1c2 := x1_17.out.c2
  have x1c3 := x1_17.out.c3
  have x1c4 := x1_17.out.c4
  have x1c5 := x1_17.out.c5
  have y1c0 := y1_17.out.c0
  have y1c1 := y1_17.out.c1
  have y1c2 := y1_17.out.c2
  have y1c3 := y1_17.out.c3
  have y1c4 := y1_17.out.c4
  have y1c5 := y1_17.out.c5
  have u1c0 := u1_17.out.c0
  have u1c1 := u1_17.out.c1
  have u1c2 := u1_17.out.c2
  have u1c3 := u1_17.out.c3
  have u1c4 := u1_17.out.c4
  have u1c5 := u1_17.out.c5
  have v1c0 := v1_17.out.c0
  have v1c1 := v1_17.out.c1
  have v1c2 := v1_17.out.c2
  have v1c3 := v1_17.out.c3
  have v1c4 := v1_17.out.c4
  have v1c5 := v1_17.out.c5
  go_wp2_with fail
  clear ac0 ac1 ac2 ac3 ac4 ac5 bc0 bc1 bc2 bc3 bc4 bc5 cc0 cc1 cc2 cc3 cc4 cc5 p1c0 p1c1 p1c2 p1c3 p1c4 p1c5 q1c0 q1c1 q1c2 q1c3 q1c4 q1c5 x1c0 x1c1 x1c2 x1c3 x1c4 x1c5 y1c0 y1c1 y1c2 y1c3 y1c4 y1c5 u1c0 u1c1 u1c2 u1c3 u1c4 u1c5 v1c0 v1c1 v1c2 v1c3 v1c4 v1c5
  clear n1 n2 n3
  clear u1_17
  clear v1_17
  refine (pivalid_any a _).mono ?_
  rintro e v18 ⟨rfl, hb⟩
  have D18 := Lib.hid (D17.out.trans (hb.mono D17.out.size))
  have a_18 := Lib.hid (a_17.out.bel hb)
  have b_18 := Lib.hid (b_17.out.bel hb)
  have c_18 := Lib.hid (c_17.out.bel hb)
  have p1_18 := Lib.hid (p1_17.out.bel hb)
  have q1_18 := Lib.hid (q1_17.out.bel hb)
  have x1_18 := Lib.hid (x1_17.out.bel hb)
  have y1_18 := Lib.hid (y1_17.out.bel hb)
  clear D17 a_17 b_17 c_17 p1_17 q1_17 x1_17 y1_17
  clear hb
  rcases Bool.eq_false_or_eq_true (okI a) with hp | hp
  rotate_left
  ·
    simp only [hp]
    go_wp2_with fail
    go_ret
    exact ⟨rfl, D18.out⟩
  simp only [hp]
  have HA := Lib.hid hp; clear hp
  have ac0 := a_18.out.c0
  have ac1 := a_18.out.c1
  have ac2 := a_18.out.c2
  have ac3 := a_18.out.c3
  have ac4 := a_18.out.c4
  have ac5 := a_18.out.c5
  have bc0 := b_18.out.c0
  have bc1 := b_18.out.c1
  have bc2 := b_18.out.c2
  have bc3 := b_18.out.c3
  have bc4 := b_18.out.c4
  have bc5 := b_18.out.c5
  have cc0 := c_18.out.c0
  have cc1 := c_18.out.c1
  have cc2 := c_18.out.c2
  have cc3 := c_18.out.c3
  have cc4 := c_18.out.c4
  have cc5 := c_18.out.c5
  go_wp2_with fail
  clear ac0 ac1 ac2 ac3 ac4 ac5 bc0 bc1 bc2 bc3 bc4 bc5 cc0 cc1 cc2 cc3 cc4 cc5
  refine (picon_any b a.low _).mono ?_
  rintro e v19 ⟨rfl, hb⟩
  have D19 := Lib.hid (D18.out.trans (hb.mono D18.out.size))
  have a_19 := Lib.hid (a_18.out.bel hb)
  have b_19 := Lib.hid (b_18.out.bel hb)
  have c_19 := Lib.hid (c_18.out.bel hb)
  have p1_19 := Lib.hid (p1_18.out.bel hb)
  have q1_19 := Lib.hid (q1_18.out.bel hb)
  have x1_19 := Lib.hid (x1_18.out.bel hb)
  have y1_19 := Lib.hid (y1_18.out.bel hb)
  clear D18 a_18 b_18 c_18 p1_18 q1_18 x1_18 y1_18
  clear hb
  rcases Bool.eq_false_or_eq_true (hasI b a.low) with hp | hp
  rotate_left
  ·
    simp only [hp]
    go_wp2_with fail
    go_ret
    exact ⟨rfl, D19.out⟩
  simp only [hp]
  have HB1 := Lib.hid hp; clear hp
  have ac0 := a_19.out.c0
  have ac1 := a_19.out.c1
  have ac2 := a_19.out.c2
  have ac3 := a_19.out.c3
  have ac4 := a_19.out.c4
  have ac5 := a_19.out.c5
  have bc0 := b_19.out.c0
  have bc1 := b_19.out.c1
  have bc2 := b_19.out.c2
  have bc3 := b_19.out.c3
  have bc4 := b_19.out.c4
  have bc5 := b_19.out.c5
  have cc0 := c_19.out.c0
  have cc1 := c_19.out.c1
  have cc2 := c_19.out.c2
  have cc3 := c_19.out.c3
  have cc4 := c_19.out.c4
  have cc5 := c_19.out.c5
  go_wp2_with fail
  clear ac0 ac1 ac2 ac3 ac4 ac5 bc0 bc1 bc2 bc3 bc4 bc5 cc0 cc1 cc2 cc3 cc4 cc5
  refine (picon_any b a.high _).mono ?_
  rintro e v20 ⟨rfl, hb⟩
  have D20 := Lib.hid (D19.out.trans (hb.mono D19.out.size))
  have a_20 := Lib.hid (a_19.out.bel hb)
  have b_20 := Lib.hid (b_19.out.bel hb)
  have c_20 := Lib.hid (c_19.out.bel hb)
  have p1_20 := Lib.hid (p1_19.out.bel hb)
  have q1_20 := Lib.hid (q1_19.out.bel hb)
  have x1_20 := Lib.hid (x1_19.out.bel hb)
  have y1_20 := Lib.hid (y1_19.out.bel hb)
  clear D19 a_19 b_19 c_19 p1_19 q1_19 x1_19 y1_19
  clear hb
  rcases Bool.eq_false_or_eq_true (hasI b a.high) with hp | hp
  rotate_left
  ·
    simp only [hp]
    go_wp2_with fail
    go_ret
    exact ⟨rfl, D20.out⟩
  simp only [hp]
  have HB2 := Lib.hid hp; clear hp
  have ac0 := a_20.out.c0
  have ac1 := a_20.out.c1
  have ac2 := a_20.out.c2
  have ac3 := a_20.out.c3
  have ac4 := a_20.out.c4
  have ac5 := a_20.out.c5
  have bc0 := b_20.out.c0
  have bc1 := b_20.out.c1
  have bc2 := b_20.out.c2
  have bc3 := b_20.out.c3
  have bc4 := b_20.out.c4
  have bc5 := b_20.out.c5
  have cc0 := c_20.out.c0
  have cc1 := c_20.out.c1
  have cc2 := c_20.out.c2
  have cc3 := c_20.out.c3
  have cc4 := c_20.out.c4
  have cc5 := c_20.out.c5
  go_wp2_with fail
  clear ac0 ac1 ac2 ac3 ac4 ac5 bc0 bc1 bc2 bc3 bc4 bc5 cc0 cc1 cc2 cc3 cc4 cc5
  rcases wider_pure HA.out HB1.out HB2.out Za.out Zb.out Zc.out with ⟨o, w1, w2, w3, w4⟩ | ⟨o, p', q', x', y', w1, w2, w3, w4, k1, k2, k3, k4⟩
  ·
    have V1 := Lib.hid w1; clear w1
    have V2 := Lib.hid w2; clear w2
    have V3 := Lib.hid w3; clear w3
    have V4 := Lib.hid w4; clear w4
    refine (piadd_any a c _).mono ?_
    rintro e v21 ⟨rfl, hb⟩
    have D21 := Lib.hid (D20.out.trans (hb.mono D20.out.size))
    have a_21 := Lib.hid (a_20.out.bel hb)
    have b_21 := Lib.hid (b_20.out.bel hb)
    have c_21 := Lib.hid (c_20.out.bel hb)
    have p1_21 := Lib.hid (p1_20.out.bel hb)
    have q1_21 := Lib.hid (q1_20.out.bel hb)
    have x1_21 := Lib.hid (x1_20.out.bel hb)
    have y1_21 := Lib.hid (y1_20.out.bel hb)
    clear D20 a_20 b_20 c_20 p1_20 q1_20 x1_20 y1_20
    clear hb
    simp only [V1.out]
    have ac0 := a_21.out.c0
    have ac1 := a_21.out.c1
    have ac2 := a_21.out.c2
    have ac3 := a_21.out.c3
    have ac4 := a_21.out.c4
    have ac5 := a_21.out.c5
    have bc0 := b_21.out.c0
    have bc1 := b_21.out.c1
    have bc2 := b_21.out.c2
    have bc3 := b_21.out.c3
    have bc4 := b_21.out.c4
    have bc5 := b_21.out.c5
    have cc0 := c_21.out.c0
    have cc1 := c_21.out.c1
    have cc2 := c_21.out.c2
    have cc3 := c_21.out.c3
    have cc4 := c_21.out.c4
    have cc5 := c_21.out.c5
    have sc0 := p1_21.out.c0; have sf0 := p1_21.out.fz 0
    have sc1 := p1_21.out.c1; have sf1 := p1_21.out.fz 1
    have sc2 := p1_21.out.c2; have sf2 := p1_21.out.fz 2
    have sc3 := p1_21.out.c3; have sf3 := p1_21.out.fz 3
    have sc4 := p1_21.out.c4; have sf4 := p1_21.out.fz 4
    have sc5 := p1_21.out.c5; have sf5 := p1_21.out.fz 5
    go_upto_region 15 with fail
    clear ac0 ac1 ac2 ac3 ac4 ac5 bc0 bc1 bc2 bc3 bc4 bc5 cc0 cc1 cc2 cc3 cc4 cc5 sc0 sf0 sc1 sf1 sc2 sf2 sc3 sf3 sc4 sf4 sc5 sf5
    obtain ⟨X22, hX22⟩ : ∃ W, W = ((((((((((((v21).setCell ⟨B2, 0, none⟩ (.bool noI.low.neg))).setCell ⟨B2, 1, none⟩ (.string noI.low.num))).setCell ⟨B2, 2, none⟩ (.string noI.low.den))).setCell ⟨B2, 3, none⟩ (.bool noI.high.neg))).setCell ⟨B2, 4, none⟩ (.string noI.high.num))).setCell ⟨B2, 5, none⟩ (.string noI.high.den)) := ⟨_, rfl⟩
    have hbes : Bes B2 v21 X22 := by rw [hX22]; exact stored6 _ _ _ _ _ _ _ _
    have D22 : Hid (Below w.heap.size w X22) := Lib.hid (by rw [hX22]; exact ((((((D21.out.setCell (p := ⟨B2, 0, none⟩) le_p1.out _).setCell (p := ⟨B2, 1, none⟩) le_p1.out _).setCell (p := ⟨B2, 2, none⟩) le_p1.out _).setCell (p := ⟨B2, 3, none⟩) le_p1.out _).setCell (p := ⟨B2, 4, none⟩) le_p1.out _).setCell (p := ⟨B2, 5, none⟩) le_p1.out _))
    have a_22 := Lib.hid (a_21.out.bes hbes ne_a_p1.out)
    have b_22 := Lib.hid (b_21.out.bes hbes ne_b_p1.out)
    have c_22 := Lib.hid (c_21.out.bes hbes ne_c_p1.out)
    have p1_22 : Hid (IvAt (B2) noI X22) := Lib.hid (by rw [hX22]; exact p1_21.out.set noI)
    have q1_22 := Lib.hid (q1_21.out.bes hbes ne_p1_q1.out.symm)
    have x1_22 := Lib.hid (x1_21.out.bes hbes ne_p1_x1.out.symm)
    have y1_22 := Lib.hid (y1_21.out.bes hbes ne_p1_y1.out.symm)
    clear hbes D21 a_21 b_21 c_21 p1_21 q1_21 x1_21 y1_21
    rw [← hX22]
    have HX22 := Lib.hid hX22; clear hX22
    have ac0 := a_22.out.c0
    have ac1 := a_22.out.c1
    have ac2 := a_22.out.c2
    have ac3 := a_22.out.c3
    have ac4 := a_22.out.c4
    have ac5 := a_22.out.c5
    have bc0 := b_22.out.c0
    have bc1 := b_22.out.c1
    have bc2 := b_22.out.c2
    have bc3 := b_22.out.c3
    have bc4 := b_22.out.c4
    have bc5 := b_22.out.c5
    have cc0 := c_22.out.c0
    have cc1 := c_22.out.c1
    have cc2 := c_22.out.c2
    have cc3 := c_22.out.c3
    have cc4 := c_22.out.c4
    have cc5 := c_22.out.c5
    go_wp2_with fail
    clear ac0 ac1 ac2 ac3 ac4 ac5 bc0 bc1 bc2 bc3 bc4 bc5 cc0 cc1 cc2 cc3 cc4 cc5
    refine (piadd_any b c _).mono ?_
    rintro e v23 ⟨rfl, hb⟩
    have D23 := Lib.hid (D22.out.trans (hb.mono D22.out.size))
    have a_23 := Lib.hid (a_22.out.bel hb)
    have b_23 := Lib.hid (b_22.out.bel hb)
    have c_23 := Lib.hid (c_22.out.bel hb)
    have p1_23 := Lib.hid (p1_22.out.bel hb)
    have q1_23 := Lib.hid (q1_22.out.bel hb)
    have x1_23 := Lib.hid (x1_22.out.bel hb)
    have y1_23 := Lib.hid (y1_22.out.bel hb)
    clear D22 a_22 b_22 c_22 p1_22 q1_22 x1_22 y1_22
    clear hb
    simp only [V2.out]
    have ac0 := a_23.out.c0
    have ac1 := a_23.out.c1
    have ac2 := a_23.out.c2
    have ac3 := a_23.out.c3
    have ac4 := a_23.out.c4
    have ac5 := a_23.out.c5
    have bc0 := b_23.out.c0
    have bc1 := b_23.out.c1
    have bc2 := b_23.out.c2
    have bc3 := b_23.out.c3
    have bc4 := b_23.out.c4
    have bc5 := b_23.out.c5
    have cc0 := c_23.out.c0
    have cc1 := c_23.out.c1
    have cc2 := c_23.out.c2
    have cc3 := c_23.out.c3
    have cc4 := c_23.out.c4
    have cc5 := c_23.out.c5
    have sc0 := q1_23.out.c0; have sf0 := q1_23.out.fz 0
    have sc1 := q1_23.out.c1; have sf1 := q1_23.out.fz 1
    have sc2 := q1_23.out.c2; have sf2 := q1_23.out.fz 2
    have sc3 := q1_23.out.c3; have sf3 := q1_23.out.fz 3
    have sc4 := q1_23.out.c4; have sf4 := q1_23.out.fz 4
    have sc5 := q1_23.out.c5; have sf5 := q1_23.out.fz 5
    go_upto_region 16 with fail
    clear ac0 ac1 ac2 ac3 ac4 ac5 bc0 bc1 bc2 bc3 bc4 bc5 cc0 cc1 cc2 cc3 cc4 cc5 sc0 sf0 sc1 sf1 sc2 sf2 sc3 sf3 sc4 sf4 sc5 sf5
    obtain ⟨X24, hX24⟩ : ∃ W, W = ((((((((((((v23).setCell ⟨B3, 0, none⟩ (.bool noI.low.neg))).setCell ⟨B3, 1, none⟩ (.string noI.low.num))).setCell ⟨B3, 2, none⟩ (.string noI.low.den))).setCell ⟨B3, 3, none⟩ (.bool noI.high.neg))).setCell ⟨B3, 4, none⟩ (.string noI.high.num))).setCell ⟨B3, 5, none⟩ (.string noI.high.den)) := ⟨_, rfl⟩
    have hbes : Bes B3 v23 X24 := by rw [hX24]; exact stored6 _ _ _ _ _ _ _ _
    have D24 : Hid (Below w.heap.size w X24) := Lib.hid (by rw [hX24]; exact ((((((D23.out.setCell (p := ⟨B3, 0, none⟩) le_q1.out _).setCell (p := ⟨B3, 1, none⟩) le_q1.out _).setCell (p := ⟨B3, 2, none⟩) le_q1.out _).setCell (p := ⟨B3, 3, none⟩) le_q1.out _).setCell (p := ⟨B3, 4, none⟩) le_q1.out _).setCell (p := ⟨B3, 5, none⟩) le_q1.out _))
    have a_24 := Lib.hid (a_23.out.bes hbes ne_a_q1.out)
    have b_24 := Lib.hid (b_23.out.bes hbes ne_b_q1.out)
    have c_24 := Lib.hid (c_23.out.bes hbes ne_c_q1.out)
    have p1_24 := Lib.hid (p1_23.out.bes hbes ne_p1_q1.out)
    have q1_24 : Hid (IvAt (B3) noI X24) := Lib.hid (by rw [hX24]; exact q1_23.out.set noI)
    have x1_24 := Lib.hid (x1_23.out.bes hbes ne_q1_x1.out.symm)
    have y1_24 := Lib.hid (y1_23.out.bes hbes ne_q1_y1.out.symm)
    clear hbes D23 a_23 b_23 c_23 p1_23 q1_23 x1_23 y1_23
    rw [← hX24]
    have HX24 := Lib.hid hX24; clear hX24
    have ac0 := a_24.out.c0
    have ac1 := a_24.out.c1
    have ac2 := a_24.out.c2
    have ac3 := a_24.out.c3
    have ac4 := a_24.out.c4
    have ac5 := a_24.out.c5
    have bc0 := b_24.out.c0
    have bc1 := b_24.out.c1
    have bc2 := b_24.out.c2
    have bc3 := b_24.out.c3
    have bc4 := b_24.out.c4
    have bc5 := b_24.out.c5
    have cc0 := c_24.out.c0
    have cc1 := c_24.out.c1
    have cc2 := c_24.out.c2
    have cc3 := c_24.out.c3
    have cc4 := c_24.out.c4
    have cc5 := c_24.out.c5
    go_wp2_with fail
    clear ac0 ac1 ac2 ac3 ac4 ac5 bc0 bc1 bc2 bc3 bc4 bc5 cc0 cc1 cc2 cc3 cc4 cc5
    refine (pimul_any a c _).mono ?_
    rintro e v25 ⟨rfl, hb⟩
    have D25 := Lib.hid (D24.out.trans (hb.mono D24.out.size))
    have a_25 := Lib.hid (a_24.out.bel hb)
    have b_25 := Lib.hid (b_24.out.bel hb)
    have c_25 := Lib.hid (c_24.out.bel hb)
    have p1_25 := Lib.hid (p1_24.out.bel hb)
    have q1_25 := Lib.hid (q1_24.out.bel hb)
    have x1_25 := Lib.hid (x1_24.out.bel hb)
    have y1_25 := Lib.hid (y1_24.out.bel hb)
    clear D24 a_24 b_24 c_24 p1_24 q1_24 x1_24 y1_24
    clear hb
    simp only [V3.out]
    have ac0 := a_25.out.c0
    have ac1 := a_25.out.c1
    have ac2 := a_25.out.c2
    have ac3 := a_25.out.c3
    have ac4 := a_25.out.c4
    have ac5 := a_25.out.c5
    have bc0 := b_25.out.c0
    have bc1 := b_25.out.c1
    have bc2 := b_25.out.c2
    have bc3 := b_25.out.c3
    have bc4 := b_25.out.c4
    have bc5 := b_25.out.c5
    have cc0 := c_25.out.c0
    have cc1 := c_25.out.c1
    have cc2 := c_25.out.c2
    have cc3 := c_25.out.c3
    have cc4 := c_25.out.c4
    have cc5 := c_25.out.c5
    have sc0 := x1_25.out.c0; have sf0 := x1_25.out.fz 0
    have sc1 := x1_25.out.c1; have sf1 := x1_25.out.fz 1
    have sc2 := x1_25.out.c2; have sf2 := x1_25.out.fz 2
    have sc3 := x1_25.out.c3; have sf3 := x1_25.out.fz 3
    have sc4 := x1_25.out.c4; have sf4 := x1_25.out.fz 4
    have sc5 := x1_25.out.c5; have sf5 := x1_25.out.fz 5
    go_upto_region 17 with fail
    clear ac0 ac1 ac2 ac3 ac4 ac5 bc0 bc1 bc2 bc3 bc4 bc5 cc0 cc1 cc2 cc3 cc4 cc5 sc0 sf0 sc1 sf1 sc2 sf2 sc3 sf3 sc4 sf4 sc5 sf5
    obtain ⟨X26, hX26⟩ : ∃ W, W = ((((((((((((v25).setCell ⟨B4, 0, none⟩ (.bool noI.low.neg))).setCell ⟨B4, 1, none⟩ (.string noI.low.num))).setCell ⟨B4, 2, none⟩ (.string noI.low.den))).setCell ⟨B4, 3, none⟩ (.bool noI.high.neg))).setCell ⟨B4, 4, none⟩ (.string noI.high.num))).setCell ⟨B4, 5, none⟩ (.string noI.high.den)) := ⟨_, rfl⟩
    have hbes : Bes B4 v25 X26 := by rw [hX26]; exact stored6 _ _ _ _ _ _ _ _
    have D26 : Hid (Below w.heap.size w X26) := Lib.hid (by rw [hX26]; exact ((((((D25.out.setCell (p := ⟨B4, 0, none⟩) le_x1.out _).setCell (p := ⟨B4, 1, none⟩) le_x1.out _).setCell (p := ⟨B4, 2, none⟩) le_x1.out _).setCell (p := ⟨B4, 3, none⟩) le_x1.out _).setCell (p := ⟨B4, 4, none⟩) le_x1.out _).setCell (p := ⟨B4, 5, none⟩) le_x1.out _))
    have a_26 := Lib.hid (a_25.out.bes hbes ne_a_x1.out)
    have b_26 := Lib.hid (b_25.out.bes hbes ne_b_x1.out)
    have c_26 := Lib.hid (c_25.out.bes hbes ne_c_x1.out)
    have p1_26 := Lib.hid (p1_25.out.bes hbes ne_p1_x1.out)
    have q1_26 := Lib.hid (q1_25.out.bes hbes ne_q1_x1.out)
    have x1_26 : Hid (IvAt (B4) noI X26) := Lib.hid (by rw [hX26]; exact x1_25.out.set noI)
    have y1_26 := Lib.hid (y1_25.out.bes hbes ne_x1_y1.out.symm)
    clear hbes D25 a_25 b_25 c_25 p1_25 q1_25 x1_25 y1_25
    rw [← hX26]
    have HX26 := Lib.hid hX26; clear hX26
    have ac0 := a_26.out.c0
    have ac1 := a_26.out.c1
    have ac2 := a_26.out.c2
    have ac3 := a_26.out.c3
    have ac4 := a_26.out.c4
    have ac5 := a_26.out.c5
    have bc0 := b_26.out.c0
    have bc1 := b_26.out.c1
    have bc2 := b_26.out.c2
    have bc3 := b_26.out.c3
    have bc4 := b_26.out.c4
    have bc5 := b_26.out.c5
    have cc0 := c_26.out.c0
    have cc1 := c_26.out.c1
    have cc2 := c_26.out.c2
    have cc3 := c_26.out.c3
    have cc4 := c_26.out.c4
    have cc5 := c_26.out.c5
    go_wp2_with fail
    clear ac0 ac1 ac2 ac3 ac4 ac5 bc0 bc1 bc2 bc3 bc4 bc5 cc0 cc1 cc2 cc3 cc4 cc5
    refine (pimul_any b c _).mono ?_
    rintro e v27 ⟨rfl, hb⟩
    have D27 := Lib.hid (D26.out.trans (hb.mono D26.out.size))
    have a_27 := Lib.hid (a_26.out.bel hb)
    have b_27 := Lib.hid (b_26.out.bel hb)
    have c_27 := Lib.hid (c_26.out.bel hb)
    have p1_27 := Lib.hid (p1_26.out.bel hb)
    have q1_27 := Lib.hid (q1_26.out.bel hb)
    have x1_27 := Lib.hid (x1_26.out.bel hb)
    have y1_27 := Lib.hid (y1_26.out.bel hb)
    clear D26 a_26 b_26 c_26 p1_26 q1_26 x1_26 y1_26
    clear hb
    simp only [V4.out]
    have ac0 := a_27.out.c0
    have ac1 := a_27.out.c1
    have ac2 := a_27.out.c2
    have ac3 := a_27.out.c3
    have ac4 := a_27.out.c4
    have ac5 := a_27.out.c5
    have bc0 := b_27.out.c0
    have bc1 := b_27.out.c1
    have bc2 := b_27.out.c2
    have bc3 := b_27.out.c3
    have bc4 := b_27.out.c4
    have bc5 := b_27.out.c5
    have cc0 := c_27.out.c0
    have cc1 := c_27.out.c1
    have cc2 := c_27.out.c2
    have cc3 := c_27.out.c3
    have cc4 := c_27.out.c4
    have cc5 := c_27.out.c5
    have sc0 := y1_27.out.c0; have sf0 := y1_27.out.fz 0
    have sc1 := y1_27.out.c1; have sf1 := y1_27.out.fz 1
    have sc2 := y1_27.out.c2; have sf2 := y1_27.out.fz 2
    have sc3 := y1_27.out.c3; have sf3 := y1_27.out.fz 3
    have sc4 := y1_27.out.c4; have sf4 := y1_27.out.fz 4
    have sc5 := y1_27.out.c5; have sf5 := y1_27.out.fz 5
    go_upto_region 18 with fail
    clear ac0 ac1 ac2 ac3 ac4 ac5 bc0 bc1 bc2 bc3 bc4 bc5 cc0 cc1 cc2 cc3 cc4 cc5 sc0 sf0 sc1 sf1 sc2 sf2 sc3 sf3 sc4 sf4 sc5 sf5
    obtain ⟨X28, hX28⟩ : ∃ W, W = ((((((((((((v27).setCell ⟨B5, 0, none⟩ (.bool noI.low.neg))).setCell ⟨B5, 1, none⟩ (.string noI.low.num))).setCell ⟨B5, 2, none⟩ (.string noI.low.den))).setCell ⟨B5, 3, none⟩ (.bool noI.high.neg))).setCell ⟨B5, 4, none⟩ (.string noI.high.num))).setCell ⟨B5, 5, none⟩ (.string noI.high.den)) := ⟨_, rfl⟩
    have hbes : Bes B5 v27 X28 := by rw [hX28]; exact stored6 _ _ _ _ _ _ _ _
    have D28 : Hid (Below w.heap.size w X28) := Lib.hid (by rw [hX28]; exact ((((((D27.out.setCell (p := ⟨B5, 0, none⟩) le_y1.out _).setCell (p := ⟨B5, 1, none⟩) le_y1.out _).setCell (p := ⟨B5, 2, none⟩) le_y1.out _).setCell (p := ⟨B5, 3, none⟩) le_y1.out _).setCell (p := ⟨B5, 4, none⟩) le_y1.out _).setCell (p := ⟨B5, 5, none⟩) le_y1.out _))
    have a_28 := Lib.hid (a_27.out.bes hbes ne_a_y1.out)
    have b_28 := Lib.hid (b_27.out.bes hbes ne_b_y1.out)
    have c_28 := Lib.hid (c_27.out.bes hbes ne_c_y1.out)
    have p1_28 := Lib.hid (p1_27.out.bes hbes ne_p1_y1.out)
    have q1_28 := Lib.hid (q1_27.out.bes hbes ne_q1_y1.out)
    have x1_28 := Lib.hid (x1_27.out.bes hbes ne_x1_y1.out)
    have y1_28 : Hid (IvAt (B5) noI X28) := Lib.hid (by rw [hX28]; exact y1_27.out.set noI)
    clear hbes D27 a_27 b_27 c_27 p1_27 q1_27 x1_27 y1_27
    rw [← hX28]
    have HX28 := Lib.hid hX28; clear hX28
    go_wp2_with fail
    go_ret
    exact ⟨by first | rfl | (simp; done), D28.out⟩
  ·
    have V1 := Lib.hid w1; clear w1
    have V2 := Lib.hid w2; clear w2
    have V3 := Lib.hid w3; clear w3
    have V4 := Lib.hid w4; clear w4
    have K1 := Lib.hid k1; clear k1
    have K2 := Lib.hid k2; clear k2
    have K3 := Lib.hid k3; clear k3
    have K4 := Lib.hid k4; clear k4
    refine (piadd_any a c _).mono ?_
    rintro e v21 ⟨rfl, hb⟩
    have D21 := Lib.hid (D20.out.trans (hb.mono D20.out.size))
    have a_21 := Lib.hid (a_20.out.bel hb)
    have b_21 := Lib.hid (b_20.out.bel hb)
    have c_21 := Lib.hid (c_20.out.bel hb)
    have p1_21 := Lib.hid (p1_20.out.bel hb)
    have q1_21 := Lib.hid (q1_20.out.bel hb)
    have x1_21 := Lib.hid (x1_20.out.bel hb)
    have y1_21 := Lib.hid (y1_20.out.bel hb)
    clear D20 a_20 b_20 c_20 p1_20 q1_20 x1_20 y1_20
    clear hb
    simp only [V1.out]
    have ac0 := a_21.out.c0
    have ac1 := a_21.out.c1
    have ac2 := a_21.out.c2
    have ac3 := a_21.out.c3
    have ac4 := a_21.out.c4
    have ac5 := a_21.out.c5
    have bc0 := b_21.out.c0
    have bc1 := b_21.out.c1
    have bc2 := b_21.out.c2
    have bc3 := b_21.out.c3
    have bc4 := b_21.out.c4
    have bc5 := b_21.out.c5
    have cc0 := c_21.out.c0
    have cc1 := c_21.out.c1
    have cc2 := c_21.out.c2
    have cc3 := c_21.out.c3
    have cc4 := c_21.out.c4
    have cc5 := c_21.out.c5
    have sc0 := p1_21.out.c0; have sf0 := p1_21.out.fz 0
    have sc1 := p1_21.out.c1; have sf1 := p1_21.out.fz 1
    have sc2 := p1_21.out.c2; have sf2 := p1_21.out.fz 2
    have sc3 := p1_21.out.c3; have sf3 := p1_21.out.fz 3
    have sc4 := p1_21.out.c4; have sf4 := p1_21.out.fz 4
    have sc5 := p1_21.out.c5; have sf5 := p1_21.out.fz 5
    go_upto_region 15 with fail
    clear ac0 ac1 ac2 ac3 ac4 ac5 bc0 bc1 bc2 bc3 bc4 bc5 cc0 cc1 cc2 cc3 cc4 cc5 sc0 sf0 sc1 sf1 sc2 sf2 sc3 sf3 sc4 sf4 sc5 sf5
    obtain ⟨X22, hX22⟩ : ∃ W, W = ((((((((((((v21).setCell ⟨B2, 0, none⟩ (.bool p'.low.neg))).setCell ⟨B2, 1, none⟩ (.string p'.low.num))).setCell ⟨B2, 2, none⟩ (.string p'.low.den))).setCell ⟨B2, 3, none⟩ (.bool p'.high.neg))).setCell ⟨B2, 4, none⟩ (.string p'.high.num))).setCell ⟨B2, 5, none⟩ (.string p'.high.den)) := ⟨_, rfl⟩
    have hbes : Bes B2 v21 X22 := by rw [hX22]; exact stored6 _ _ _ _ _ _ _ _
    have D22 : Hid (Below w.heap.size w X22) := Lib.hid (by rw [hX22]; exact ((((((D21.out.setCell (p := ⟨B2, 0, none⟩) le_p1.out _).setCell (p := ⟨B2, 1, none⟩) le_p1.out _).setCell (p := ⟨B2, 2, none⟩) le_p1.out _).setCell (p := ⟨B2, 3, none⟩) le_p1.out _).setCell (p := ⟨B2, 4, none⟩) le_p1.out _).setCell (p := ⟨B2, 5, none⟩) le_p1.out _))
    have a_22 := Lib.hid (a_21.out.bes hbes ne_a_p1.out)
    have b_22 := Lib.hid (b_21.out.bes hbes ne_b_p1.out)
    have c_22 := Lib.hid (c_21.out.bes hbes ne_c_p1.out)
    have p1_22 : Hid (IvAt (B2) p' X22) := Lib.hid (by rw [hX22]; exact p1_21.out.set p')
    have q1_22 := Lib.hid (q1_21.out.bes hbes ne_p1_q1.out.symm)
    have x1_22 := Lib.hid (x1_21.out.bes hbes ne_p1_x1.out.symm)
    have y1_22 := Lib.hid (y1_21.out.bes hbes ne_p1_y1.out.symm)
    clear hbes D21 a_21 b_21 c_21 p1_21 q1_21 x1_21 y1_21
    rw [← hX22]
    have HX22 := Lib.hid hX22; clear hX22
    have ac0 := a_22.out.c0
    have ac1 := a_22.out.c1
    have ac2 := a_22.out.c2
    have ac3 := a_22.out.c3
    have ac4 := a_22.out.c4
    have ac5 := a_22.out.c5
    have bc0 := b_22.out.c0
    have bc1 := b_22.out.c1
    have bc2 := b_22.out.c2
    have bc3 := b_22.out.c3
    have bc4 := b_22.out.c4
    have bc5 := b_22.out.c5
    have cc0 := c_22.out.c0
    have cc1 := c_22.out.c1
    have cc2 := c_22.out.c2
    have cc3 := c_22.out.c3
    have cc4 := c_22.out.c4
    have cc5 := c_22.out.c5
    go_wp2_with fail
    clear ac0 ac1 ac2 ac3 ac4 ac5 bc0 bc1 bc2 bc3 bc4 bc5 cc0 cc1 cc2 cc3 cc4 cc5
    refine (piadd_any b c _).mono ?_
    rintro e v23 ⟨rfl, hb⟩
    have D23 := Lib.hid (D22.out.trans (hb.mono D22.out.size))
    have a_23 := Lib.hid (a_22.out.bel hb)
    have b_23 := Lib.hid (b_22.out.bel hb)
    have c_23 := Lib.hid (c_22.out.bel hb)
    have p1_23 := Lib.hid (p1_22.out.bel hb)
    have q1_23 := Lib.hid (q1_22.out.bel hb)
    have x1_23 := Lib.hid (x1_22.out.bel hb)
    have y1_23 := Lib.hid (y1_22.out.bel hb)
    clear D22 a_22 b_22 c_22 p1_22 q1_22 x1_22 y1_22
    clear hb
    simp only [V2.out]
    have ac0 := a_23.out.c0
    have ac1 := a_23.out.c1
    have ac2 := a_23.out.c2
    have ac3 := a_23.out.c3
    have ac4 := a_23.out.c4
    have ac5 := a_23.out.c5
    have bc0 := b_23.out.c0
    have bc1 := b_23.out.c1
    have bc2 := b_23.out.c2
    have bc3 := b_23.out.c3
    have bc4 := b_23.out.c4
    have bc5 := b_23.out.c5
    have cc0 := c_23.out.c0
    have cc1 := c_23.out.c1
    have cc2 := c_23.out.c2
    have cc3 := c_23.out.c3
    have cc4 := c_23.out.c4
    have cc5 := c_23.out.c5
    have sc0 := q1_23.out.c0; have sf0 := q1_23.out.fz 0
    have sc1 := q1_23.out.c1; have sf1 := q1_23.out.fz 1
    have sc2 := q1_23.out.c2; have sf2 := q1_23.out.fz 2
    have sc3 := q1_23.out.c3; have sf3 := q1_23.out.fz 3
    have sc4 := q1_23.out.c4; have sf4 := q1_23.out.fz 4
    have sc5 := q1_23.out.c5; have sf5 := q1_23.out.fz 5
    go_upto_region 16 with fail
    clear ac0 ac1 ac2 ac3 ac4 ac5 bc0 bc1 bc2 bc3 bc4 bc5 cc0 cc1 cc2 cc3 cc4 cc5 sc0 sf0 sc1 sf1 sc2 sf2 sc3 sf3 sc4 sf4 sc5 sf5
    obtain ⟨X24, hX24⟩ : ∃ W, W = ((((((((((((v23).setCell ⟨B3, 0, none⟩ (.bool q'.low.neg))).setCell ⟨B3, 1, none⟩ (.string q'.low.num))).setCell ⟨B3, 2, none⟩ (.string q'.low.den))).setCell ⟨B3, 3, none⟩ (.bool q'.high.neg))).setCell ⟨B3, 4, none⟩ (.string q'.high.num))).setCell ⟨B3, 5, none⟩ (.string q'.high.den)) := ⟨_, rfl⟩
    have hbes : Bes B3 v23 X24 := by rw [hX24]; exact stored6 _ _ _ _ _ _ _ _
    have D24 : Hid (Below w.heap.size w X24) := Lib.hid (by rw [hX24]; exact ((((((D23.out.setCell (p := ⟨B3, 0, none⟩) le_q1.out _).setCell (p := ⟨B3, 1, none⟩) le_q1.out _).setCell (p := ⟨B3, 2, none⟩) le_q1.out _).setCell (p := ⟨B3, 3, none⟩) le_q1.out _).setCell (p := ⟨B3, 4, none⟩) le_q1.out _).setCell (p := ⟨B3, 5, none⟩) le_q1.out _))
    have a_24 := Lib.hid (a_23.out.bes hbes ne_a_q1.out)
    have b_24 := Lib.hid (b_23.out.bes hbes ne_b_q1.out)
    have c_24 := Lib.hid (c_23.out.bes hbes ne_c_q1.out)
    have p1_24 := Lib.hid (p1_23.out.bes hbes ne_p1_q1.out)
    have q1_24 : Hid (IvAt (B3) q' X24) := Lib.hid (by rw [hX24]; exact q1_23.out.set q')
    have x1_24 := Lib.hid (x1_23.out.bes hbes ne_q1_x1.out.symm)
    have y1_24 := Lib.hid (y1_23.out.bes hbes ne_q1_y1.out.symm)
    clear hbes D23 a_23 b_23 c_23 p1_23 q1_23 x1_23 y1_23
    rw [← hX24]
    have HX24 := Lib.hid hX24; clear hX24
    have ac0 := a_24.out.c0
    have ac1 := a_24.out.c1
    have ac2 := a_24.out.c2
    have ac3 := a_24.out.c3
    have ac4 := a_24.out.c4
    have ac5 := a_24.out.c5
    have bc0 := b_24.out.c0
    have bc1 := b_24.out.c1
    have bc2 := b_24.out.c2
    have bc3 := b_24.out.c3
    have bc4 := b_24.out.c4
    have bc5 := b_24.out.c5
    have cc0 := c_24.out.c0
    have cc1 := c_24.out.c1
    have cc2 := c_24.out.c2
    have cc3 := c_24.out.c3
    have cc4 := c_24.out.c4
    have cc5 := c_24.out.c5
    go_wp2_with fail
    clear ac0 ac1 ac2 ac3 ac4 ac5 bc0 bc1 bc2 bc3 bc4 bc5 cc0 cc1 cc2 cc3 cc4 cc5
    refine (pimul_any a c _).mono ?_
    rintro e v25 ⟨rfl, hb⟩
    have D25 := Lib.hid (D24.out.trans (hb.mono D24.out.size))
    have a_25 := Lib.hid (a_24.out.bel hb)
    have b_25 := Lib.hid (b_24.out.bel hb)
    have c_25 := Lib.hid (c_24.out.bel hb)
    have p1_25 := Lib.hid (p1_24.out.bel hb)
    have q1_25 := Lib.hid (q1_24.out.bel hb)
    have x1_25 := Lib.hid (x1_24.out.bel hb)
    have y1_25 := Lib.hid (y1_24.out.bel hb)
    clear D24 a_24 b_24 c_24 p1_24 q1_24 x1_24 y1_24
    clear hb
    simp only [V3.out]
    have ac0 := a_25.out.c0
    have ac1 := a_25.out.c1
    have ac2 := a_25.out.c2
    have ac3 := a_25.out.c3
    have ac4 := a_25.out.c4
    have ac5 := a_25.out.c5
    have bc0 := b_25.out.c0
    have bc1 := b_25.out.c1
    have bc2 := b_25.out.c2
    have bc3 := b_25.out.c3
    have bc4 := b_25.out.c4
    have bc5 := b_25.out.c5
    have cc0 := c_25.out.c0
    have cc1 := c_25.out.c1
    have cc2 := c_25.out.c2
    have cc3 := c_25.out.c3
    have cc4 := c_25.out.c4
    have cc5 := c_25.out.c5
    have sc0 := x1_25.out.c0; have sf0 := x1_25.out.fz 0
    have sc1 := x1_25.out.c1; have sf1 := x1_25.out.fz 1
    have sc2 := x1_25.out.c2; have sf2 := x1_25.out.fz 2
    have sc3 := x1_25.out.c3; have sf3 := x1_25.out.fz 3
    have sc4 := x1_25.out.c4; have sf4 := x1_25.out.fz 4
    have sc5 := x1_25.out.c5; have sf5 := x1_25.out.fz 5
    go_upto_region 17 with fail
    clear ac0 ac1 ac2 ac3 ac4 ac5 bc0 bc1 bc2 bc3 bc4 bc5 cc0 cc1 cc2 cc3 cc4 cc5 sc0 sf0 sc1 sf1 sc2 sf2 sc3 sf3 sc4 sf4 sc5 sf5
    obtain ⟨X26, hX26⟩ : ∃ W, W = ((((((((((((v25).setCell ⟨B4, 0, none⟩ (.bool x'.low.neg))).setCell ⟨B4, 1, none⟩ (.string x'.low.num))).setCell ⟨B4, 2, none⟩ (.string x'.low.den))).setCell ⟨B4, 3, none⟩ (.bool x'.high.neg))).setCell ⟨B4, 4, none⟩ (.string x'.high.num))).setCell ⟨B4, 5, none⟩ (.string x'.high.den)) := ⟨_, rfl⟩
    have hbes : Bes B4 v25 X26 := by rw [hX26]; exact stored6 _ _ _ _ _ _ _ _
    have D26 : Hid (Below w.heap.size w X26) := Lib.hid (by rw [hX26]; exact ((((((D25.out.setCell (p := ⟨B4, 0, none⟩) le_x1.out _).setCell (p := ⟨B4, 1, none⟩) le_x1.out _).setCell (p := ⟨B4, 2, none⟩) le_x1.out _).setCell (p := ⟨B4, 3, none⟩) le_x1.out _).setCell (p := ⟨B4, 4, none⟩) le_x1.out _).setCell (p := ⟨B4, 5, none⟩) le_x1.out _))
    have a_26 := Lib.hid (a_25.out.bes hbes ne_a_x1.out)
    have b_26 := Lib.hid (b_25.out.bes hbes ne_b_x1.out)
    have c_26 := Lib.hid (c_25.out.bes hbes ne_c_x1.out)
    have p1_26 := Lib.hid (p1_25.out.bes hbes ne_p1_x1.out)
    have q1_26 := Lib.hid (q1_25.out.bes hbes ne_q1_x1.out)
    have x1_26 : Hid (IvAt (B4) x' X26) := Lib.hid (by rw [hX26]; exact x1_25.out.set x')
    have y1_26 := Lib.hid (y1_25.out.bes hbes ne_x1_y1.out.symm)
    clear hbes D25 a_25 b_25 c_25 p1_25 q1_25 x1_25 y1_25
    rw [← hX26]
    have HX26 := Lib.hid hX26; clear hX26
    have ac0 := a_26.out.c0
    have ac1 := a_26.out.c1
    have ac2 := a_26.out.c2
    have ac3 := a_26.out.c3
    have ac4 := a_26.out.c4
    have ac5 := a_26.out.c5
    have bc0 := b_26.out.c0
    have bc1 := b_26.out.c1
    have bc2 := b_26.out.c2
    have bc3 := b_26.out.c3
    have bc4 := b_26.out.c4
    have bc5 := b_26.out.c5
    have cc0 := c_26.out.c0
    have cc1 := c_26.out.c1
    have cc2 := c_26.out.c2
    have cc3 := c_26.out.c3
    have cc4 := c_26.out.c4
    have cc5 := c_26.out.c5
    go_wp2_with fail
    clear ac0 ac1 ac2 ac3 ac4 ac5 bc0 bc1 bc2 bc3 bc4 bc5 cc0 cc1 cc2 cc3 cc4 cc5
    refine (pimul_any b c _).mono ?_
    rintro e v27 ⟨rfl, hb⟩
    have D27 := Lib.hid (D26.out.trans (hb.mono D26.out.size))
    have a_27 := Lib.hid (a_26.out.bel hb)
    have b_27 := Lib.hid (b_26.out.bel hb)
    have c_27 := Lib.hid (c_26.out.bel hb)
    have p1_27 := Lib.hid (p1_26.out.bel hb)
    have q1_27 := Lib.hid (q1_26.out.bel hb)
    have x1_27 := Lib.hid (x1_26.out.bel hb)
    have y1_27 := Lib.hid (y1_26.out.bel hb)
    clear D26 a_26 b_26 c_26 p1_26 q1_26 x1_26 y1_26
    clear hb
    simp only [V4.out]
    have ac0 := a_27.out.c0
    have ac1 := a_27.out.c1
    have ac2 := a_27.out.c2
    have ac3 := a_27.out.c3
    have ac4 := a_27.out.c4
    have ac5 := a_27.out.c5
    have bc0 := b_27.out.c0
    have bc1 := b_27.out.c1
    have bc2 := b_27.out.c2
    have bc3 := b_27.out.c3
    have bc4 := b_27.out.c4
    have bc5 := b_27.out.c5
    have cc0 := c_27.out.c0
    have cc1 := c_27.out.c1
    have cc2 := c_27.out.c2
    have cc3 := c_27.out.c3
    have cc4 := c_27.out.c4
    have cc5 := c_27.out.c5
    have sc0 := y1_27.out.c0; have sf0 := y1_27.out.fz 0
    have sc1 := y1_27.out.c1; have sf1 := y1_27.out.fz 1
    have sc2 := y1_27.out.c2; have sf2 := y1_27.out.fz 2
    have sc3 := y1_27.out.c3; have sf3 := y1_27.out.fz 3
    have sc4 := y1_27.out.c4; have sf4 := y1_27.out.fz 4
    have sc5 := y1_27.out.c5; have sf5 := y1_27.out.fz 5
    go_upto_region 18 with fail
    clear ac0 ac1 ac2 ac3 ac4 ac5 bc0 bc1 bc2 bc3 bc4 bc5 cc0 cc1 cc2 cc3 cc4 cc5 sc0 sf0 sc1 sf1 sc2 sf2 sc3 sf3 sc4 sf4 sc5 sf5
    obtain ⟨X28, hX28⟩ : ∃ W, W = ((((((((((((v27).setCell ⟨B5, 0, none⟩ (.bool y'.low.neg))).setCell ⟨B5, 1, none⟩ (.string y'.low.num))).setCell ⟨B5, 2, none⟩ (.string y'.low.den))).setCell ⟨B5, 3, none⟩ (.bool y'.high.neg))).setCell ⟨B5, 4, none⟩ (.string y'.high.num))).setCell ⟨B5, 5, none⟩ (.string y'.high.den)) := ⟨_, rfl⟩
    have hbes : Bes B5 v27 X28 := by rw [hX28]; exact stored6 _ _ _ _ _ _ _ _
    have D28 : Hid (Below w.heap.size w X28) := Lib.hid (by rw [hX28]; exact ((((((D27.out.setCell (p := ⟨B5, 0, none⟩) le_y1.out _).setCell (p := ⟨B5, 1, none⟩) le_y1.out _).setCell (p := ⟨B5, 2, none⟩) le_y1.out _).setCell (p := ⟨B5, 3, none⟩) le_y1.out _).setCell (p := ⟨B5, 4, none⟩) le_y1.out _).setCell (p := ⟨B5, 5, none⟩) le_y1.out _))
    have a_28 := Lib.hid (a_27.out.bes hbes ne_a_y1.out)
    have b_28 := Lib.hid (b_27.out.bes hbes ne_b_y1.out)
    have c_28 := Lib.hid (c_27.out.bes hbes ne_c_y1.out)
    have p1_28 := Lib.hid (p1_27.out.bes hbes ne_p1_y1.out)
    have q1_28 := Lib.hid (q1_27.out.bes hbes ne_q1_y1.out)
    have x1_28 := Lib.hid (x1_27.out.bes hbes ne_x1_y1.out)
    have y1_28 : Hid (IvAt (B5) y' X28) := Lib.hid (by rw [hX28]; exact y1_27.out.set y')
    clear hbes D27 a_27 b_27 c_27 p1_27 q1_27 x1_27 y1_27
    rw [← hX28]
    have HX28 := Lib.hid hX28; clear hX28
    have p1c0 := p1_28.out.c0
    have p1c1 := p1_28.out.c1
    have p1c2 := p1_28.out.c2
    have p1c3 := p1_28.out.c3
    have p1c4 := p1_28.out.c4
    have p1c5 := p1_28.out.c5
    have q1c0 := q1_28.out.c0
    have q1c1 := q1_28.out.c1
    have q1c2 := q1_28.out.c2
    have q1c3 := q1_28.out.c3
    have q1c4 := q1_28.out.c4
    have q1c5 := q1_28.out.c5
    have x1c0 := x1_28.out.c0
    have x1c1 := x1_28.out.c1
    have x1c2 := x1_28.out.c2
    have x1c3 := x1_28.out.c3
    have x1c4 := x1_28.out.c4
    have x1c5 := x1_28.out.c5
    have y1c0 := y1_28.out.c0
    have y1c1 := y1_28.out.c1
    have y1c2 := y1_28.out.c2
    have y1c3 := y1_28.out.c3
    have y1c4 := y1_28.out.c4
    have y1c5 := y1_28.out.c5
    go_wp2_with fail
    clear p1c0 p1c1 p1c2 p1c3 p1c4 p1c5 q1c0 q1c1 q1c2 q1c3 q1c4 q1c5 x1c0 x1c1 x1c2 x1c3 x1c4 x1c5 y1c0 y1c1 y1c2 y1c3 y1c4 y1c5
    refine (picon_any q' p'.low _).mono ?_
    rintro e v29 ⟨rfl, hb⟩
    have D29 := Lib.hid (D28.out.trans (hb.mono D28.out.size))
    have a_29 := Lib.hid (a_28.out.bel hb)
    have b_29 := Lib.hid (b_28.out.bel hb)
    have c_29 := Lib.hid (c_28.out.bel hb)
    have p1_29 := Lib.hid (p1_28.out.bel hb)
    have q1_29 := Lib.hid (q1_28.out.bel hb)
    have x1_29 := Lib.hid (x1_28.out.bel hb)
    have y1_29 := Lib.hid (y1_28.out.bel hb)
    clear D28 a_28 b_28 c_28 p1_28 q1_28 x1_28 y1_28
    clear hb
    simp only [K1.out]
    have p1c0 := p1_29.out.c0
    have p1c1 := p1_29.out.c1
    have p1c2 := p1_29.out.c2
    have p1c3 := p1_29.out.c3
    have p1c4 := p1_29.out.c4
    have p1c5 := p1_29.out.c5
    have q1c0 := q1_29.out.c0
    have q1c1 := q1_29.out.c1
    have q1c2 := q1_29.out.c2
    have q1c3 := q1_29.out.c3
    have q1c4 := q1_29.out.c4
    have q1c5 := q1_29.out.c5
    have x1c0 := x1_29.out.c0
    have x1c1 := x1_29.out.c1
    have x1c2 := x1_29.out.c2
    have x1c3 := x1_29.out.c3
    have x1c4 := x1_29.out.c4
    have x1c5 := x1_29.out.c5
    have y1c0 := y1_29.out.c0
    have y1c1 := y1_29.out.c1
    have y1c2 := y1_29.out.c2
    have y1c3 := y1_29.out.c3
    have y1c4 := y1_29.out.c4
    have y1c5 := y1_29.out.c5
    go_wp2_with fail
    clear p1c0 p1c1 p1c2 p1c3 p1c4 p1c5 q1c0 q1c1 q1c2 q1c3 q1c4 q1c5 x1c0 x1c1 x1c2 x1c3 x1c4 x1c5 y1c0 y1c1 y1c2 y1c3 y1c4 y1c5
    refine (picon_any q' p'.high _).mono ?_
    rintro e v30 ⟨rfl, hb⟩
    have D30 := Lib.hid (D29.out.trans (hb.mono D29.out.size))
    have a_30 := Lib.hid (a_29.out.bel hb)
    have b_30 := Lib.hid (b_29.out.bel hb)
    have c_30 := Lib.hid (c_29.out.bel hb)
    have p1_30 := Lib.hid (p1_29.out.bel hb)
    have q1_30 := Lib.hid (q1_29.out.bel hb)
    have x1_30 := Lib.hid (x1_29.out.bel hb)
    have y1_30 := Lib.hid (y1_29.out.bel hb)
    clear D29 a_29 b_29 c_29 p1_29 q1_29 x1_29 y1_29
    clear hb
    simp only [K2.out]
    have p1c0 := p1_30.out.c0
    have p1c1 := p1_30.out.c1
    have p1c2 := p1_30.out.c2
    have p1c3 := p1_30.out.c3
    have p1c4 := p1_30.out.c4
    have p1c5 := p1_30.out.c5
    have q1c0 := q1_30.out.c0
    have q1c1 := q1_30.out.c1
    have q1c2 := q1_30.out.c2
    have q1c3 := q1_30.out.c3
    have q1c4 := q1_30.out.c4
    have q1c5 := q1_30.out.c5
    have x1c0 := x1_30.out.c0
    have x1c1 := x1_30.out.c1
    have x1c2 := x1_30.out.c2
    have x1c3 := x1_30.out.c3
    have x1c4 := x1_30.out.c4
    have x1c5 := x1_30.out.c5
    have y1c0 := y1_30.out.c0
    have y1c1 := y1_30.out.c1
    have y1c2 := y1_30.out.c2
    have y1c3 := y1_30.out.c3
    have y1c4 := y1_30.out.c4
    have y1c5 := y1_30.out.c5
    go_wp2_with fail
    clear p1c0 p1c1 p1c2 p1c3 p1c4 p1c5 q1c0 q1c1 q1c2 q1c3 q1c4 q1c5 x1c0 x1c1 x1c2 x1c3 x1c4 x1c5 y1c0 y1c1 y1c2 y1c3 y1c4 y1c5
    refine (picon_any y' x'.low _).mono ?_
    rintro e v31 ⟨rfl, hb⟩
    have D31 := Lib.hid (D30.out.trans (hb.mono D30.out.size))
    have a_31 := Lib.hid (a_30.out.bel hb)
    have b_31 := Lib.hid (b_30.out.bel hb)
    have c_31 := Lib.hid (c_30.out.bel hb)
    have p1_31 := Lib.hid (p1_30.out.bel hb)
    have q1_31 := Lib.hid (q1_30.out.bel hb)
    have x1_31 := Lib.hid (x1_30.out.bel hb)
    have y1_31 := Lib.hid (y1_30.out.bel hb)
    clear D30 a_30 b_30 c_30 p1_30 q1_30 x1_30 y1_30
    clear hb
    simp only [K3.out]
    have p1c0 := p1_31.out.c0
    have p1c1 := p1_31.out.c1
    have p1c2 := p1_31.out.c2
    have p1c3 := p1_31.out.c3
    have p1c4 := p1_31.out.c4
    have p1c5 := p1_31.out.c5
    have q1c0 := q1_31.out.c0
    have q1c1 := q1_31.out.c1
    have q1c2 := q1_31.out.c2
    have q1c3 := q1_31.out.c3
    have q1c4 := q1_31.out.c4
    have q1c5 := q1_31.out.c5
    have x1c0 := x1_31.out.c0
    have x1c1 := x1_31.out.c1
    have x1c2 := x1_31.out.c2
    have x1c3 := x1_31.out.c3
    have x1c4 := x1_31.out.c4
    have x1c5 := x1_31.out.c5
    have y1c0 := y1_31.out.c0
    have y1c1 := y1_31.out.c1
    have y1c2 := y1_31.out.c2
    have y1c3 := y1_31.out.c3
    have y1c4 := y1_31.out.c4
    have y1c5 := y1_31.out.c5
    go_wp2_with fail
    clear p1c0 p1c1 p1c2 p1c3 p1c4 p1c5 q1c0 q1c1 q1c2 q1c3 q1c4 q1c5 x1c0 x1c1 x1c2 x1c3 x1c4 x1c5 y1c0 y1c1 y1c2 y1c3 y1c4 y1c5
    refine (picon_any y' x'.high _).mono ?_
    rintro e v32 ⟨rfl, hb⟩
    have D32 := Lib.hid (D31.out.trans (hb.mono D31.out.size))
    have a_32 := Lib.hid (a_31.out.bel hb)
    have b_32 := Lib.hid (b_31.out.bel hb)
    have c_32 := Lib.hid (c_31.out.bel hb)
    have p1_32 := Lib.hid (p1_31.out.bel hb)
    have q1_32 := Lib.hid (q1_31.out.bel hb)
    have x1_32 := Lib.hid (x1_31.out.bel hb)
    have y1_32 := Lib.hid (y1_31.out.bel hb)
    clear D31 a_31 b_31 c_31 p1_31 q1_31 x1_31 y1_31
    clear hb
    simp only [K4.out]
    go_wp2_with fail
    go_ret
    exact ⟨by first | rfl | (simp; done), D32.out⟩
end Go.Proofs.YtbcoblpnihdhgaaDoor
