/-
  The walk of RationalOrder.
-/
import Derived.Test.YthpghjklnkdmfaaDoorRmQ
set_option linter.unusedVariables false
set_option maxRecDepth 100000
namespace Go.Proofs.YthpghjklnkdmfaaDoor
open Go.RowKit
open Rt
set_option maxHeartbeats 8000000 in
theorem walkRationalOrder (a b c : Raw)  (w : World) (ht : TabOk w) (sa : a.num.size ≤ maxLen ∧ a.den.size ≤ maxLen) (sb : b.num.size ≤ maxLen ∧ b.den.size ≤ maxLen) (sc : c.num.size ≤ maxLen ∧ c.den.size ≤ maxLen)  : Calls Tryd.prog 5 #[.agg #[.bool a.neg, .string a.num, .string a.den], .agg #[.bool b.neg, .string b.num, .string b.den], .agg #[.bool c.neg, .string c.num, .string c.den]] w fun e w' => e = .returned (.bool true) ∧ Below w.heap.size w w' := by
  have HT := Lib.hid ht
  have HS : Hid (OkSz [a, b, c]) := Lib.hid (by intro r hr; simp only [List.mem_cons, List.not_mem_nil, or_false] at hr; rcases hr with rfl | rfl | rfl <;> assumption)
  clear ht sa sb sc
  have D0 := Lib.hid (Below.refl w.heap.size w)
  go_enter Tryd.func5, Tryd.ntmps5
  go_wp2_with fail
  obtain ⟨B1, hB1⟩ : ∃ B, B = w.heap.size := ⟨_, rfl⟩
  obtain ⟨W1_0, hW1_0⟩ : ∃ W, W = w.alloc (Obj.cells #[Value.bool a.neg, Value.string a.num, Value.string a.den] 24) := ⟨_, rfl⟩
  have hb : Below w.heap.size w W1_0 := by rw [hW1_0]; exact (Below.refl _ _).alloc (Nat.le_refl _) _
  have hzW1_0 : w.heap.size = B1 := by rw [hB1]
  have hlW1_0 : RatAt (B1) a W1_0 := by rw [← hzW1_0, hW1_0]; exact ⟨heap_lastM _ _⟩
  have D1 := Lib.hid (D0.out.trans (hb.mono D0.out.size))
  clear hb
  have a_1 := Lib.hid hlW1_0
  clear hlW1_0
  obtain ⟨W1_1, hW1_1⟩ : ∃ W, W = W1_0.alloc (Obj.cells #[Value.bool b.neg, Value.string b.num, Value.string b.den] 24) := ⟨_, rfl⟩
  have hb : Below W1_0.heap.size W1_0 W1_1 := by rw [hW1_1]; exact (Below.refl _ _).alloc (Nat.le_refl _) _
  have hzW1_1 : W1_0.heap.size = B1 + 1 := by rw [hW1_0]; simp [hzW1_0]
  have hlW1_1 : RatAt (B1 + 1) b W1_1 := by rw [← hzW1_1, hW1_1]; exact ⟨heap_lastM _ _⟩
  have D2 := Lib.hid (D1.out.trans (hb.mono D1.out.size))
  have a_2 := Lib.hid (a_1.out.bel hb)
  clear D1 a_1
  clear hb
  have b_2 := Lib.hid hlW1_1
  clear hlW1_1
  obtain ⟨W1_2, hW1_2⟩ : ∃ W, W = W1_1.alloc (Obj.cells #[Value.bool c.neg, Value.string c.num, Value.string c.den] 24) := ⟨_, rfl⟩
  have hb : Below W1_1.heap.size W1_1 W1_2 := by rw [hW1_2]; exact (Below.refl _ _).alloc (Nat.le_refl _) _
  have hzW1_2 : W1_1.heap.size = B1 + 1 + 1 := by rw [hW1_1]; simp [hzW1_1]
  have hlW1_2 : RatAt (B1 + 1 + 1) c W1_2 := by rw [← hzW1_2, hW1_2]; exact ⟨heap_lastM _ _⟩
  have D3 := Lib.hid (D2.out.trans (hb.mono D2.out.size))
  have a_3 := Lib.hid (a_2.out.bel hb)
  have b_3 := Lib.hid (b_2.out.bel hb)
  clear D2 a_2 b_2
  clear hb
  have c_3 := Lib.hid hlW1_2
  clear hlW1_2
  rw [← hW1_0]
  rw [← hW1_1]
  rw [← hW1_2]
  simp only [← hB1]
  have HW1_0 := Lib.hid hW1_0
  clear hW1_0 hzW1_0
  have HW1_1 := Lib.hid hW1_1
  clear hW1_1 hzW1_1
  have HW1_2 := Lib.hid hW1_2
  clear hW1_2 hzW1_2
  have HB1 := Lib.hid hB1
  clear hB1
  refine (head4_any _ (HT.out.below D3.out)).mono ?_
  rintro e v4 ⟨rfl, hb⟩
  have D4 := Lib.hid (D3.out.trans (hb.mono D3.out.size))
  have a_4 := Lib.hid (a_3.out.bel hb)
  have b_4 := Lib.hid (b_3.out.bel hb)
  have c_4 := Lib.hid (c_3.out.bel hb)
  clear D3 a_3 b_3 c_3
  clear hb
  have ac0 := a_4.out.c0
  have ac1 := a_4.out.c1
  have ac2 := a_4.out.c2
  have az := blk_lt a_4.out.cells
  have bc0 := b_4.out.c0
  have bc1 := b_4.out.c1
  have bc2 := b_4.out.c2
  have bz := blk_lt b_4.out.cells
  have cc0 := c_4.out.c0
  have cc1 := c_4.out.c1
  have cc2 := c_4.out.c2
  have cz := blk_lt c_4.out.cells
  go_wp2_with fail
  clear ac0 ac1 ac2 az bc0 bc1 bc2 bz cc0 cc1 cc2 cz
  refine (few4_three _ a b c HS.out).mono ?_
  rintro e v5 ⟨rfl, hb⟩
  have D5 := Lib.hid (D4.out.trans (hb.mono D4.out.size))
  have a_5 := Lib.hid (a_4.out.bel hb)
  have b_5 := Lib.hid (b_4.out.bel hb)
  have c_5 := Lib.hid (c_4.out.bel hb)
  clear D4 a_4 b_4 c_4
  clear hb
  rcases Bool.eq_false_or_eq_true (fewR [a, b, c]) with hp | hp
  rotate_left
  ·
    simp only [hp]
    go_wp2_with fail
    go_ret
    exact ⟨rfl, D5.out⟩
  simp only [hp]
  have HF := Lib.hid hp; clear hp
  have ac0 := a_5.out.c0
  have ac1 := a_5.out.c1
  have ac2 := a_5.out.c2
  have bc0 := b_5.out.c0
  have bc1 := b_5.out.c1
  have bc2 := b_5.out.c2
  have cc0 := c_5.out.c0
  have cc1 := c_5.out.c1
  have cc2 := c_5.out.c2
  go_wp2_with fail
  clear ac0 ac1 ac2 bc0 bc1 bc2 cc0 cc1 cc2
  refine (pratvalid_any a _).mono ?_
  rintro e v6 ⟨rfl, hb⟩
  have D6 := Lib.hid (D5.out.trans (hb.mono D5.out.size))
  have a_6 := Lib.hid (a_5.out.bel hb)
  have b_6 := Lib.hid (b_5.out.bel hb)
  have c_6 := Lib.hid (c_5.out.bel hb)
  clear D5 a_5 b_5 c_5
  clear hb
  rcases Bool.eq_false_or_eq_true (okR a) with hp | hp
  rotate_left
  ·
    simp only [hp]
    go_wp2_with fail
    go_ret
    exact ⟨rfl, D6.out⟩
  simp only [hp]
  have HA := Lib.hid hp; clear hp
  have ac0 := a_6.out.c0
  have ac1 := a_6.out.c1
  have ac2 := a_6.out.c2
  have bc0 := b_6.out.c0
  have bc1 := b_6.out.c1
  have bc2 := b_6.out.c2
  have cc0 := c_6.out.c0
  have cc1 := c_6.out.c1
  have cc2 := c_6.out.c2
  go_wp2_with fail
  clear ac0 ac1 ac2 bc0 bc1 bc2 cc0 cc1 cc2
  refine (pratvalid_any b _).mono ?_
  rintro e v7 ⟨rfl, hb⟩
  have D7 := Lib.hid (D6.out.trans (hb.mono D6.out.size))
  have a_7 := Lib.hid (a_6.out.bel hb)
  have b_7 := Lib.hid (b_6.out.bel hb)
  have c_7 := Lib.hid (c_6.out.bel hb)
  clear D6 a_6 b_6 c_6
  clear hb
  rcases Bool.eq_false_or_eq_true (okR b) with hp | hp
  rotate_left
  ·
    simp only [hp]
    go_wp2_with fail
    go_ret
    exact ⟨rfl, D7.out⟩
  simp only [hp]
  have HB := Lib.hid hp; clear hp
  have ac0 := a_7.out.c0
  have ac1 := a_7.out.c1
  have ac2 := a_7.out.c2
  have bc0 := b_7.out.c0
  have bc1 := b_7.out.c1
  have bc2 := b_7.out.c2
  have cc0 := c_7.out.c0
  have cc1 := c_7.out.c1
  have cc2 := c_7.out.c2
  go_wp2_with fail
  clear ac0 ac1 ac2 bc0 bc1 bc2 cc0 cc1 cc2
  refine (pratvalid_any c _).mono ?_
  rintro e v8 ⟨rfl, hb⟩
  have D8 := Lib.hid (D7.out.trans (hb.mono D7.out.size))
  have a_8 := Lib.hid (a_7.out.bel hb)
  have b_8 := Lib.hid (b_7.out.bel hb)
  have c_8 := Lib.hid (c_7.out.bel hb)
  clear D7 a_7 b_7 c_7
  clear hb
  rcases Bool.eq_false_or_eq_true (okR c) with hp | hp
  rotate_left
  ·
    simp only [hp]
    go_wp2_with fail
    go_ret
    exact ⟨rfl, D8.out⟩
  simp only [hp]
  have HC := Lib.hid hp; clear hp
  obtain ⟨d, p, q, r, s, x, hx, e1, e2, e3, e4, e5, e6, e7, e8, e9, e10, e11, e12⟩ := order_pure HA.out HB.out HC.out (few_three HF.out).1 (few_three HF.out).2.1 (few_three HF.out).2.2
  obtain ⟨y, hy⟩ : ∃ y, cmpE b c = y := ⟨_, rfl⟩
  obtain ⟨z, hz⟩ : ∃ z, cmpE a c = z := ⟨_, rfl⟩
  rw [hy, hz] at e4
  have E1 := Lib.hid e1; clear e1
  have E2 := Lib.hid e2; clear e2
  have E3 := Lib.hid e3; clear e3
  have E4 := Lib.hid e4; clear e4
  have E5 := Lib.hid e5; clear e5
  have E6 := Lib.hid e6; clear e6
  have E7 := Lib.hid e7; clear e7
  have E8 := Lib.hid e8; clear e8
  have E9 := Lib.hid e9; clear e9
  have E10 := Lib.hid e10; clear e10
  have E11 := Lib.hid e11; clear e11
  have E12 := Lib.hid e12; clear e12
  have HY := Lib.hid hy; have HZ := Lib.hid hz; clear hy hz
  go_wp2_with fail
  refine (prat_any _ _ _ _).mono ?_
  rintro e v9 ⟨rfl, hb⟩
  have D9 := Lib.hid (D8.out.trans (hb.mono D8.out.size))
  have a_9 := Lib.hid (a_8.out.bel hb)
  have b_9 := Lib.hid (b_8.out.bel hb)
  have c_9 := Lib.hid (c_8.out.bel hb)
  clear D8 a_8 b_8 c_8
  clear hb
  have ac0 := a_9.out.c0
  have ac1 := a_9.out.c1
  have ac2 := a_9.out.c2
  have az := blk_lt a_9.out.cells
  have bc0 := b_9.out.c0
  have bc1 := b_9.out.c1
  have bc2 := b_9.out.c2
  have bz := blk_lt b_9.out.cells
  go_wp2_with fail
  obtain ⟨B2, hB2⟩ : ∃ B, B = v9.heap.size := ⟨_, rfl⟩
  obtain ⟨W2_0, hW2_0⟩ : ∃ W, W = v9.alloc (Obj.cells #[Value.bool false, Value.string ⟨#[48]⟩, Value.string ⟨#[49]⟩] 24) := ⟨_, rfl⟩
  have hb : Below v9.heap.size v9 W2_0 := by rw [hW2_0]; exact (Below.refl _ _).alloc (Nat.le_refl _) _
  have hzW2_0 : v9.heap.size = B2 := by rw [hB2]
  have hlW2_0 : RatAt (B2) zeroR W2_0 := by rw [← hzW2_0, hW2_0]; exact ⟨heap_lastM _ _⟩
  have D10 := Lib.hid (D9.out.trans (hb.mono D9.out.size))
  have a_10 := Lib.hid (a_9.out.bel hb)
  have b_10 := Lib.hid (b_9.out.bel hb)
  have c_10 := Lib.hid (c_9.out.bel hb)
  clear D9 a_9 b_9 c_9
  clear hb
  have zero_10 := Lib.hid hlW2_0
  clear hlW2_0
  rw [← hW2_0]
  simp only [← hB2]
  have HW2_0 := Lib.hid hW2_0
  clear hW2_0 hzW2_0
  have HB2 := Lib.hid hB2
  clear hB2
  clear ac0 ac1 ac2 az bc0 bc1 bc2 bz
  rcases hx with rfl | rfl | rfl
  ·
    have heq : sameR a b = false := Bool.eq_false_iff.2 (fun h => absurd (E3.out.2 (sameR_iff.1 h)) (by decide))
    have heq' := Lib.hid heq; clear heq E3
    refine (pratcmp_any a b _).mono ?_
    rintro e v11 ⟨rfl, hb⟩
    have D11 := Lib.hid (D10.out.trans (hb.mono D10.out.size))
    have a_11 := Lib.hid (a_10.out.bel hb)
    have b_11 := Lib.hid (b_10.out.bel hb)
    have c_11 := Lib.hid (c_10.out.bel hb)
    have zero_11 := Lib.hid (zero_10.out.bel hb)
    clear D10 a_10 b_10 c_10 zero_10
    clear hb
    simp only [E1.out]
    have bc0 := b_11.out.c0
    have bc1 := b_11.out.c1
    have bc2 := b_11.out.c2
    have cc0 := c_11.out.c0
    have cc1 := c_11.out.c1
    have cc2 := c_11.out.c2
    go_wp2_with fail
    clear bc0 bc1 bc2 cc0 cc1 cc2
    refine (pratcmp_any b c _).mono ?_
    rintro e v12 ⟨rfl, hb⟩
    have D12 := Lib.hid (D11.out.trans (hb.mono D11.out.size))
    have a_12 := Lib.hid (a_11.out.bel hb)
    have b_12 := Lib.hid (b_11.out.bel hb)
    have c_12 := Lib.hid (c_11.out.bel hb)
    have zero_12 := Lib.hid (zero_11.out.bel hb)
    clear D11 a_11 b_11 c_11 zero_11
    clear hb
    simp only [HY.out]
    have bc0 := b_12.out.c0
    have bc1 := b_12.out.c1
    have bc2 := b_12.out.c2
    have ac0 := a_12.out.c0
    have ac1 := a_12.out.c1
    have ac2 := a_12.out.c2
    go_wp2_with fail
    clear bc0 bc1 bc2 ac0 ac1 ac2
    have HEQ : ∀ w, (binOp .eql 24 (.agg #[.bool a.neg, .string a.num, .string a.den]) (.agg #[.bool b.neg, .string b.num, .string b.den])).run Tryd.prog w = .ok (.bool false) w := fun w => by have := run_eql_rat a b w; rwa [heq'.out] at this
    clear heq'
    rcases Int.lt_or_le 0 y with hy | hy
    ·
      have hy' : decide (y ≤ 0) = false := decide_eq_false (by omega)
      refine (pratcmp_any b a _).mono ?_
      rintro e v13 ⟨rfl, hb⟩
      have D13 := Lib.hid (D12.out.trans (hb.mono D12.out.size))
      have a_13 := Lib.hid (a_12.out.bel hb)
      have b_13 := Lib.hid (b_12.out.bel hb)
      have c_13 := Lib.hid (c_12.out.bel hb)
      have zero_13 := Lib.hid (zero_12.out.bel hb)
      clear D12 a_12 b_12 c_12 zero_12
      clear hb
      simp only [E2.out]
      have ac0 := a_13.out.c0
      have ac1 := a_13.out.c1
      have ac2 := a_13.out.c2
      have az := blk_lt a_13.out.cells
      have bc0 := b_13.out.c0
      have bc1 := b_13.out.c1
      have bc2 := b_13.out.c2
      have bz := blk_lt b_13.out.cells
      have cc0 := c_13.out.c0
      have cc1 := c_13.out.c1
      have cc2 := c_13.out.c2
      have cz := blk_lt c_13.out.cells
      clear hy
      go_wp2_with fail
      clear ac0 ac1 ac2 az bc0 bc1 bc2 bz cc0 cc1 cc2 cz
      clear HEQ hy'
      refine (pratsub_any a b _).mono ?_
      rintro e v14 ⟨rfl, hb⟩
      have D14 := Lib.hid (D13.out.trans (hb.mono D13.out.size))
      have a_14 := Lib.hid (a_13.out.bel hb)
      have b_14 := Lib.hid (b_13.out.bel hb)
      have c_14 := Lib.hid (c_13.out.bel hb)
      have zero_14 := Lib.hid (zero_13.out.bel hb)
      clear D13 a_13 b_13 c_13 zero_13
      clear hb
      simp only [E5.out]
      have ac0 := a_14.out.c0
      have ac1 := a_14.out.c1
      have ac2 := a_14.out.c2
      have az := blk_lt a_14.out.cells
      have cc0 := c_14.out.c0
      have cc1 := c_14.out.c1
      have cc2 := c_14.out.c2
      have cz := blk_lt c_14.out.cells
      go_wp2_with fail
      obtain ⟨B3, hB3⟩ : ∃ B, B = v14.heap.size := ⟨_, rfl⟩
      obtain ⟨W3_0, hW3_0⟩ : ∃ W, W = v14.alloc (Obj.cells #[Value.bool d.neg, Value.string d.num, Value.string d.den] 24) := ⟨_, rfl⟩
      have hb : Below v14.heap.size v14 W3_0 := by rw [hW3_0]; exact (Below.refl _ _).alloc (Nat.le_refl _) _
      have hzW3_0 : v14.heap.size = B3 := by rw [hB3]
      have hlW3_0 : RatAt (B3) d W3_0 := by rw [← hzW3_0, hW3_0]; exact ⟨heap_lastM _ _⟩
      have D15 := Lib.hid (D14.out.trans (hb.mono D14.out.size))
      have a_15 := Lib.hid (a_14.out.bel hb)
      have b_15 := Lib.hid (b_14.out.bel hb)
      have c_15 := Lib.hid (c_14.out.bel hb)
      have zero_15 := Lib.hid (zero_14.out.bel hb)
      clear D14 a_14 b_14 c_14 zero_14
      clear hb
      have d_15 := Lib.hid hlW3_0
      clear hlW3_0
      rw [← hW3_0]
      simp only [← hB3]
      have HW3_0 := Lib.hid hW3_0
      clear hW3_0 hzW3_0
      have HB3 := Lib.hid hB3
      clear hB3
      clear ac0 ac1 ac2 az cc0 cc1 cc2 cz
      refine (pratadd_any a c _).mono ?_
      rintro e v16 ⟨rfl, hb⟩
      have D16 := Lib.hid (D15.out.trans (hb.mono D15.out.size))
      have a_16 := Lib.hid (a_15.out.bel hb)
      have b_16 := Lib.hid (b_15.out.bel hb)
      have c_16 := Lib.hid (c_15.out.bel hb)
      have zero_16 := Lib.hid (zero_15.out.bel hb)
      have d_16 := Lib.hid (d_15.out.bel hb)
      clear D15 a_15 b_15 c_15 zero_15 d_15
      clear hb
      simp only [E6.out]
      have bc0 := b_16.out.c0
      have bc1 := b_16.out.c1
      have bc2 := b_16.out.c2
      have bz := blk_lt b_16.out.cells
      have cc0 := c_16.out.c0
      have cc1 := c_16.out.c1
      have cc2 := c_16.out.c2
      have cz := blk_lt c_16.out.cells
      go_wp2_with fail
      obtain ⟨B4, hB4⟩ : ∃ B, B = v16.heap.size := ⟨_, rfl⟩
      obtain ⟨W4_0, hW4_0⟩ : ∃ W, W = v16.alloc (Obj.cells #[Value.bool p.neg, Value.string p.num, Value.string p.den] 24) := ⟨_, rfl⟩
      have hb : Below v16.heap.size v16 W4_0 := by rw [hW4_0]; exact (Below.refl _ _).alloc (Nat.le_refl _) _
      have hzW4_0 : v16.heap.size = B4 := by rw [hB4]
      have hlW4_0 : RatAt (B4) p W4_0 := by rw [← hzW4_0, hW4_0]; exact ⟨heap_lastM _ _⟩
      have D17 := Lib.hid (D16.out.trans (hb.mono D16.out.size))
      have a_17 := Lib.hid (a_16.out.bel hb)
      have b_17 := Lib.hid (b_16.out.bel hb)
      have c_17 := Lib.hid (c_16.out.bel hb)
      have zero_17 := Lib.hid (zero_16.out.bel hb)
      have d_17 := Lib.hid (d_16.out.bel hb)
      clear D16 a_16 b_16 c_16 zero_16 d_16
      clear hb
      have p_17 := Lib.hid hlW4_0
      clear hlW4_0
      rw [← hW4_0]
      simp only [← hB4]
      have HW4_0 := Lib.hid hW4_0
      clear hW4_0 hzW4_0
      have HB4 := Lib.hid hB4
      clear hB4
      clear bc0 bc1 bc2 bz cc0 cc1 cc2 cz
      refine (pratadd_any b c _).mono ?_
      rintro e v18 ⟨rfl, hb⟩
      have D18 := Lib.hid (D17.out.trans (hb.mono D17.out.size))
      have a_18 := Lib.hid (a_17.out.bel hb)
      have b_18 := Lib.hid (b_17.out.bel hb)
      have c_18 := Lib.hid (c_17.out.bel hb)
      have zero_18 := Lib.hid (zero_17.out.bel hb)
      have d_18 := Lib.hid (d_17.out.bel hb)
      have p_18 := Lib.hid (p_17.out.bel hb)
      clear D17 a_17 b_17 c_17 zero_17 d_17 p_17
      clear hb
      simp only [E7.out]
      have ac0 := a_18.out.c0
      have ac1 := a_18.out.c1
      have ac2 := a_18.out.c2
      have az := blk_lt a_18.out.cells
      have cc0 := c_18.out.c0
      have cc1 := c_18.out.c1
      have cc2 := c_18.out.c2
      have cz := blk_lt c_18.out.cells
      go_wp2_with fail
      obtain ⟨B5, hB5⟩ : ∃ B, B = v18.heap.size := ⟨_, rfl⟩
      obtain ⟨W5_0, hW5_0⟩ : ∃ W, W = v18.alloc (Obj.cells #[Value.bool q.neg, Value.string q.num, Value.string q.den] 24) := ⟨_, rfl⟩
      have hb : Below v18.heap.size v18 W5_0 := by rw [hW5_0]; exact (Below.refl _ _).alloc (Nat.le_refl _) _
      have hzW5_0 : v18.heap.size = B5 := by rw [hB5]
      have hlW5_0 : RatAt (B5) q W5_0 := by rw [← hzW5_0, hW5_0]; exact ⟨heap_lastM _ _⟩
      have D19 := Lib.hid (D18.out.trans (hb.mono D18.out.size))
      have a_19 := Lib.hid (a_18.out.bel hb)
      have b_19 := Lib.hid (b_18.out.bel hb)
      have c_19 := Lib.hid (c_18.out.bel hb)
      have zero_19 := Lib.hid (zero_18.out.bel hb)
      have d_19 := Lib.hid (d_18.out.bel hb)
      have p_19 := Lib.hid (p_18.out.bel hb)
      clear D18 a_18 b_18 c_18 zero_18 d_18 p_18
      clear hb
      have q_19 := Lib.hid hlW5_0
      clear hlW5_0
      rw [← hW5_0]
      simp only [← hB5]
      have HW5_0 := Lib.hid hW5_0
      clear hW5_0 hzW5_0
      have HB5 := Lib.hid hB5
      clear hB5
      clear ac0 ac1 ac2 az cc0 cc1 cc2 cz
      refine (pratmul_any a c _).mono ?_
      rintro e v20 ⟨rfl, hb⟩
      have D20 := Lib.hid (D19.out.trans (hb.mono D19.out.size))
      have a_20 := Lib.hid (a_19.out.bel hb)
      have b_20 := Lib.hid (b_19.out.bel hb)
      have c_20 := Lib.hid (c_19.out.bel hb)
      have zero_20 := Lib.hid (zero_19.out.bel hb)
      have d_20 := Lib.hid (d_19.out.bel hb)
      have p_20 := Lib.hid (p_19.out.bel hb)
      have q_20 := Lib.hid (q_19.out.bel hb)
      clear D19 a_19 b_19 c_19 zero_19 d_19 p_19 q_19
      clear hb
      simp only [E8.out]
      have bc0 := b_20.out.c0
      have bc1 := b_20.out.c1
      have bc2 := b_20.out.c2
      have bz := blk_lt b_20.out.cells
      have cc0 := c_20.out.c0
      have cc1 := c_20.out.c1
      have cc2 := c_20.out.c2
      have cz := blk_lt c_20.out.cells
      go_wp2_with fail
      obtain ⟨B6, hB6⟩ : ∃ B, B = v20.heap.size := ⟨_, rfl⟩
      obtain ⟨W6_0, hW6_0⟩ : ∃ W, W = v20.alloc (Obj.cells #[Value.bool r.neg, Value.string r.num, Value.string r.den] 24) := ⟨_, rfl⟩
      have hb : Below v20.heap.size v20 W6_0 := by rw [hW6_0]; exact (Below.refl _ _).alloc (Nat.le_refl _) _
      have hzW6_0 : v20.heap.size = B6 := by rw [hB6]
      have hlW6_0 : RatAt (B6) r W6_0 := by rw [← hzW6_0, hW6_0]; exact ⟨heap_lastM _ _⟩
      have D21 := Lib.hid (D20.out.trans (hb.mono D20.out.size))
      have a_21 := Lib.hid (a_20.out.bel hb)
      have b_21 := Lib.hid (b_20.out.bel hb)
      have c_21 := Lib.hid (c_20.out.bel hb)
      have zero_21 := Lib.hid (zero_20.out.bel hb)
      have d_21 := Lib.hid (d_20.out.bel hb)
      have p_21 := Lib.hid (p_20.out.bel hb)
      have q_21 := Lib.hid (q_20.out.bel hb)
      clear D20 a_20 b_20 c_20 zero_20 d_20 p_20 q_20
      clear hb
      have r_21 := Lib.hid hlW6_0
      clear hlW6_0
      rw [← hW6_0]
      simp only [← hB6]
      have HW6_0 := Lib.hid hW6_0
      clear hW6_0 hzW6_0
      have HB6 := Lib.hid hB6
      clear hB6
      clear bc0 bc1 bc2 bz cc0 cc1 cc2 cz
      refine (pratmul_any b c _).mono ?_
      rintro e v22 ⟨rfl, hb⟩
      have D22 := Lib.hid (D21.out.trans (hb.mono D21.out.size))
      have a_22 := Lib.hid (a_21.out.bel hb)
      have b_22 := Lib.hid (b_21.out.bel hb)
      have c_22 := Lib.hid (c_21.out.bel hb)
      have zero_22 := Lib.hid (zero_21.out.bel hb)
      have d_22 := Lib.hid (d_21.out.bel hb)
      have p_22 := Lib.hid (p_21.out.bel hb)
      have q_22 := Lib.hid (q_21.out.bel hb)
      have r_22 := Lib.hid (r_21.out.bel hb)
      clear D21 a_21 b_21 c_21 zero_21 d_21 p_21 q_21 r_21
      clear hb
      simp only [E9.out]
      have dc0 := d_22.out.c0
      have dc1 := d_22.out.c1
      have dc2 := d_22.out.c2
      have dz := blk_lt d_22.out.cells
      have zeroc0 := zero_22.out.c0
      have zeroc1 := zero_22.out.c1
      have zeroc2 := zero_22.out.c2
      have zeroz := blk_lt zero_22.out.cells
      go_wp2_with fail
      obtain ⟨B7, hB7⟩ : ∃ B, B = v22.heap.size := ⟨_, rfl⟩
      obtain ⟨W7_0, hW7_0⟩ : ∃ W, W = v22.alloc (Obj.cells #[Value.bool s.neg, Value.string s.num, Value.string s.den] 24) := ⟨_, rfl⟩
      have hb : Below v22.heap.size v22 W7_0 := by rw [hW7_0]; exact (Below.refl _ _).alloc (Nat.le_refl _) _
      have hzW7_0 : v22.heap.size = B7 := by rw [hB7]
      have hlW7_0 : RatAt (B7) s W7_0 := by rw [← hzW7_0, hW7_0]; exact ⟨heap_lastM _ _⟩
      have D23 := Lib.hid (D22.out.trans (hb.mono D22.out.size))
      have a_23 := Lib.hid (a_22.out.bel hb)
      have b_23 := Lib.hid (b_22.out.bel hb)
      have c_23 := Lib.hid (c_22.out.bel hb)
      have zero_23 := Lib.hid (zero_22.out.bel hb)
      have d_23 := Lib.hid (d_22.out.bel hb)
      have p_23 := Lib.hid (p_22.out.bel hb)
      have q_23 := Lib.hid (q_22.out.bel hb)
      have r_23 := Lib.hid (r_22.out.bel hb)
      clear D22 a_22 b_22 c_22 zero_22 d_22 p_22 q_22 r_22
      clear hb
      have s_23 := Lib.hid hlW7_0
      clear hlW7_0
      rw [← hW7_0]
      simp only [← hB7]
      have HW7_0 := Lib.hid hW7_0
      clear hW7_0 hzW7_0
      have HB7 := Lib.hid hB7
      clear hB7
      clear dc0 dc1 dc2 dz zeroc0 zeroc1 zeroc2 zeroz
      refine (pratcmp_any d zeroR _).mono ?_
      rintro e v24 ⟨rfl, hb⟩
      have D24 := Lib.hid (D23.out.trans (hb.mono D23.out.size))
      have a_24 := Lib.hid (a_23.out.bel hb)
      have b_24 := Lib.hid (b_23.out.bel hb)
      have c_24 := Lib.hid (c_23.out.bel hb)
      have zero_24 := Lib.hid (zero_23.out.bel hb)
      have d_24 := Lib.hid (d_23.out.bel hb)
      have p_24 := Lib.hid (p_23.out.bel hb)
      have q_24 := Lib.hid (q_23.out.bel hb)
      have r_24 := Lib.hid (r_23.out.bel hb)
      have s_24 := Lib.hid (s_23.out.bel hb)
      clear D23 a_23 b_23 c_23 zero_23 d_23 p_23 q_23 r_23 s_23
      clear hb
      simp only [E10.out]
      have pc0 := p_24.out.c0
      have pc1 := p_24.out.c1
      have pc2 := p_24.out.c2
      have pz := blk_lt p_24.out.cells
      have qc0 := q_24.out.c0
      have qc1 := q_24.out.c1
      have qc2 := q_24.out.c2
      have qz := blk_lt q_24.out.cells
      go_wp2_with fail
      clear pc0 pc1 pc2 pz qc0 qc1 qc2 qz
      refine (pratcmp_any p q _).mono ?_
      rintro e v25 ⟨rfl, hb⟩
      have D25 := Lib.hid (D24.out.trans (hb.mono D24.out.size))
      have a_25 := Lib.hid (a_24.out.bel hb)
      have b_25 := Lib.hid (b_24.out.bel hb)
      have c_25 := Lib.hid (c_24.out.bel hb)
      have zero_25 := Lib.hid (zero_24.out.bel hb)
      have d_25 := Lib.hid (d_24.out.bel hb)
      have p_25 := Lib.hid (p_24.out.bel hb)
      have q_25 := Lib.hid (q_24.out.bel hb)
      have r_25 := Lib.hid (r_24.out.bel hb)
      have s_25 := Lib.hid (s_24.out.bel hb)
      clear D24 a_24 b_24 c_24 zero_24 d_24 p_24 q_24 r_24 s_24
      clear hb
      simp only [E11.out]
      rcases Bool.eq_false_or_eq_true c.neg with hn | hn
      ·
        have cc0 := c_25.out.c0
        have cc1 := c_25.out.c1
        have cc2 := c_25.out.c2
        have cz := blk_lt c_25.out.cells
        have zeroc0 := zero_25.out.c0
        have zeroc1 := zero_25.out.c1
        have zeroc2 := zero_25.out.c2
        have zeroz := blk_lt zero_25.out.cells
        have rc0 := r_25.out.c0
        have rc1 := r_25.out.c1
        have rc2 := r_25.out.c2
        have rz := blk_lt r_25.out.cells
        have sc0 := s_25.out.c0
        have sc1 := s_25.out.c1
        have sc2 := s_25.out.c2
        have sz := blk_lt s_25.out.cells
        rw [hn] at cc0
        go_wp2_with fail
        go_ret
        exact ⟨rfl, D25.out⟩
      ·
        rcases Bool.eq_false_or_eq_true (sameR c zeroR) with hs | hs
        ·
          have HEQ : ∀ w, (binOp .eql 24 (.agg #[.bool false, .string c.num, .string c.den]) (.agg #[Value.bool false, Value.string ⟨#[48]⟩, Value.string ⟨#[49]⟩])).run Tryd.prog w = .ok (.bool true) w := fun w => by have := run_eql_rat c zeroR w; rwa [hs, hn] at this
          clear hs
          have cc0 := c_25.out.c0
          have cc1 := c_25.out.c1
          have cc2 := c_25.out.c2
          have cz := blk_lt c_25.out.cells
          have zeroc0 := zero_25.out.c0
          have zeroc1 := zero_25.out.c1
          have zeroc2 := zero_25.out.c2
          have zeroz := blk_lt zero_25.out.cells
          have rc0 := r_25.out.c0
          have rc1 := r_25.out.c1
          have rc2 := r_25.out.c2
          have rz := blk_lt r_25.out.cells
          have sc0 := s_25.out.c0
          have sc1 := s_25.out.c1
          have sc2 := s_25.out.c2
          have sz := blk_lt s_25.out.cells
          rw [hn] at cc0
          go_wp2_with fail
          go_ret
          exact ⟨rfl, D25.out⟩
        ·
          have HEQ : ∀ w, (binOp .eql 24 (.agg #[.bool false, .string c.num, .string c.den]) (.agg #[Value.bool false, Value.string ⟨#[48]⟩, Value.string ⟨#[49]⟩])).run Tryd.prog w = .ok (.bool false) w := fun w => by have := run_eql_rat c zeroR w; rwa [hs, hn] at this
          have hcmp := Lib.hid (E12.out hn (fun e => by rw [sameR_iff.2 e] at hs; cases hs))
          clear hs
          have cc0 := c_25.out.c0
          have cc1 := c_25.out.c1
          have cc2 := c_25.out.c2
          have cz := blk_lt c_25.out.cells
          have zeroc0 := zero_25.out.c0
          have zeroc1 := zero_25.out.c1
          have zeroc2 := zero_25.out.c2
          have zeroz := blk_lt zero_25.out.cells
          have rc0 := r_25.out.c0
          have rc1 := r_25.out.c1
          have rc2 := r_25.out.c2
          have rz := blk_lt r_25.out.cells
          have sc0 := s_25.out.c0
          have sc1 := s_25.out.c1
          have sc2 := s_25.out.c2
          have sz := blk_lt s_25.out.cells
          rw [hn] at cc0
          go_wp2_with fail
          refine (pratcmp_any r s _).mono ?_
          rintro e v26 ⟨rfl, hb⟩
          have D26 := Lib.hid (D25.out.trans (hb.mono D25.out.size))
          have a_26 := Lib.hid (a_25.out.bel hb)
          have b_26 := Lib.hid (b_25.out.bel hb)
          have c_26 := Lib.hid (c_25.out.bel hb)
          have zero_26 := Lib.hid (zero_25.out.bel hb)
          have d_26 := Lib.hid (d_25.out.bel hb)
          have p_26 := Lib.hid (p_25.out.bel hb)
          have q_26 := Lib.hid (q_25.out.bel hb)
          have r_26 := Lib.hid (r_25.out.bel hb)
          have s_26 := Lib.hid (s_25.out.bel hb)
          clear D25 a_25 b_25 c_25 zero_25 d_25 p_25 q_25 r_25 s_25
          clear hb
          simp only [hcmp.out]
          go_wp2_with fail
          go_ret
          exact ⟨rfl, D26.out⟩
    ·
      have hy' : decide (y ≤ 0) = true := decide_eq_true (by omega)
      have hz' : decide (0 < z) = false := decide_eq_false (by have := E4.out (by decide) hy; omega)
      refine (pratcmp_any b a _).mono ?_
      rintro e v13 ⟨rfl, hb⟩
      have D13 := Lib.hid (D12.out.trans (hb.mono D12.out.size))
      have a_13 := Lib.hid (a_12.out.bel hb)
      have b_13 := Lib.hid (b_12.out.bel hb)
      have c_13 := Lib.hid (c_12.out.bel hb)
      have zero_13 := Lib.hid (zero_12.out.bel hb)
      clear D12 a_12 b_12 c_12 zero_12
      clear hb
      simp only [E2.out]
      have ac0 := a_13.out.c0
      have ac1 := a_13.out.c1
      have ac2 := a_13.out.c2
      have az := blk_lt a_13.out.cells
      have bc0 := b_13.out.c0
      have bc1 := b_13.out.c1
      have bc2 := b_13.out.c2
      have bz := blk_lt b_13.out.cells
      have cc0 := c_13.out.c0
      have cc1 := c_13.out.c1
      have cc2 := c_13.out.c2
      have cz := blk_lt c_13.out.cells
      clear hy
      go_wp2_with fail
      clear ac0 ac1 ac2 az bc0 bc1 bc2 bz cc0 cc1 cc2 cz
      refine (pratcmp_any a c _).mono ?_
      rintro e v14 ⟨rfl, hb⟩
      have D14 := Lib.hid (D13.out.trans (hb.mono D13.out.size))
      have a_14 := Lib.hid (a_13.out.bel hb)
      have b_14 := Lib.hid (b_13.out.bel hb)
      have c_14 := Lib.hid (c_13.out.bel hb)
      have zero_14 := Lib.hid (zero_13.out.bel hb)
      clear D13 a_13 b_13 c_13 zero_13
      clear hb
      simp only [HZ.out]
      have ac0 := a_14.out.c0
      have ac1 := a_14.out.c1
      have ac2 := a_14.out.c2
      have az := blk_lt a_14.out.cells
      have bc0 := b_14.out.c0
      have bc1 := b_14.out.c1
      have bc2 := b_14.out.c2
      have bz := blk_lt b_14.out.cells
      have cc0 := c_14.out.c0
      have cc1 := c_14.out.c1
      have cc2 := c_14.out.c2
      have cz := blk_lt c_14.out.cells
      go_wp2_with fail
      clear ac0 ac1 ac2 az bc0 bc1 bc2 bz cc0 cc1 cc2 cz
      clear HEQ hy' hz'
      refine (pratsub_any a b _).mono ?_
      rintro e v15 ⟨rfl, hb⟩
      have D15 := Lib.hid (D14.out.trans (hb.mono D14.out.size))
      have a_15 := Lib.hid (a_14.out.bel hb)
      have b_15 := Lib.hid (b_14.out.bel hb)
      have c_15 := Lib.hid (c_14.out.bel hb)
      have zero_15 := Lib.hid (zero_14.out.bel hb)
      clear D14 a_14 b_14 c_14 zero_14
      clear hb
      simp only [E5.out]
      have ac0 := a_15.out.c0
      have ac1 := a_15.out.c1
      have ac2 := a_15.out.c2
      have az := blk_lt a_15.out.cells
      have cc0 := c_15.out.c0
      have cc1 := c_15.out.c1
      have cc2 := c_15.out.c2
      have cz := blk_lt c_15.out.cells
      go_wp2_with fail
      obtain ⟨B3, hB3⟩ : ∃ B, B = v15.heap.size := ⟨_, rfl⟩
      obtain ⟨W3_0, hW3_0⟩ : ∃ W, W = v15.alloc (Obj.cells #[Value.bool d.neg, Value.string d.num, Value.string d.den] 24) := ⟨_, rfl⟩
      have hb : Below v15.heap.size v15 W3_0 := by rw [hW3_0]; exact (Below.refl _ _).alloc (Nat.le_refl _) _
      have hzW3_0 : v15.heap.size = B3 := by rw [hB3]
      have hlW3_0 : RatAt (B3) d W3_0 := by rw [← hzW3_0, hW3_0]; exact ⟨heap_lastM _ _⟩
      have D16 := Lib.hid (D15.out.trans (hb.mono D15.out.size))
      have a_16 := Lib.hid (a_15.out.bel hb)
      have b_16 := Lib.hid (b_15.out.bel hb)
      have c_16 := Lib.hid (c_15.out.bel hb)
      have zero_16 := Lib.hid (zero_15.out.bel hb)
      clear D15 a_15 b_15 c_15 zero_15
      clear hb
      have d_16 := Lib.hid hlW3_0
      clear hlW3_0
      rw [← hW3_0]
      simp only [← hB3]
      have HW3_0 := Lib.hid hW3_0
      clear hW3_0 hzW3_0
      have HB3 := Lib.hid hB3
      clear hB3
      clear ac0 ac1 ac2 az cc0 cc1 cc2 cz
      refine (pratadd_any a c _).mono ?_
      rintro e v17 ⟨rfl, hb⟩
      have D17 := Lib.hid (D16.out.trans (hb.mono D16.out.size))
      have a_17 := Lib.hid (a_16.out.bel hb)
      have b_17 := Lib.hid (b_16.out.bel hb)
      have c_17 := Lib.hid (c_16.out.bel hb)
      have zero_17 := Lib.hid (zero_16.out.bel hb)
      have d_17 := Lib.hid (d_16.out.bel hb)
      clear D16 a_16 b_16 c_16 zero_16 d_16
      clear hb
      simp only [E6.out]
      have bc0 := b_17.out.c0
      have bc1 := b_17.out.c1
      have bc2 := b_17.out.c2
      have bz := blk_lt b_17.out.cells
      have cc0 := c_17.out.c0
      have cc1 := c_17.out.c1
      have cc2 := c_17.out.c2
      have cz := blk_lt c_17.out.cells
      go_wp2_with fail
      obtain ⟨B4, hB4⟩ : ∃ B, B = v17.heap.size := ⟨_, rfl⟩
      obtain ⟨W4_0, hW4_0⟩ : ∃ W, W = v17.alloc (Obj.cells #[Value.bool p.neg, Value.string p.num, Value.string p.den] 24) := ⟨_, rfl⟩
      have hb : Below v17.heap.size v17 W4_0 := by rw [hW4_0]; exact (Below.refl _ _).alloc (Nat.le_refl _) _
      have hzW4_0 : v17.heap.size = B4 := by rw [hB4]
      have hlW4_0 : RatAt (B4) p W4_0 := by rw [← hzW4_0, hW4_0]; exact ⟨heap_lastM _ _⟩
      have D18 := Lib.hid (D17.out.trans (hb.mono D17.out.size))
      have a_18 := Lib.hid (a_17.out.bel hb)
      have b_18 := Lib.hid (b_17.out.bel hb)
      have c_18 := Lib.hid (c_17.out.bel hb)
      have zero_18 := Lib.hid (zero_17.out.bel hb)
      have d_18 := Lib.hid (d_17.out.bel hb)
      clear D17 a_17 b_17 c_17 zero_17 d_17
      clear hb
      have p_18 := Lib.hid hlW4_0
      clear hlW4_0
      rw [← hW4_0]
      simp only [← hB4]
      have HW4_0 := Lib.hid hW4_0
      clear hW4_0 hzW4_0
      have HB4 := Lib.hid hB4
      clear hB4
      clear bc0 bc1 bc2 bz cc0 cc1 cc2 cz
      refine (pratadd_any b c _).mono ?_
      rintro e v19 ⟨rfl, hb⟩
      have D19 := Lib.hid (D18.out.trans (hb.mono D18.out.size))
      have a_19 := Lib.hid (a_18.out.bel hb)
      have b_19 := Lib.hid (b_18.out.bel hb)
      have c_19 := Lib.hid (c_18.out.bel hb)
      have zero_19 := Lib.hid (zero_18.out.bel hb)
      have d_19 := Lib.hid (d_18.out.bel hb)
      have p_19 := Lib.hid (p_18.out.bel hb)
      clear D18 a_18 b_18 c_18 zero_18 d_18 p_18
      clear hb
      simp only [E7.out]
      have ac0 := a_19.out.c0
      have ac1 := a_19.out.c1
      have ac2 := a_19.out.c2
      have az := blk_lt a_19.out.cells
      have cc0 := c_19.out.c0
      have cc1 := c_19.out.c1
      have cc2 := c_19.out.c2
      have cz := blk_lt c_19.out.cells
      go_wp2_with fail
      obtain ⟨B5, hB5⟩ : ∃ B, B = v19.heap.size := ⟨_, rfl⟩
      obtain ⟨W5_0, hW5_0⟩ : ∃ W, W = v19.alloc (Obj.cells #[Value.bool q.neg, Value.string q.num, Value.string q.den] 24) := ⟨_, rfl⟩
      have hb : Below v19.heap.size v19 W5_0 := by rw [hW5_0]; exact (Below.refl _ _).alloc (Nat.le_refl _) _
      have hzW5_0 : v19.heap.size = B5 := by rw [hB5]
      have hlW5_0 : RatAt (B5) q W5_0 := by rw [← hzW5_0, hW5_0]; exact ⟨heap_lastM _ _⟩
      have D20 := Lib.hid (D19.out.trans (hb.mono D19.out.size))
      have a_20 := Lib.hid (a_19.out.bel hb)
      have b_20 := Lib.hid (b_19.out.bel hb)
      have c_20 := Lib.hid (c_19.out.bel hb)
      have zero_20 := Lib.hid (zero_19.out.bel hb)
      have d_20 := Lib.hid (d_19.out.bel hb)
      have p_20 := Lib.hid (p_19.out.bel hb)
      clear D19 a_19 b_19 c_19 zero_19 d_19 p_19
      clear hb
      have q_20 := Lib.hid hlW5_0
      clear hlW5_0
      rw [← hW5_0]
      simp only [← hB5]
      have HW5_0 := Lib.hid hW5_0
      clear hW5_0 hzW5_0
      have HB5 := Lib.hid hB5
      clear hB5
      clear ac0 ac1 ac2 az cc0 cc1 cc2 cz
      refine (pratmul_any a c _).mono ?_
      rintro e v21 ⟨rfl, hb⟩
      have D21 := Lib.hid (D20.out.trans (hb.mono D20.out.size))
      have a_21 := Lib.hid (a_20.out.bel hb)
      have b_21 := Lib.hid (b_20.out.bel hb)
      have c_21 := Lib.hid (c_20.out.bel hb)
      have zero_21 := Lib.hid (zero_20.out.bel hb)
      have d_21 := Lib.hid (d_20.out.bel hb)
      have p_21 := Lib.hid (p_20.out.bel hb)
      have q_21 := Lib.hid (q_20.out.bel hb)
      clear D20 a_20 b_20 c_20 zero_20 d_20 p_20 q_20
      clear hb
      simp only [E8.out]
      have bc0 := b_21.out.c0
      have bc1 := b_21.out.c1
      have bc2 := b_21.out.c2
      have bz := blk_lt b_21.out.cells
      have cc0 := c_21.out.c0
      have cc1 := c_21.out.c1
      have cc2 := c_21.out.c2
      have cz := blk_lt c_21.out.cells
      go_wp2_with fail
      obtain ⟨B6, hB6⟩ : ∃ B, B = v21.heap.size := ⟨_, rfl⟩
      obtain ⟨W6_0, hW6_0⟩ : ∃ W, W = v21.alloc (Obj.cells #[Value.bool r.neg, Value.string r.num, Value.string r.den] 24) := ⟨_, rfl⟩
      have hb : Below v21.heap.size v21 W6_0 := by rw [hW6_0]; exact (Below.refl _ _).alloc (Nat.le_refl _) _
      have hzW6_0 : v21.heap.size = B6 := by rw [hB6]
      have hlW6_0 : RatAt (B6) r W6_0 := by rw [← hzW6_0, hW6_0]; exact ⟨heap_lastM _ _⟩
      have D22 := Lib.hid (D21.out.trans (hb.mono D21.out.size))
      have a_22 := Lib.hid (a_21.out.bel hb)
      have b_22 := Lib.hid (b_21.out.bel hb)
      have c_22 := Lib.hid (c_21.out.bel hb)
      have zero_22 := Lib.hid (zero_21.out.bel hb)
      have d_22 := Lib.hid (d_21.out.bel hb)
      have p_22 := Lib.hid (p_21.out.bel hb)
      have q_22 := Lib.hid (q_21.out.bel hb)
      clear D21 a_21 b_21 c_21 zero_21 d_21 p_21 q_21
      clear hb
      have r_22 := Lib.hid hlW6_0
      clear hlW6_0
      rw [← hW6_0]
      simp only [← hB6]
      have HW6_0 := Lib.hid hW6_0
      clear hW6_0 hzW6_0
      have HB6 := Lib.hid hB6
      clear hB6
      clear bc0 bc1 bc2 bz cc0 cc1 cc2 cz
      refine (pratmul_any b c _).mono ?_
      rintro e v23 ⟨rfl, hb⟩
      have D23 := Lib.hid (D22.out.trans (hb.mono D22.out.size))
      have a_23 := Lib.hid (a_22.out.bel hb)
      have b_23 := Lib.hid (b_22.out.bel hb)
      have c_23 := Lib.hid (c_22.out.bel hb)
      have zero_23 := Lib.hid (zero_22.out.bel hb)
      have d_23 := Lib.hid (d_22.out.bel hb)
      have p_23 := Lib.hid (p_22.out.bel hb)
      have q_23 := Lib.hid (q_22.out.bel hb)
      have r_23 := Lib.hid (r_22.out.bel hb)
      clear D22 a_22 b_22 c_22 zero_22 d_22 p_22 q_22 r_22
      clear hb
      simp only [E9.out]
      have dc0 := d_23.out.c0
      have dc1 := d_23.out.c1
      have dc2 := d_23.out.c2
      have dz := blk_lt d_23.out.cells
      have zeroc0 := zero_23.out.c0
      have zeroc1 := zero_23.out.c1
      have zeroc2 := zero_23.out.c2
      have zeroz := blk_lt zero_23.out.cells
      go_wp2_with fail
      obtain ⟨B7, hB7⟩ : ∃ B, B = v23.heap.size := ⟨_, rfl⟩
      obtain ⟨W7_0, hW7_0⟩ : ∃ W, W = v23.alloc (Obj.cells #[Value.bool s.neg, Value.string s.num, Value.string s.den] 24) := ⟨_, rfl⟩
      have hb : Below v23.heap.size v23 W7_0 := by rw [hW7_0]; exact (Below.refl _ _).alloc (Nat.le_refl _) _
      have hzW7_0 : v23.heap.size = B7 := by rw [hB7]
      have hlW7_0 : RatAt (B7) s W7_0 := by rw [← hzW7_0, hW7_0]; exact ⟨heap_lastM _ _⟩
      have D24 := Lib.hid (D23.out.trans (hb.mono D23.out.size))
      have a_24 := Lib.hid (a_23.out.bel hb)
      have b_24 := Lib.hid (b_23.out.bel hb)
      have c_24 := Lib.hid (c_23.out.bel hb)
      have zero_24 := Lib.hid (zero_23.out.bel hb)
      have d_24 := Lib.hid (d_23.out.bel hb)
      have p_24 := Lib.hid (p_23.out.bel hb)
      have q_24 := Lib.hid (q_23.out.bel hb)
      have r_24 := Lib.hid (r_23.out.bel hb)
      clear D23 a_23 b_23 c_23 zero_23 d_23 p_23 q_23 r_23
      clear hb
      have s_24 := Lib.hid hlW7_0
      clear hlW7_0
      rw [← hW7_0]
      simp only [← hB7]
      have HW7_0 := Lib.hid hW7_0
      clear hW7_0 hzW7_0
      have HB7 := Lib.hid hB7
      clear hB7
      clear dc0 dc1 dc2 dz zeroc0 zeroc1 zeroc2 zeroz
      refine (pratcmp_any d zeroR _).mono ?_
      rintro e v25 ⟨rfl, hb⟩
      have D25 := Lib.hid (D24.out.trans (hb.mono D24.out.size))
      have a_25 := Lib.hid (a_24.out.bel hb)
      have b_25 := Lib.hid (b_24.out.bel hb)
      have c_25 := Lib.hid (c_24.out.bel hb)
      have zero_25 := Lib.hid (zero_24.out.bel hb)
      have d_25 := Lib.hid (d_24.out.bel hb)
      have p_25 := Lib.hid (p_24.out.bel hb)
      have q_25 := Lib.hid (q_24.out.bel hb)
      have r_25 := Lib.hid (r_24.out.bel hb)
      have s_25 := Lib.hid (s_24.out.bel hb)
      clear D24 a_24 b_24 c_24 zero_24 d_24 p_24 q_24 r_24 s_24
      clear hb
      simp only [E10.out]
      have pc0 := p_25.out.c0
      have pc1 := p_25.out.c1
      have pc2 := p_25.out.c2
      have pz := blk_lt p_25.out.cells
      have qc0 := q_25.out.c0
      have qc1 := q_25.out.c1
      have qc2 := q_25.out.c2
      have qz := blk_lt q_25.out.cells
      go_wp2_with fail
      clear pc0 pc1 pc2 pz qc0 qc1 qc2 qz
      refine (pratcmp_any p q _).mono ?_
      rintro e v26 ⟨rfl, hb⟩
      have D26 := Lib.hid (D25.out.trans (hb.mono D25.out.size))
      have a_26 := Lib.hid (a_25.out.bel hb)
      have b_26 := Lib.hid (b_25.out.bel hb)
      have c_26 := Lib.hid (c_25.out.bel hb)
      have zero_26 := Lib.hid (zero_25.out.bel hb)
      have d_26 := Lib.hid (d_25.out.bel hb)
      have p_26 := Lib.hid (p_25.out.bel hb)
      have q_26 := Lib.hid (q_25.out.bel hb)
      have r_26 := Lib.hid (r_25.out.bel hb)
      have s_26 := Lib.hid (s_25.out.bel hb)
      clear D25 a_25 b_25 c_25 zero_25 d_25 p_25 q_25 r_25 s_25
      clear hb
      simp only [E11.out]
      rcases Bool.eq_false_or_eq_true c.neg with hn | hn
      ·
        have cc0 := c_26.out.c0
        have cc1 := c_26.out.c1
        have cc2 := c_26.out.c2
        have cz := blk_lt c_26.out.cells
        have zeroc0 := zero_26.out.c0
        have zeroc1 := zero_26.out.c1
        have zeroc2 := zero_26.out.c2
        have zeroz := blk_lt zero_26.out.cells
        have rc0 := r_26.out.c0
        have rc1 := r_26.out.c1
        have rc2 := r_26.out.c2
        have rz := blk_lt r_26.out.cells
        have sc0 := s_26.out.c0
        have sc1 := s_26.out.c1
        have sc2 := s_26.out.c2
        have sz := blk_lt s_26.out.cells
        rw [hn] at cc0
        go_wp2_with fail
        go_ret
        exact ⟨rfl, D26.out⟩
      ·
        rcases Bool.eq_false_or_eq_true (sameR c zeroR) with hs | hs
        ·
          have HEQ : ∀ w, (binOp .eql 24 (.agg #[.bool false, .string c.num, .string c.den]) (.agg #[Value.bool false, Value.string ⟨#[48]⟩, Value.string ⟨#[49]⟩])).run Tryd.prog w = .ok (.bool true) w := fun w => by have := run_eql_rat c zeroR w; rwa [hs, hn] at this
          clear hs
          have cc0 := c_26.out.c0
          have cc1 := c_26.out.c1
          have cc2 := c_26.out.c2
          have cz := blk_lt c_26.out.cells
          have zeroc0 := zero_26.out.c0
          have zeroc1 := zero_26.out.c1
          have zeroc2 := zero_26.out.c2
          have zeroz := blk_lt zero_26.out.cells
          have rc0 := r_26.out.c0
          have rc1 := r_26.out.c1
          have rc2 := r_26.out.c2
          have rz := blk_lt r_26.out.cells
          have sc0 := s_26.out.c0
          have sc1 := s_26.out.c1
          have sc2 := s_26.out.c2
          have sz := blk_lt s_26.out.cells
          rw [hn] at cc0
          go_wp2_with fail
          go_ret
          exact ⟨rfl, D26.out⟩
        ·
          have HEQ : ∀ w, (binOp .eql 24 (.agg #[.bool false, .string c.num, .string c.den]) (.agg #[Value.bool false, Value.string ⟨#[48]⟩, Value.string ⟨#[49]⟩])).run Tryd.prog w = .ok (.bool false) w := fun w => by have := run_eql_rat c zeroR w; rwa [hs, hn] at this
          have hcmp := Lib.hid (E12.out hn (fun e => by rw [sameR_iff.2 e] at hs; cases hs))
          clear hs
          have cc0 := c_26.out.c0
          have cc1 := c_26.out.c1
          have cc2 := c_26.out.c2
          have cz := blk_lt c_26.out.cells
          have zeroc0 := zero_26.out.c0
          have zeroc1 := zero_26.out.c1
          have zeroc2 := zero_26.out.c2
          have zeroz := blk_lt zero_26.out.cells
          have rc0 := r_26.out.c0
          have rc1 := r_26.out.c1
          have rc2 := r_26.out.c2
          have rz := blk_lt r_26.out.cells
          have sc0 := s_26.out.c0
          have sc1 := s_26.out.c1
          have sc2 := s_26.out.c2
          have sz := blk_lt s_26.out.cells
          rw [hn] at cc0
          go_wp2_with fail
          refine (pratcmp_any r s _).mono ?_
          rintro e v27 ⟨rfl, hb⟩
          have D27 := Lib.hid (D26.out.trans (hb.mono D26.out.size))
          have a_27 := Lib.hid (a_26.out.bel hb)
          have b_27 := Lib.hid (b_26.out.bel hb)
          have c_27 := Lib.hid (c_26.out.bel hb)
          have zero_27 := Lib.hid (zero_26.out.bel hb)
          have d_27 := Lib.hid (d_26.out.bel hb)
          have p_27 := Lib.hid (p_26.out.bel hb)
          have q_27 := Lib.hid (q_26.out.bel hb)
          have r_27 := Lib.hid (r_26.out.bel hb)
          have s_27 := Lib.hid (s_26.out.bel hb)
          clear D26 a_26 b_26 c_26 zero_26 d_26 p_26 q_26 r_26 s_26
          clear hb
          simp only [hcmp.out]
          go_wp2_with fail
          go_ret
          exact ⟨rfl, D27.out⟩
  ·
    have heq : sameR a b = true := sameR_iff.2 (E3.out.1 (by decide))
    have heq' := Lib.hid heq; clear heq E3
    refine (pratcmp_any a b _).mono ?_
    rintro e v11 ⟨rfl, hb⟩
    have D11 := Lib.hid (D10.out.trans (hb.mono D10.out.size))
    have a_11 := Lib.hid (a_10.out.bel hb)
    have b_11 := Lib.hid (b_10.out.bel hb)
    have c_11 := Lib.hid (c_10.out.bel hb)
    have zero_11 := Lib.hid (zero_10.out.bel hb)
    clear D10 a_10 b_10 c_10 zero_10
    clear hb
    simp only [E1.out]
    have bc0 := b_11.out.c0
    have bc1 := b_11.out.c1
    have bc2 := b_11.out.c2
    have cc0 := c_11.out.c0
    have cc1 := c_11.out.c1
    have cc2 := c_11.out.c2
    go_wp2_with fail
    clear bc0 bc1 bc2 cc0 cc1 cc2
    refine (pratcmp_any b c _).mono ?_
    rintro e v12 ⟨rfl, hb⟩
    have D12 := Lib.hid (D11.out.trans (hb.mono D11.out.size))
    have a_12 := Lib.hid (a_11.out.bel hb)
    have b_12 := Lib.hid (b_11.out.bel hb)
    have c_12 := Lib.hid (c_11.out.bel hb)
    have zero_12 := Lib.hid (zero_11.out.bel hb)
    clear D11 a_11 b_11 c_11 zero_11
    clear hb
    simp only [HY.out]
    have bc0 := b_12.out.c0
    have bc1 := b_12.out.c1
    have bc2 := b_12.out.c2
    have ac0 := a_12.out.c0
    have ac1 := a_12.out.c1
    have ac2 := a_12.out.c2
    go_wp2_with fail
    clear bc0 bc1 bc2 ac0 ac1 ac2
    have HEQ : ∀ w, (binOp .eql 24 (.agg #[.bool a.neg, .string a.num, .string a.den]) (.agg #[.bool b.neg, .string b.num, .string b.den])).run Tryd.prog w = .ok (.bool true) w := fun w => by have := run_eql_rat a b w; rwa [heq'.out] at this
    clear heq'
    rcases Int.lt_or_le 0 y with hy | hy
    ·
      have hy' : decide (y ≤ 0) = false := decide_eq_false (by omega)
      refine (pratcmp_any b a _).mono ?_
      rintro e v13 ⟨rfl, hb⟩
      have D13 := Lib.hid (D12.out.trans (hb.mono D12.out.size))
      have a_13 := Lib.hid (a_12.out.bel hb)
      have b_13 := Lib.hid (b_12.out.bel hb)
      have c_13 := Lib.hid (c_12.out.bel hb)
      have zero_13 := Lib.hid (zero_12.out.bel hb)
      clear D12 a_12 b_12 c_12 zero_12
      clear hb
      simp only [E2.out]
      have ac0 := a_13.out.c0
      have ac1 := a_13.out.c1
      have ac2 := a_13.out.c2
      have az := blk_lt a_13.out.cells
      have bc0 := b_13.out.c0
      have bc1 := b_13.out.c1
      have bc2 := b_13.out.c2
      have bz := blk_lt b_13.out.cells
      have cc0 := c_13.out.c0
      have cc1 := c_13.out.c1
      have cc2 := c_13.out.c2
      have cz := blk_lt c_13.out.cells
      clear hy
      go_wp2_with fail
      clear ac0 ac1 ac2 az bc0 bc1 bc2 bz cc0 cc1 cc2 cz
      clear HEQ hy'
      refine (pratsub_any a b _).mono ?_
      rintro e v14 ⟨rfl, hb⟩
      have D14 := Lib.hid (D13.out.trans (hb.mono D13.out.size))
      have a_14 := Lib.hid (a_13.out.bel hb)
      have b_14 := Lib.hid (b_13.out.bel hb)
      have c_14 := Lib.hid (c_13.out.bel hb)
      have zero_14 := Lib.hid (zero_13.out.bel hb)
      clear D13 a_13 b_13 c_13 zero_13
      clear hb
      simp only [E5.out]
      have ac0 := a_14.out.c0
      have ac1 := a_14.out.c1
      have ac2 := a_14.out.c2
      have az := blk_lt a_14.out.cells
      have cc0 := c_14.out.c0
      have cc1 := c_14.out.c1
      have cc2 := c_14.out.c2
      have cz := blk_lt c_14.out.cells
      go_wp2_with fail
      obtain ⟨B3, hB3⟩ : ∃ B, B = v14.heap.size := ⟨_, rfl⟩
      obtain ⟨W3_0, hW3_0⟩ : ∃ W, W = v14.alloc (Obj.cells #[Value.bool d.neg, Value.string d.num, Value.string d.den] 24) := ⟨_, rfl⟩
      have hb : Below v14.heap.size v14 W3_0 := by rw [hW3_0]; exact (Below.refl _ _).alloc (Nat.le_refl _) _
      have hzW3_0 : v14.heap.size = B3 := by rw [hB3]
      have hlW3_0 : RatAt (B3) d W3_0 := by rw [← hzW3_0, hW3_0]; exact ⟨heap_lastM _ _⟩
      have D15 := Lib.hid (D14.out.trans (hb.mono D14.out.size))
      have a_15 := Lib.hid (a_14.out.bel hb)
      have b_15 := Lib.hid (b_14.out.bel hb)
      have c_15 := Lib.hid (c_14.out.bel hb)
      have zero_15 := Lib.hid (zero_14.out.bel hb)
      clear D14 a_14 b_14 c_14 zero_14
      clear hb
      have d_15 := Lib.hid hlW3_0
      clear hlW3_0
      rw [← hW3_0]
      simp only [← hB3]
      have HW3_0 := Lib.hid hW3_0
      clear hW3_0 hzW3_0
      have HB3 := Lib.hid hB3
      clear hB3
      clear ac0 ac1 ac2 az cc0 cc1 cc2 cz
      refine (pratadd_any a c _).mono ?_
      rintro e v16 ⟨rfl, hb⟩
      have D16 := Lib.hid (D15.out.trans (hb.mono D15.out.size))
      have a_16 := Lib.hid (a_15.out.bel hb)
      have b_16 := Lib.hid (b_15.out.bel hb)
      have c_16 := Lib.hid (c_15.out.bel hb)
      have zero_16 := Lib.hid (zero_15.out.bel hb)
      have d_16 := Lib.hid (d_15.out.bel hb)
      clear D15 a_15 b_15 c_15 zero_15 d_15
      clear hb
      simp only [E6.out]
      have bc0 := b_16.out.c0
      have bc1 := b_16.out.c1
      have bc2 := b_16.out.c2
      have bz := blk_lt b_16.out.cells
      have cc0 := c_16.out.c0
      have cc1 := c_16.out.c1
      have cc2 := c_16.out.c2
      have cz := blk_lt c_16.out.cells
      go_wp2_with fail
      obtain ⟨B4, hB4⟩ : ∃ B, B = v16.heap.size := ⟨_, rfl⟩
      obtain ⟨W4_0, hW4_0⟩ : ∃ W, W = v16.alloc (Obj.cells #[Value.bool p.neg, Value.string p.num, Value.string p.den] 24) := ⟨_, rfl⟩
      have hb : Below v16.heap.size v16 W4_0 := by rw [hW4_0]; exact (Below.refl _ _).alloc (Nat.le_refl _) _
      have hzW4_0 : v16.heap.size = B4 := by rw [hB4]
      have hlW4_0 : RatAt (B4) p W4_0 := by rw [← hzW4_0, hW4_0]; exact ⟨heap_lastM _ _⟩
      have D17 := Lib.hid (D16.out.trans (hb.mono D16.out.size))
      have a_17 := Lib.hid (a_16.out.bel hb)
      have b_17 := Lib.hid (b_16.out.bel hb)
      have c_17 := Lib.hid (c_16.out.bel hb)
      have zero_17 := Lib.hid (zero_16.out.bel hb)
      have d_17 := Lib.hid (d_16.out.bel hb)
      clear D16 a_16 b_16 c_16 zero_16 d_16
      clear hb
      have p_17 := Lib.hid hlW4_0
      clear hlW4_0
      rw [← hW4_0]
      simp only [← hB4]
      have HW4_0 := Lib.hid hW4_0
      clear hW4_0 hzW4_0
      have HB4 := Lib.hid hB4
      clear hB4
      clear bc0 bc1 bc2 bz cc0 cc1 cc2 cz
      refine (pratadd_any b c _).mono ?_
      rintro e v18 ⟨rfl, hb⟩
      have D18 := Lib.hid (D17.out.trans (hb.mono D17.out.size))
      have a_18 := Lib.hid (a_17.out.bel hb)
      have b_18 := Lib.hid (b_17.out.bel hb)
      have c_18 := Lib.hid (c_17.out.bel hb)
      have zero_18 := Lib.hid (zero_17.out.bel hb)
      have d_18 := Lib.hid (d_17.out.bel hb)
      have p_18 := Lib.hid (p_17.out.bel hb)
      clear D17 a_17 b_17 c_17 zero_17 d_17 p_17
      clear hb
      simp only [E7.out]
      have ac0 := a_18.out.c0
      have ac1 := a_18.out.c1
      have ac2 := a_18.out.c2
      have az := blk_lt a_18.out.cells
      have cc0 := c_18.out.c0
      have cc1 := c_18.out.c1
      have cc2 := c_18.out.c2
      have cz := blk_lt c_18.out.cells
      go_wp2_with fail
      obtain ⟨B5, hB5⟩ : ∃ B, B = v18.heap.size := ⟨_, rfl⟩
      obtain ⟨W5_0, hW5_0⟩ : ∃ W, W = v18.alloc (Obj.cells #[Value.bool q.neg, Value.string q.num, Value.string q.den] 24) := ⟨_, rfl⟩
      have hb : Below v18.heap.size v18 W5_0 := by rw [hW5_0]; exact (Below.refl _ _).alloc (Nat.le_refl _) _
      have hzW5_0 : v18.heap.size = B5 := by rw [hB5]
      have hlW5_0 : RatAt (B5) q W5_0 := by rw [← hzW5_0, hW5_0]; exact ⟨heap_lastM _ _⟩
      have D19 := Lib.hid (D18.out.trans (hb.mono D18.out.size))
      have a_19 := Lib.hid (a_18.out.bel hb)
      have b_19 := Lib.hid (b_18.out.bel hb)
      have c_19 := Lib.hid (c_18.out.bel hb)
      have zero_19 := Lib.hid (zero_18.out.bel hb)
      have d_19 := Lib.hid (d_18.out.bel hb)
      have p_19 := Lib.hid (p_18.out.bel hb)
      clear D18 a_18 b_18 c_18 zero_18 d_18 p_18
      clear hb
      have q_19 := Lib.hid hlW5_0
      clear hlW5_0
      rw [← hW5_0]
      simp only [← hB5]
      have HW5_0 := Lib.hid hW5_0
      clear hW5_0 hzW5_0
      have HB5 := Lib.hid hB5
      clear hB5
      clear ac0 ac1 ac2 az cc0 cc1 cc2 cz
      refine (pratmul_any a c _).mono ?_
      rintro e v20 ⟨rfl, hb⟩
      have D20 := Lib.hid (D19.out.trans (hb.mono D19.out.size))
      have a_20 := Lib.hid (a_19.out.bel hb)
      have b_20 := Lib.hid (b_19.out.bel hb)
      have c_20 := Lib.hid (c_19.out.bel hb)
      have zero_20 := Lib.hid (zero_19.out.bel hb)
      have d_20 := Lib.hid (d_19.out.bel hb)
      have p_20 := Lib.hid (p_19.out.bel hb)
      have q_20 := Lib.hid (q_19.out.bel hb)
      clear D19 a_19 b_19 c_19 zero_19 d_19 p_19 q_19
      clear hb
      simp only [E8.out]
      have bc0 := b_20.out.c0
      have bc1 := b_20.out.c1
      have bc2 := b_20.out.c2
      have bz := blk_lt b_20.out.cells
      have cc0 := c_20.out.c0
      have cc1 := c_20.out.c1
      have cc2 := c_20.out.c2
      have cz := blk_lt c_20.out.cells
      go_wp2_with fail
      obtain ⟨B6, hB6⟩ : ∃ B, B = v20.heap.size := ⟨_, rfl⟩
      obtain ⟨W6_0, hW6_0⟩ : ∃ W, W = v20.alloc (Obj.cells #[Value.bool r.neg, Value.string r.num, Value.string r.den] 24) := ⟨_, rfl⟩
      have hb : Below v20.heap.size v20 W6_0 := by rw [hW6_0]; exact (Below.refl _ _).alloc (Nat.le_refl _) _
      have hzW6_0 : v20.heap.size = B6 := by rw [hB6]
      have hlW6_0 : RatAt (B6) r W6_0 := by rw [← hzW6_0, hW6_0]; exact ⟨heap_lastM _ _⟩
      have D21 := Lib.hid (D20.out.trans (hb.mono D20.out.size))
      have a_21 := Lib.hid (a_20.out.bel hb)
      have b_21 := Lib.hid (b_20.out.bel hb)
      have c_21 := Lib.hid (c_20.out.bel hb)
      have zero_21 := Lib.hid (zero_20.out.bel hb)
      have d_21 := Lib.hid (d_20.out.bel hb)
      have p_21 := Lib.hid (p_20.out.bel hb)
      have q_21 := Lib.hid (q_20.out.bel hb)
      clear D20 a_20 b_20 c_20 zero_20 d_20 p_20 q_20
      clear hb
      have r_21 := Lib.hid hlW6_0
      clear hlW6_0
      rw [← hW6_0]
      simp only [← hB6]
      have HW6_0 := Lib.hid hW6_0
      clear hW6_0 hzW6_0
      have HB6 := Lib.hid hB6
      clear hB6
      clear bc0 bc1 bc2 bz cc0 cc1 cc2 cz
      refine (pratmul_any b c _).mono ?_
      rintro e v22 ⟨rfl, hb⟩
      have D22 := Lib.hid (D21.out.trans (hb.mono D21.out.size))
      have a_22 := Lib.hid (a_21.out.bel hb)
      have b_22 := Lib.hid (b_21.out.bel hb)
      have c_22 := Lib.hid (c_21.out.bel hb)
      have zero_22 := Lib.hid (zero_21.out.bel hb)
      have d_22 := Lib.hid (d_21.out.bel hb)
      have p_22 := Lib.hid (p_21.out.bel hb)
      have q_22 := Lib.hid (q_21.out.bel hb)
      have r_22 := Lib.hid (r_21.out.bel hb)
      clear D21 a_21 b_21 c_21 zero_21 d_21 p_21 q_21 r_21
      clear hb
      simp only [E9.out]
      have dc0 := d_22.out.c0
      have dc1 := d_22.out.c1
      have dc2 := d_22.out.c2
      have dz := blk_lt d_22.out.cells
      have zeroc0 := zero_22.out.c0
      have zeroc1 := zero_22.out.c1
      have zeroc2 := zero_22.out.c2
      have zeroz := blk_lt zero_22.out.cells
      go_wp2_with fail
      obtain ⟨B7, hB7⟩ : ∃ B, B = v22.heap.size := ⟨_, rfl⟩
      obtain ⟨W7_0, hW7_0⟩ : ∃ W, W = v22.alloc (Obj.cells #[Value.bool s.neg, Value.string s.num, Value.string s.den] 24) := ⟨_, rfl⟩
      have hb : Below v22.heap.size v22 W7_0 := by rw [hW7_0]; exact (Below.refl _ _).alloc (Nat.le_refl _) _
      have hzW7_0 : v22.heap.size = B7 := by rw [hB7]
      have hlW7_0 : RatAt (B7) s W7_0 := by rw [← hzW7_0, hW7_0]; exact ⟨heap_lastM _ _⟩
      have D23 := Lib.hid (D22.out.trans (hb.mono D22.out.size))
      have a_23 := Lib.hid (a_22.out.bel hb)
      have b_23 := Lib.hid (b_22.out.bel hb)
      have c_23 := Lib.hid (c_22.out.bel hb)
      have zero_23 := Lib.hid (zero_22.out.bel hb)
      have d_23 := Lib.hid (d_22.out.bel hb)
      have p_23 := Lib.hid (p_22.out.bel hb)
      have q_23 := Lib.hid (q_22.out.bel hb)
      have r_23 := Lib.hid (r_22.out.bel hb)
      clear D22 a_22 b_22 c_22 zero_22 d_22 p_22 q_22 r_22
      clear hb
      have s_23 := Lib.hid hlW7_0
      clear hlW7_0
      rw [← hW7_0]
      simp only [← hB7]
      have HW7_0 := Lib.hid hW7_0
      clear hW7_0 hzW7_0
      have HB7 := Lib.hid hB7
      clear hB7
      clear dc0 dc1 dc2 dz zeroc0 zeroc1 zeroc2 zeroz
      refine (pratcmp_any d zeroR _).mono ?_
      rintro e v24 ⟨rfl, hb⟩
      have D24 := Lib.hid (D23.out.trans (hb.mono D23.out.size))
      have a_24 := Lib.hid (a_23.out.bel hb)
      have b_24 := Lib.hid (b_23.out.bel hb)
      have c_24 := Lib.hid (c_23.out.bel hb)
      have zero_24 := Lib.hid (zero_23.out.bel hb)
      have d_24 := Lib.hid (d_23.out.bel hb)
      have p_24 := Lib.hid (p_23.out.bel hb)
      have q_24 := Lib.hid (q_23.out.bel hb)
      have r_24 := Lib.hid (r_23.out.bel hb)
      have s_24 := Lib.hid (s_23.out.bel hb)
      clear D23 a_23 b_23 c_23 zero_23 d_23 p_23 q_23 r_23 s_23
      clear hb
      simp only [E10.out]
      have pc0 := p_24.out.c0
      have pc1 := p_24.out.c1
      have pc2 := p_24.out.c2
      have pz := blk_lt p_24.out.cells
      have qc0 := q_24.out.c0
      have qc1 := q_24.out.c1
      have qc2 := q_24.out.c2
      have qz := blk_lt q_24.out.cells
      go_wp2_with fail
      clear pc0 pc1 pc2 pz qc0 qc1 qc2 qz
      refine (pratcmp_any p q _).mono ?_
      rintro e v25 ⟨rfl, hb⟩
      have D25 := Lib.hid (D24.out.trans (hb.mono D24.out.size))
      have a_25 := Lib.hid (a_24.out.bel hb)
      have b_25 := Lib.hid (b_24.out.bel hb)
      have c_25 := Lib.hid (c_24.out.bel hb)
      have zero_25 := Lib.hid (zero_24.out.bel hb)
      have d_25 := Lib.hid (d_24.out.bel hb)
      have p_25 := Lib.hid (p_24.out.bel hb)
      have q_25 := Lib.hid (q_24.out.bel hb)
      have r_25 := Lib.hid (r_24.out.bel hb)
      have s_25 := Lib.hid (s_24.out.bel hb)
      clear D24 a_24 b_24 c_24 zero_24 d_24 p_24 q_24 r_24 s_24
      clear hb
      simp only [E11.out]
      rcases Bool.eq_false_or_eq_true c.neg with hn | hn
      ·
        have cc0 := c_25.out.c0
        have cc1 := c_25.out.c1
        have cc2 := c_25.out.c2
        have cz := blk_lt c_25.out.cells
        have zeroc0 := zero_25.out.c0
        have zeroc1 := zero_25.out.c1
        have zeroc2 := zero_25.out.c2
        have zeroz := blk_lt zero_25.out.cells
        have rc0 := r_25.out.c0
        have rc1 := r_25.out.c1
        have rc2 := r_25.out.c2
        have rz := blk_lt r_25.out.cells
        have sc0 := s_25.out.c0
        have sc1 := s_25.out.c1
        have sc2 := s_25.out.c2
        have sz := blk_lt s_25.out.cells
        rw [hn] at cc0
        go_wp2_with fail
        go_ret
        exact ⟨rfl, D25.out⟩
      ·
        rcases Bool.eq_false_or_eq_true (sameR c zeroR) with hs | hs
        ·
          have HEQ : ∀ w, (binOp .eql 24 (.agg #[.bool false, .string c.num, .string c.den]) (.agg #[Value.bool false, Value.string ⟨#[48]⟩, Value.string ⟨#[49]⟩])).run Tryd.prog w = .ok (.bool true) w := fun w => by have := run_eql_rat c zeroR w; rwa [hs, hn] at this
          clear hs
          have cc0 := c_25.out.c0
          have cc1 := c_25.out.c1
          have cc2 := c_25.out.c2
          have cz := blk_lt c_25.out.cells
          have zeroc0 := zero_25.out.c0
          have zeroc1 := zero_25.out.c1
          have zeroc2 := zero_25.out.c2
          have zeroz := blk_lt zero_25.out.cells
          have rc0 := r_25.out.c0
          have rc1 := r_25.out.c1
          have rc2 := r_25.out.c2
          have rz := blk_lt r_25.out.cells
          have sc0 := s_25.out.c0
          have sc1 := s_25.out.c1
          have sc2 := s_25.out.c2
          have sz := blk_lt s_25.out.cells
          rw [hn] at cc0
          go_wp2_with fail
          go_ret
          exact ⟨rfl, D25.out⟩
        ·
          have HEQ : ∀ w, (binOp .eql 24 (.agg #[.bool false, .string c.num, .string c.den]) (.agg #[Value.bool false, Value.string ⟨#[48]⟩, Value.string ⟨#[49]⟩])).run Tryd.prog w = .ok (.bool false) w := fun w => by have := run_eql_rat c zeroR w; rwa [hs, hn] at this
          have hcmp := Lib.hid (E12.out hn (fun e => by rw [sameR_iff.2 e] at hs; cases hs))
          clear hs
          have cc0 := c_25.out.c0
          have cc1 := c_25.out.c1
          have cc2 := c_25.out.c2
          have cz := blk_lt c_25.out.cells
          have zeroc0 := zero_25.out.c0
          have zeroc1 := zero_25.out.c1
          have zeroc2 := zero_25.out.c2
          have zeroz := blk_lt zero_25.out.cells
          have rc0 := r_25.out.c0
          have rc1 := r_25.out.c1
          have rc2 := r_25.out.c2
          have rz := blk_lt r_25.out.cells
          have sc0 := s_25.out.c0
          have sc1 := s_25.out.c1
          have sc2 := s_25.out.c2
          have sz := blk_lt s_25.out.cells
          rw [hn] at cc0
          go_wp2_with fail
          refine (pratcmp_any r s _).mono ?_
          rintro e v26 ⟨rfl, hb⟩
          have D26 := Lib.hid (D25.out.trans (hb.mono D25.out.size))
          have a_26 := Lib.hid (a_25.out.bel hb)
          have b_26 := Lib.hid (b_25.out.bel hb)
          have c_26 := Lib.hid (c_25.out.bel hb)
          have zero_26 := Lib.hid (zero_25.out.bel hb)
          have d_26 := Lib.hid (d_25.out.bel hb)
          have p_26 := Lib.hid (p_25.out.bel hb)
          have q_26 := Lib.hid (q_25.out.bel hb)
          have r_26 := Lib.hid (r_25.out.bel hb)
          have s_26 := Lib.hid (s_25.out.bel hb)
          clear D25 a_25 b_25 c_25 zero_25 d_25 p_25 q_25 r_25 s_25
          clear hb
          simp only [hcmp.out]
          go_wp2_with fail
          go_ret
          exact ⟨rfl, D26.out⟩
    ·
      have hy' : decide (y ≤ 0) = true := decide_eq_true (by omega)
      have hz' : decide (0 < z) = false := decide_eq_false (by have := E4.out (by decide) hy; omega)
      refine (pratcmp_any b a _).mono ?_
      rintro e v13 ⟨rfl, hb⟩
      have D13 := Lib.hid (D12.out.trans (hb.mono D12.out.size))
      have a_13 := Lib.hid (a_12.out.bel hb)
      have b_13 := Lib.hid (b_12.out.bel hb)
      have c_13 := Lib.hid (c_12.out.bel hb)
      have zero_13 := Lib.hid (zero_12.out.bel hb)
      clear D12 a_12 b_12 c_12 zero_12
      clear hb
      simp only [E2.out]
      have ac0 := a_13.out.c0
      have ac1 := a_13.out.c1
      have ac2 := a_13.out.c2
      have az := blk_lt a_13.out.cells
      have bc0 := b_13.out.c0
      have bc1 := b_13.out.c1
      have bc2 := b_13.out.c2
      have bz := blk_lt b_13.out.cells
      have cc0 := c_13.out.c0
      have cc1 := c_13.out.c1
      have cc2 := c_13.out.c2
      have cz := blk_lt c_13.out.cells
      clear hy
      go_wp2_with fail
      clear ac0 ac1 ac2 az bc0 bc1 bc2 bz cc0 cc1 cc2 cz
      refine (pratcmp_any a c _).mono ?_
      rintro e v14 ⟨rfl, hb⟩
      have D14 := Lib.hid (D13.out.trans (hb.mono D13.out.size))
      have a_14 := Lib.hid (a_13.out.bel hb)
      have b_14 := Lib.hid (b_13.out.bel hb)
      have c_14 := Lib.hid (c_13.out.bel hb)
      have zero_14 := Lib.hid (zero_13.out.bel hb)
      clear D13 a_13 b_13 c_13 zero_13
      clear hb
      simp only [HZ.out]
      have ac0 := a_14.out.c0
      have ac1 := a_14.out.c1
      have ac2 := a_14.out.c2
      have az := blk_lt a_14.out.cells
      have bc0 := b_14.out.c0
      have bc1 := b_14.out.c1
      have bc2 := b_14.out.c2
      have bz := blk_lt b_14.out.cells
      have cc0 := c_14.out.c0
      have cc1 := c_14.out.c1
      have cc2 := c_14.out.c2
      have cz := blk_lt c_14.out.cells
      go_wp2_with fail
      clear ac0 ac1 ac2 az bc0 bc1 bc2 bz cc0 cc1 cc2 cz
      clear HEQ hy' hz'
      refine (pratsub_any a b _).mono ?_
      rintro e v15 ⟨rfl, hb⟩
      have D15 := Lib.hid (D14.out.trans (hb.mono D14.out.size))
      have a_15 := Lib.hid (a_14.out.bel hb)
      have b_15 := Lib.hid (b_14.out.bel hb)
      have c_15 := Lib.hid (c_14.out.bel hb)
      have zero_15 := Lib.hid (zero_14.out.bel hb)
      clear D14 a_14 b_14 c_14 zero_14
      clear hb
      simp only [E5.out]
      have ac0 := a_15.out.c0
      have ac1 := a_15.out.c1
      have ac2 := a_15.out.c2
      have az := blk_lt a_15.out.cells
      have cc0 := c_15.out.c0
      have cc1 := c_15.out.c1
      have cc2 := c_15.out.c2
      have cz := blk_lt c_15.out.cells
      go_wp2_with fail
      obtain ⟨B3, hB3⟩ : ∃ B, B = v15.heap.size := ⟨_, rfl⟩
      obtain ⟨W3_0, hW3_0⟩ : ∃ W, W = v15.alloc (Obj.cells #[Value.bool d.neg, Value.string d.num, Value.string d.den] 24) := ⟨_, rfl⟩
      have hb : Below v15.heap.size v15 W3_0 := by rw [hW3_0]; exact (Below.refl _ _).alloc (Nat.le_refl _) _
      have hzW3_0 : v15.heap.size = B3 := by rw [hB3]
      have hlW3_0 : RatAt (B3) d W3_0 := by rw [← hzW3_0, hW3_0]; exact ⟨heap_lastM _ _⟩
      have D16 := Lib.hid (D15.out.trans (hb.mono D15.out.size))
      have a_16 := Lib.hid (a_15.out.bel hb)
      have b_16 := Lib.hid (b_15.out.bel hb)
      have c_16 := Lib.hid (c_15.out.bel hb)
      have zero_16 := Lib.hid (zero_15.out.bel hb)
      clear D15 a_15 b_15 c_15 zero_15
      clear hb
      have d_16 := Lib.hid hlW3_0
      clear hlW3_0
      rw [← hW3_0]
      simp only [← hB3]
      have HW3_0 := Lib.hid hW3_0
      clear hW3_0 hzW3_0
      have HB3 := Lib.hid hB3
      clear hB3
      clear ac0 ac1 ac2 az cc0 cc1 cc2 cz
      refine (pratadd_any a c _).mono ?_
      rintro e v17 ⟨rfl, hb⟩
      have D17 := Lib.hid (D16.out.trans (hb.mono D16.out.size))
      have a_17 := Lib.hid (a_16.out.bel hb)
      have b_17 := Lib.hid (b_16.out.bel hb)
      have c_17 := Lib.hid (c_16.out.bel hb)
      have zero_17 := Lib.hid (zero_16.out.bel hb)
      have d_17 := Lib.hid (d_16.out.bel hb)
      clear D16 a_16 b_16 c_16 zero_16 d_16
      clear hb
      simp only [E6.out]
      have bc0 := b_17.out.c0
      have bc1 := b_17.out.c1
      have bc2 := b_17.out.c2
      have bz := blk_lt b_17.out.cells
      have cc0 := c_17.out.c0
      have cc1 := c_17.out.c1
      have cc2 := c_17.out.c2
      have cz := blk_lt c_17.out.cells
      go_wp2_with fail
      obtain ⟨B4, hB4⟩ : ∃ B, B = v17.heap.size := ⟨_, rfl⟩
      obtain ⟨W4_0, hW4_0⟩ : ∃ W, W = v17.alloc (Obj.cells #[Value.bool p.neg, Value.string p.num, Value.string p.den] 24) := ⟨_, rfl⟩
      have hb : Below v17.heap.size v17 W4_0 := by rw [hW4_0]; exact (Below.refl _ _).alloc (Nat.le_refl _) _
      have hzW4_0 : v17.heap.size = B4 := by rw [hB4]
      have hlW4_0 : RatAt (B4) p W4_0 := by rw [← hzW4_0, hW4_0]; exact ⟨heap_lastM _ _⟩
      have D18 := Lib.hid (D17.out.trans (hb.mono D17.out.size))
      have a_18 := Lib.hid (a_17.out.bel hb)
      have b_18 := Lib.hid (b_17.out.bel hb)
      have c_18 := Lib.hid (c_17.out.bel hb)
      have zero_18 := Lib.hid (zero_17.out.bel hb)
      have d_18 := Lib.hid (d_17.out.bel hb)
      clear D17 a_17 b_17 c_17 zero_17 d_17
      clear hb
      have p_18 := Lib.hid hlW4_0
      clear hlW4_0
      rw [← hW4_0]
      simp only [← hB4]
      have HW4_0 := Lib.hid hW4_0
      clear hW4_0 hzW4_0
      have HB4 := Lib.hid hB4
      clear hB4
      clear bc0 bc1 bc2 bz cc0 cc1 cc2 cz
      refine (pratadd_any b c _).mono ?_
      rintro e v19 ⟨rfl, hb⟩
      have D19 := Lib.hid (D18.out.trans (hb.mono D18.out.size))
      have a_19 := Lib.hid (a_18.out.bel hb)
      have b_19 := Lib.hid (b_18.out.bel hb)
      have c_19 := Lib.hid (c_18.out.bel hb)
      have zero_19 := Lib.hid (zero_18.out.bel hb)
      have d_19 := Lib.hid (d_18.out.bel hb)
      have p_19 := Lib.hid (p_18.out.bel hb)
      clear D18 a_18 b_18 c_18 zero_18 d_18 p_18
      clear hb
      simp only [E7.out]
      have ac0 := a_19.out.c0
      have ac1 := a_19.out.c1
      have ac2 := a_19.out.c2
      have az := blk_lt a_19.out.cells
      have cc0 := c_19.out.c0
      have cc1 := c_19.out.c1
      have cc2 := c_19.out.c2
      have cz := blk_lt c_19.out.cells
      go_wp2_with fail
      obtain ⟨B5, hB5⟩ : ∃ B, B = v19.heap.size := ⟨_, rfl⟩
      obtain ⟨W5_0, hW5_0⟩ : ∃ W, W = v19.alloc (Obj.cells #[Value.bool q.neg, Value.string q.num, Value.string q.den] 24) := ⟨_, rfl⟩
      have hb : Below v19.heap.size v19 W5_0 := by rw [hW5_0]; exact (Below.refl _ _).alloc (Nat.le_refl _) _
      have hzW5_0 : v19.heap.size = B5 := by rw [hB5]
      have hlW5_0 : RatAt (B5) q W5_0 := by rw [← hzW5_0, hW5_0]; exact ⟨heap_lastM _ _⟩
      have D20 := Lib.hid (D19.out.trans (hb.mono D19.out.size))
      have a_20 := Lib.hid (a_19.out.bel hb)
      have b_20 := Lib.hid (b_19.out.bel hb)
      have c_20 := Lib.hid (c_19.out.bel hb)
      have zero_20 := Lib.hid (zero_19.out.bel hb)
      have d_20 := Lib.hid (d_19.out.bel hb)
      have p_20 := Lib.hid (p_19.out.bel hb)
      clear D19 a_19 b_19 c_19 zero_19 d_19 p_19
      clear hb
      have q_20 := Lib.hid hlW5_0
      clear hlW5_0
      rw [← hW5_0]
      simp only [← hB5]
      have HW5_0 := Lib.hid hW5_0
      clear hW5_0 hzW5_0
      have HB5 := Lib.hid hB5
      clear hB5
      clear ac0 ac1 ac2 az cc0 cc1 cc2 cz
      refine (pratmul_any a c _).mono ?_
      rintro e v21 ⟨rfl, hb⟩
      have D21 := Lib.hid (D20.out.trans (hb.mono D20.out.size))
      have a_21 := Lib.hid (a_20.out.bel hb)
      have b_21 := Lib.hid (b_20.out.bel hb)
      have c_21 := Lib.hid (c_20.out.bel hb)
      have zero_21 := Lib.hid (zero_20.out.bel hb)
      have d_21 := Lib.hid (d_20.out.bel hb)
      have p_21 := Lib.hid (p_20.out.bel hb)
      have q_21 := Lib.hid (q_20.out.bel hb)
      clear D20 a_20 b_20 c_20 zero_20 d_20 p_20 q_20
      clear hb
      simp only [E8.out]
      have bc0 := b_21.out.c0
      have bc1 := b_21.out.c1
      have bc2 := b_21.out.c2
      have bz := blk_lt b_21.out.cells
      have cc0 := c_21.out.c0
      have cc1 := c_21.out.c1
      have cc2 := c_21.out.c2
      have cz := blk_lt c_21.out.cells
      go_wp2_with fail
      obtain ⟨B6, hB6⟩ : ∃ B, B = v21.heap.size := ⟨_, rfl⟩
      obtain ⟨W6_0, hW6_0⟩ : ∃ W, W = v21.alloc (Obj.cells #[Value.bool r.neg, Value.string r.num, Value.string r.den] 24) := ⟨_, rfl⟩
      have hb : Below v21.heap.size v21 W6_0 := by rw [hW6_0]; exact (Below.refl _ _).alloc (Nat.le_refl _) _
      have hzW6_0 : v21.heap.size = B6 := by rw [hB6]
      have hlW6_0 : RatAt (B6) r W6_0 := by rw [← hzW6_0, hW6_0]; exact ⟨heap_lastM _ _⟩
      have D22 := Lib.hid (D21.out.trans (hb.mono D21.out.size))
      have a_22 := Lib.hid (a_21.out.bel hb)
      have b_22 := Lib.hid (b_21.out.bel hb)
      have c_22 := Lib.hid (c_21.out.bel hb)
      have zero_22 := Lib.hid (zero_21.out.bel hb)
      have d_22 := Lib.hid (d_21.out.bel hb)
      have p_22 := Lib.hid (p_21.out.bel hb)
      have q_22 := Lib.hid (q_21.out.bel hb)
      clear D21 a_21 b_21 c_21 zero_21 d_21 p_21 q_21
      clear hb
      have r_22 := Lib.hid hlW6_0
      clear hlW6_0
      rw [← hW6_0]
      simp only [← hB6]
      have HW6_0 := Lib.hid hW6_0
      clear hW6_0 hzW6_0
      have HB6 := Lib.hid hB6
      clear hB6
      clear bc0 bc1 bc2 bz cc0 cc1 cc2 cz
      refine (pratmul_any b c _).mono ?_
      rintro e v23 ⟨rfl, hb⟩
      have D23 := Lib.hid (D22.out.trans (hb.mono D22.out.size))
      have a_23 := Lib.hid (a_22.out.bel hb)
      have b_23 := Lib.hid (b_22.out.bel hb)
      have c_23 := Lib.hid (c_22.out.bel hb)
      have zero_23 := Lib.hid (zero_22.out.bel hb)
      have d_23 := Lib.hid (d_22.out.bel hb)
      have p_23 := Lib.hid (p_22.out.bel hb)
      have q_23 := Lib.hid (q_22.out.bel hb)
      have r_23 := Lib.hid (r_22.out.bel hb)
      clear D22 a_22 b_22 c_22 zero_22 d_22 p_22 q_22 r_22
      clear hb
      simp only [E9.out]
      have dc0 := d_23.out.c0
      have dc1 := d_23.out.c1
      have dc2 := d_23.out.c2
      have dz := blk_lt d_23.out.cells
      have zeroc0 := zero_23.out.c0
      have zeroc1 := zero_23.out.c1
      have zeroc2 := zero_23.out.c2
      have zeroz := blk_lt zero_23.out.cells
      go_wp2_with fail
      obtain ⟨B7, hB7⟩ : ∃ B, B = v23.heap.size := ⟨_, rfl⟩
      obtain ⟨W7_0, hW7_0⟩ : ∃ W, W = v23.alloc (Obj.cells #[Value.bool s.neg, Value.string s.num, Value.string s.den] 24) := ⟨_, rfl⟩
      have hb : Below v23.heap.size v23 W7_0 := by rw [hW7_0]; exact (Below.refl _ _).alloc (Nat.le_refl _) _
      have hzW7_0 : v23.heap.size = B7 := by rw [hB7]
      have hlW7_0 : RatAt (B7) s W7_0 := by rw [← hzW7_0, hW7_0]; exact ⟨heap_lastM _ _⟩
      have D24 := Lib.hid (D23.out.trans (hb.mono D23.out.size))
      have a_24 := Lib.hid (a_23.out.bel hb)
      have b_24 := Lib.hid (b_23.out.bel hb)
      have c_24 := Lib.hid (c_23.out.bel hb)
      have zero_24 := Lib.hid (zero_23.out.bel hb)
      have d_24 := Lib.hid (d_23.out.bel hb)
      have p_24 := Lib.hid (p_23.out.bel hb)
      have q_24 := Lib.hid (q_23.out.bel hb)
      have r_24 := Lib.hid (r_23.out.bel hb)
      clear D23 a_23 b_23 c_23 zero_23 d_23 p_23 q_23 r_23
      clear hb
      have s_24 := Lib.hid hlW7_0
      clear hlW7_0
      rw [← hW7_0]
      simp only [← hB7]
      have HW7_0 := Lib.hid hW7_0
      clear hW7_0 hzW7_0
      have HB7 := Lib.hid hB7
      clear hB7
      clear dc0 dc1 dc2 dz zeroc0 zeroc1 zeroc2 zeroz
      refine (pratcmp_any d zeroR _).mono ?_
      rintro e v25 ⟨rfl, hb⟩
      have D25 := Lib.hid (D24.out.trans (hb.mono D24.out.size))
      have a_25 := Lib.hid (a_24.out.bel hb)
      have b_25 := Lib.hid (b_24.out.bel hb)
      have c_25 := Lib.hid (c_24.out.bel hb)
      have zero_25 := Lib.hid (zero_24.out.bel hb)
      have d_25 := Lib.hid (d_24.out.bel hb)
      have p_25 := Lib.hid (p_24.out.bel hb)
      have q_25 := Lib.hid (q_24.out.bel hb)
      have r_25 := Lib.hid (r_24.out.bel hb)
      have s_25 := Lib.hid (s_24.out.bel hb)
      clear D24 a_24 b_24 c_24 zero_24 d_24 p_24 q_24 r_24 s_24
      clear hb
      simp only [E10.out]
      have pc0 := p_25.out.c0
      have pc1 := p_25.out.c1
      have pc2 := p_25.out.c2
      have pz := blk_lt p_25.out.cells
      have qc0 := q_25.out.c0
      have qc1 := q_25.out.c1
      have qc2 := q_25.out.c2
      have qz := blk_lt q_25.out.cells
      go_wp2_with fail
      clear pc0 pc1 pc2 pz qc0 qc1 qc2 qz
      refine (pratcmp_any p q _).mono ?_
      rintro e v26 ⟨rfl, hb⟩
      have D26 := Lib.hid (D25.out.trans (hb.mono D25.out.size))
      have a_26 := Lib.hid (a_25.out.bel hb)
      have b_26 := Lib.hid (b_25.out.bel hb)
      have c_26 := Lib.hid (c_25.out.bel hb)
      have zero_26 := Lib.hid (zero_25.out.bel hb)
      have d_26 := Lib.hid (d_25.out.bel hb)
      have p_26 := Lib.hid (p_25.out.bel hb)
      have q_26 := Lib.hid (q_25.out.bel hb)
      have r_26 := Lib.hid (r_25.out.bel hb)
      have s_26 := Lib.hid (s_25.out.bel hb)
      clear D25 a_25 b_25 c_25 zero_25 d_25 p_25 q_25 r_25 s_25
      clear hb
      simp only [E11.out]
      rcases Bool.eq_false_or_eq_true c.neg with hn | hn
      ·
        have cc0 := c_26.out.c0
        have cc1 := c_26.out.c1
        have cc2 := c_26.out.c2
        have cz := blk_lt c_26.out.cells
        have zeroc0 := zero_26.out.c0
        have zeroc1 := zero_26.out.c1
        have zeroc2 := zero_26.out.c2
        have zeroz := blk_lt zero_26.out.cells
        have rc0 := r_26.out.c0
        have rc1 := r_26.out.c1
        have rc2 := r_26.out.c2
        have rz := blk_lt r_26.out.cells
        have sc0 := s_26.out.c0
        have sc1 := s_26.out.c1
        have sc2 := s_26.out.c2
        have sz := blk_lt s_26.out.cells
        rw [hn] at cc0
        go_wp2_with fail
        go_ret
        exact ⟨rfl, D26.out⟩
      ·
        rcases Bool.eq_false_or_eq_true (sameR c zeroR) with hs | hs
        ·
          have HEQ : ∀ w, (binOp .eql 24 (.agg #[.bool false, .string c.num, .string c.den]) (.agg #[Value.bool false, Value.string ⟨#[48]⟩, Value.string ⟨#[49]⟩])).run Tryd.prog w = .ok (.bool true) w := fun w => by have := run_eql_rat c zeroR w; rwa [hs, hn] at this
          clear hs
          have cc0 := c_26.out.c0
          have cc1 := c_26.out.c1
          have cc2 := c_26.out.c2
          have cz := blk_lt c_26.out.cells
          have zeroc0 := zero_26.out.c0
          have zeroc1 := zero_26.out.c1
          have zeroc2 := zero_26.out.c2
          have zeroz := blk_lt zero_26.out.cells
          have rc0 := r_26.out.c0
          have rc1 := r_26.out.c1
          have rc2 := r_26.out.c2
          have rz := blk_lt r_26.out.cells
          have sc0 := s_26.out.c0
          have sc1 := s_26.out.c1
          have sc2 := s_26.out.c2
          have sz := blk_lt s_26.out.cells
          rw [hn] at cc0
          go_wp2_with fail
          go_ret
          exact ⟨rfl, D26.out⟩
        ·
          have HEQ : ∀ w, (binOp .eql 24 (.agg #[.bool false, .string c.num, .string c.den]) (.agg #[Value.bool false, Value.string ⟨#[48]⟩, Value.string ⟨#[49]⟩])).run Tryd.prog w = .ok (.bool false) w := fun w => by have := run_eql_rat c zeroR w; rwa [hs, hn] at this
          have hcmp := Lib.hid (E12.out hn (fun e => by rw [sameR_iff.2 e] at hs; cases hs))
          clear hs
          have cc0 := c_26.out.c0
          have cc1 := c_26.out.c1
          have cc2 := c_26.out.c2
          have cz := blk_lt c_26.out.cells
          have zeroc0 := zero_26.out.c0
          have zeroc1 := zero_26.out.c1
          have zeroc2 := zero_26.out.c2
          have zeroz := blk_lt zero_26.out.cells
          have rc0 := r_26.out.c0
          have rc1 := r_26.out.c1
          have rc2 := r_26.out.c2
          have rz := blk_lt r_26.out.cells
          have sc0 := s_26.out.c0
          have sc1 := s_26.out.c1
          have sc2 := s_26.out.c2
          have sz := blk_lt s_26.out.cells
          rw [hn] at cc0
          go_wp2_with fail
          refine (pratcmp_any r s _).mono ?_
          rintro e v27 ⟨rfl, hb⟩
          have D27 := Lib.hid (D26.out.trans (hb.mono D26.out.size))
          have a_27 := Lib.hid (a_26.out.bel hb)
          have b_27 := Lib.hid (b_26.out.bel hb)
          have c_27 := Lib.hid (c_26.out.bel hb)
          have zero_27 := Lib.hid (zero_26.out.bel hb)
          have d_27 := Lib.hid (d_26.out.bel hb)
          have p_27 := Lib.hid (p_26.out.bel hb)
          have q_27 := Lib.hid (q_26.out.bel hb)
          have r_27 := Lib.hid (r_26.out.bel hb)
          have s_27 := Lib.hid (s_26.out.bel hb)
          clear D26 a_26 b_26 c_26 zero_26 d_26 p_26 q_26 r_26 s_26
          clear hb
          simp only [hcmp.out]
          go_wp2_with fail
          go_ret
          exact ⟨rfl, D27.out⟩
  ·
    have heq : sameR a b = false := Bool.eq_false_iff.2 (fun h => absurd (E3.out.2 (sameR_iff.1 h)) (by decide))
    have heq' := Lib.hid heq; clear heq E3
    refine (pratcmp_any a b _).mono ?_
    rintro e v11 ⟨rfl, hb⟩
    have D11 := Lib.hid (D10.out.trans (hb.mono D10.out.size))
    have a_11 := Lib.hid (a_10.out.bel hb)
    have b_11 := Lib.hid (b_10.out.bel hb)
    have c_11 := Lib.hid (c_10.out.bel hb)
    have zero_11 := Lib.hid (zero_10.out.bel hb)
    clear D10 a_10 b_10 c_10 zero_10
    clear hb
    simp only [E1.out]
    have bc0 := b_11.out.c0
    have bc1 := b_11.out.c1
    have bc2 := b_11.out.c2
    have cc0 := c_11.out.c0
    have cc1 := c_11.out.c1
    have cc2 := c_11.out.c2
    go_wp2_with fail
    clear bc0 bc1 bc2 cc0 cc1 cc2
    refine (pratcmp_any b c _).mono ?_
    rintro e v12 ⟨rfl, hb⟩
    have D12 := Lib.hid (D11.out.trans (hb.mono D11.out.size))
    have a_12 := Lib.hid (a_11.out.bel hb)
    have b_12 := Lib.hid (b_11.out.bel hb)
    have c_12 := Lib.hid (c_11.out.bel hb)
    have zero_12 := Lib.hid (zero_11.out.bel hb)
    clear D11 a_11 b_11 c_11 zero_11
    clear hb
    simp only [HY.out]
    have bc0 := b_12.out.c0
    have bc1 := b_12.out.c1
    have bc2 := b_12.out.c2
    have ac0 := a_12.out.c0
    have ac1 := a_12.out.c1
    have ac2 := a_12.out.c2
    go_wp2_with fail
    clear bc0 bc1 bc2 ac0 ac1 ac2
    have HEQ : ∀ w, (binOp .eql 24 (.agg #[.bool a.neg, .string a.num, .string a.den]) (.agg #[.bool b.neg, .string b.num, .string b.den])).run Tryd.prog w = .ok (.bool false) w := fun w => by have := run_eql_rat a b w; rwa [heq'.out] at this
    clear heq'
    refine (pratcmp_any b a _).mono ?_
    rintro e v13 ⟨rfl, hb⟩
    have D13 := Lib.hid (D12.out.trans (hb.mono D12.out.size))
    have a_13 := Lib.hid (a_12.out.bel hb)
    have b_13 := Lib.hid (b_12.out.bel hb)
    have c_13 := Lib.hid (c_12.out.bel hb)
    have zero_13 := Lib.hid (zero_12.out.bel hb)
    clear D12 a_12 b_12 c_12 zero_12
    clear hb
    simp only [E2.out]
    have ac0 := a_13.out.c0
    have ac1 := a_13.out.c1
    have ac2 := a_13.out.c2
    have az := blk_lt a_13.out.cells
    have bc0 := b_13.out.c0
    have bc1 := b_13.out.c1
    have bc2 := b_13.out.c2
    have bz := blk_lt b_13.out.cells
    go_wp2_with fail
    clear ac0 ac1 ac2 az bc0 bc1 bc2 bz
    clear HEQ
    refine (pratsub_any a b _).mono ?_
    rintro e v14 ⟨rfl, hb⟩
    have D14 := Lib.hid (D13.out.trans (hb.mono D13.out.size))
    have a_14 := Lib.hid (a_13.out.bel hb)
    have b_14 := Lib.hid (b_13.out.bel hb)
    have c_14 := Lib.hid (c_13.out.bel hb)
    have zero_14 := Lib.hid (zero_13.out.bel hb)
    clear D13 a_13 b_13 c_13 zero_13
    clear hb
    simp only [E5.out]
    have ac0 := a_14.out.c0
    have ac1 := a_14.out.c1
    have ac2 := a_14.out.c2
    have az := blk_lt a_14.out.cells
    have cc0 := c_14.out.c0
    have cc1 := c_14.out.c1
    have cc2 := c_14.out.c2
    have cz := blk_lt c_14.out.cells
    go_wp2_with fail
    obtain ⟨B3, hB3⟩ : ∃ B, B = v14.heap.size := ⟨_, rfl⟩
    obtain ⟨W3_0, hW3_0⟩ : ∃ W, W = v14.alloc (Obj.cells #[Value.bool d.neg, Value.string d.num, Value.string d.den] 24) := ⟨_, rfl⟩
    have hb : Below v14.heap.size v14 W3_0 := by rw [hW3_0]; exact (Below.refl _ _).alloc (Nat.le_refl _) _
    have hzW3_0 : v14.heap.size = B3 := by rw [hB3]
    have hlW3_0 : RatAt (B3) d W3_0 := by rw [← hzW3_0, hW3_0]; exact ⟨heap_lastM _ _⟩
    have D15 := Lib.hid (D14.out.trans (hb.mono D14.out.size))
    have a_15 := Lib.hid (a_14.out.bel hb)
    have b_15 := Lib.hid (b_14.out.bel hb)
    have c_15 := Lib.hid (c_14.out.bel hb)
    have zero_15 := Lib.hid (zero_14.out.bel hb)
    clear D14 a_14 b_14 c_14 zero_14
    clear hb
    have d_15 := Lib.hid hlW3_0
    clear hlW3_0
    rw [← hW3_0]
    simp only [← hB3]
    have HW3_0 := Lib.hid hW3_0
    clear hW3_0 hzW3_0
    have HB3 := Lib.hid hB3
    clear hB3
    clear ac0 ac1 ac2 az cc0 cc1 cc2 cz
    refine (pratadd_any a c _).mono ?_
    rintro e v16 ⟨rfl, hb⟩
    have D16 := Lib.hid (D15.out.trans (hb.mono D15.out.size))
    have a_16 := Lib.hid (a_15.out.bel hb)
    have b_16 := Lib.hid (b_15.out.bel hb)
    have c_16 := Lib.hid (c_15.out.bel hb)
    have zero_16 := Lib.hid (zero_15.out.bel hb)
    have d_16 := Lib.hid (d_15.out.bel hb)
    clear D15 a_15 b_15 c_15 zero_15 d_15
    clear hb
    simp only [E6.out]
    have bc0 := b_16.out.c0
    have bc1 := b_16.out.c1
    have bc2 := b_16.out.c2
    have bz := blk_lt b_16.out.cells
    have cc0 := c_16.out.c0
    have cc1 := c_16.out.c1
    have cc2 := c_16.out.c2
    have cz := blk_lt c_16.out.cells
    go_wp2_with fail
    obtain ⟨B4, hB4⟩ : ∃ B, B = v16.heap.size := ⟨_, rfl⟩
    obtain ⟨W4_0, hW4_0⟩ : ∃ W, W = v16.alloc (Obj.cells #[Value.bool p.neg, Value.string p.num, Value.string p.den] 24) := ⟨_, rfl⟩
    have hb : Below v16.heap.size v16 W4_0 := by rw [hW4_0]; exact (Below.refl _ _).alloc (Nat.le_refl _) _
    have hzW4_0 : v16.heap.size = B4 := by rw [hB4]
    have hlW4_0 : RatAt (B4) p W4_0 := by rw [← hzW4_0, hW4_0]; exact ⟨heap_lastM _ _⟩
    have D17 := Lib.hid (D16.out.trans (hb.mono D16.out.size))
    have a_17 := Lib.hid (a_16.out.bel hb)
    have b_17 := Lib.hid (b_16.out.bel hb)
    have c_17 := Lib.hid (c_16.out.bel hb)
    have zero_17 := Lib.hid (zero_16.out.bel hb)
    have d_17 := Lib.hid (d_16.out.bel hb)
    clear D16 a_16 b_16 c_16 zero_16 d_16
    clear hb
    have p_17 := Lib.hid hlW4_0
    clear hlW4_0
    rw [← hW4_0]
    simp only [← hB4]
    have HW4_0 := Lib.hid hW4_0
    clear hW4_0 hzW4_0
    have HB4 := Lib.hid hB4
    clear hB4
    clear bc0 bc1 bc2 bz cc0 cc1 cc2 cz
    refine (pratadd_any b c _).mono ?_
    rintro e v18 ⟨rfl, hb⟩
    have D18 := Lib.hid (D17.out.trans (hb.mono D17.out.size))
    have a_18 := Lib.hid (a_17.out.bel hb)
    have b_18 := Lib.hid (b_17.out.bel hb)
    have c_18 := Lib.hid (c_17.out.bel hb)
    have zero_18 := Lib.hid (zero_17.out.bel hb)
    have d_18 := Lib.hid (d_17.out.bel hb)
    have p_18 := Lib.hid (p_17.out.bel hb)
    clear D17 a_17 b_17 c_17 zero_17 d_17 p_17
    clear hb
    simp only [E7.out]
    have ac0 := a_18.out.c0
    have ac1 := a_18.out.c1
    have ac2 := a_18.out.c2
    have az := blk_lt a_18.out.cells
    have cc0 := c_18.out.c0
    have cc1 := c_18.out.c1
    have cc2 := c_18.out.c2
    have cz := blk_lt c_18.out.cells
    go_wp2_with fail
    obtain ⟨B5, hB5⟩ : ∃ B, B = v18.heap.size := ⟨_, rfl⟩
    obtain ⟨W5_0, hW5_0⟩ : ∃ W, W = v18.alloc (Obj.cells #[Value.bool q.neg, Value.string q.num, Value.string q.den] 24) := ⟨_, rfl⟩
    have hb : Below v18.heap.size v18 W5_0 := by rw [hW5_0]; exact (Below.refl _ _).alloc (Nat.le_refl _) _
    have hzW5_0 : v18.heap.size = B5 := by rw [hB5]
    have hlW5_0 : RatAt (B5) q W5_0 := by rw [← hzW5_0, hW5_0]; exact ⟨heap_lastM _ _⟩
    have D19 := Lib.hid (D18.out.trans (hb.mono D18.out.size))
    have a_19 := Lib.hid (a_18.out.bel hb)
    have b_19 := Lib.hid (b_18.out.bel hb)
    have c_19 := Lib.hid (c_18.out.bel hb)
    have zero_19 := Lib.hid (zero_18.out.bel hb)
    have d_19 := Lib.hid (d_18.out.bel hb)
    have p_19 := Lib.hid (p_18.out.bel hb)
    clear D18 a_18 b_18 c_18 zero_18 d_18 p_18
    clear hb
    have q_19 := Lib.hid hlW5_0
    clear hlW5_0
    rw [← hW5_0]
    simp only [← hB5]
    have HW5_0 := Lib.hid hW5_0
    clear hW5_0 hzW5_0
    have HB5 := Lib.hid hB5
    clear hB5
    clear ac0 ac1 ac2 az cc0 cc1 cc2 cz
    refine (pratmul_any a c _).mono ?_
    rintro e v20 ⟨rfl, hb⟩
    have D20 := Lib.hid (D19.out.trans (hb.mono D19.out.size))
    have a_20 := Lib.hid (a_19.out.bel hb)
    have b_20 := Lib.hid (b_19.out.bel hb)
    have c_20 := Lib.hid (c_19.out.bel hb)
    have zero_20 := Lib.hid (zero_19.out.bel hb)
    have d_20 := Lib.hid (d_19.out.bel hb)
    have p_20 := Lib.hid (p_19.out.bel hb)
    have q_20 := Lib.hid (q_19.out.bel hb)
    clear D19 a_19 b_19 c_19 zero_19 d_19 p_19 q_19
    clear hb
    simp only [E8.out]
    have bc0 := b_20.out.c0
    have bc1 := b_20.out.c1
    have bc2 := b_20.out.c2
    have bz := blk_lt b_20.out.cells
    have cc0 := c_20.out.c0
    have cc1 := c_20.out.c1
    have cc2 := c_20.out.c2
    have cz := blk_lt c_20.out.cells
    go_wp2_with fail
    obtain ⟨B6, hB6⟩ : ∃ B, B = v20.heap.size := ⟨_, rfl⟩
    obtain ⟨W6_0, hW6_0⟩ : ∃ W, W = v20.alloc (Obj.cells #[Value.bool r.neg, Value.string r.num, Value.string r.den] 24) := ⟨_, rfl⟩
    have hb : Below v20.heap.size v20 W6_0 := by rw [hW6_0]; exact (Below.refl _ _).alloc (Nat.le_refl _) _
    have hzW6_0 : v20.heap.size = B6 := by rw [hB6]
    have hlW6_0 : RatAt (B6) r W6_0 := by rw [← hzW6_0, hW6_0]; exact ⟨heap_lastM _ _⟩
    have D21 := Lib.hid (D20.out.trans (hb.mono D20.out.size))
    have a_21 := Lib.hid (a_20.out.bel hb)
    have b_21 := Lib.hid (b_20.out.bel hb)
    have c_21 := Lib.hid (c_20.out.bel hb)
    have zero_21 := Lib.hid (zero_20.out.bel hb)
    have d_21 := Lib.hid (d_20.out.bel hb)
    have p_21 := Lib.hid (p_20.out.bel hb)
    have q_21 := Lib.hid (q_20.out.bel hb)
    clear D20 a_20 b_20 c_20 zero_20 d_20 p_20 q_20
    clear hb
    have r_21 := Lib.hid hlW6_0
    clear hlW6_0
    rw [← hW6_0]
    simp only [← hB6]
    have HW6_0 := Lib.hid hW6_0
    clear hW6_0 hzW6_0
    have HB6 := Lib.hid hB6
    clear hB6
    clear bc0 bc1 bc2 bz cc0 cc1 cc2 cz
    refine (pratmul_any b c _).mono ?_
    rintro e v22 ⟨rfl, hb⟩
    have D22 := Lib.hid (D21.out.trans (hb.mono D21.out.size))
    have a_22 := Lib.hid (a_21.out.bel hb)
    have b_22 := Lib.hid (b_21.out.bel hb)
    have c_22 := Lib.hid (c_21.out.bel hb)
    have zero_22 := Lib.hid (zero_21.out.bel hb)
    have d_22 := Lib.hid (d_21.out.bel hb)
    have p_22 := Lib.hid (p_21.out.bel hb)
    have q_22 := Lib.hid (q_21.out.bel hb)
    have r_22 := Lib.hid (r_21.out.bel hb)
    clear D21 a_21 b_21 c_21 zero_21 d_21 p_21 q_21 r_21
    clear hb
    simp only [E9.out]
    have dc0 := d_22.out.c0
    have dc1 := d_22.out.c1
    have dc2 := d_22.out.c2
    have dz := blk_lt d_22.out.cells
    have zeroc0 := zero_22.out.c0
    have zeroc1 := zero_22.out.c1
    have zeroc2 := zero_22.out.c2
    have zeroz := blk_lt zero_22.out.cells
    go_wp2_with fail
    obtain ⟨B7, hB7⟩ : ∃ B, B = v22.heap.size := ⟨_, rfl⟩
    obtain ⟨W7_0, hW7_0⟩ : ∃ W, W = v22.alloc (Obj.cells #[Value.bool s.neg, Value.string s.num, Value.string s.den] 24) := ⟨_, rfl⟩
    have hb : Below v22.heap.size v22 W7_0 := by rw [hW7_0]; exact (Below.refl _ _).alloc (Nat.le_refl _) _
    have hzW7_0 : v22.heap.size = B7 := by rw [hB7]
    have hlW7_0 : RatAt (B7) s W7_0 := by rw [← hzW7_0, hW7_0]; exact ⟨heap_lastM _ _⟩
    have D23 := Lib.hid (D22.out.trans (hb.mono D22.out.size))
    have a_23 := Lib.hid (a_22.out.bel hb)
    have b_23 := Lib.hid (b_22.out.bel hb)
    have c_23 := Lib.hid (c_22.out.bel hb)
    have zero_23 := Lib.hid (zero_22.out.bel hb)
    have d_23 := Lib.hid (d_22.out.bel hb)
    have p_23 := Lib.hid (p_22.out.bel hb)
    have q_23 := Lib.hid (q_22.out.bel hb)
    have r_23 := Lib.hid (r_22.out.bel hb)
    clear D22 a_22 b_22 c_22 zero_22 d_22 p_22 q_22 r_22
    clear hb
    have s_23 := Lib.hid hlW7_0
    clear hlW7_0
    rw [← hW7_0]
    simp only [← hB7]
    have HW7_0 := Lib.hid hW7_0
    clear hW7_0 hzW7_0
    have HB7 := Lib.hid hB7
    clear hB7
    clear dc0 dc1 dc2 dz zeroc0 zeroc1 zeroc2 zeroz
    refine (pratcmp_any d zeroR _).mono ?_
    rintro e v24 ⟨rfl, hb⟩
    have D24 := Lib.hid (D23.out.trans (hb.mono D23.out.size))
    have a_24 := Lib.hid (a_23.out.bel hb)
    have b_24 := Lib.hid (b_23.out.bel hb)
    have c_24 := Lib.hid (c_23.out.bel hb)
    have zero_24 := Lib.hid (zero_23.out.bel hb)
    have d_24 := Lib.hid (d_23.out.bel hb)
    have p_24 := Lib.hid (p_23.out.bel hb)
    have q_24 := Lib.hid (q_23.out.bel hb)
    have r_24 := Lib.hid (r_23.out.bel hb)
    have s_24 := Lib.hid (s_23.out.bel hb)
    clear D23 a_23 b_23 c_23 zero_23 d_23 p_23 q_23 r_23 s_23
    clear hb
    simp only [E10.out]
    have pc0 := p_24.out.c0
    have pc1 := p_24.out.c1
    have pc2 := p_24.out.c2
    have pz := blk_lt p_24.out.cells
    have qc0 := q_24.out.c0
    have qc1 := q_24.out.c1
    have qc2 := q_24.out.c2
    have qz := blk_lt q_24.out.cells
    go_wp2_with fail
    clear pc0 pc1 pc2 pz qc0 qc1 qc2 qz
    refine (pratcmp_any p q _).mono ?_
    rintro e v25 ⟨rfl, hb⟩
    have D25 := Lib.hid (D24.out.trans (hb.mono D24.out.size))
    have a_25 := Lib.hid (a_24.out.bel hb)
    have b_25 := Lib.hid (b_24.out.bel hb)
    have c_25 := Lib.hid (c_24.out.bel hb)
    have zero_25 := Lib.hid (zero_24.out.bel hb)
    have d_25 := Lib.hid (d_24.out.bel hb)
    have p_25 := Lib.hid (p_24.out.bel hb)
    have q_25 := Lib.hid (q_24.out.bel hb)
    have r_25 := Lib.hid (r_24.out.bel hb)
    have s_25 := Lib.hid (s_24.out.bel hb)
    clear D24 a_24 b_24 c_24 zero_24 d_24 p_24 q_24 r_24 s_24
    clear hb
    simp only [E11.out]
    rcases Bool.eq_false_or_eq_true c.neg with hn | hn
    ·
      have cc0 := c_25.out.c0
      have cc1 := c_25.out.c1
      have cc2 := c_25.out.c2
      have cz := blk_lt c_25.out.cells
      have zeroc0 := zero_25.out.c0
      have zeroc1 := zero_25.out.c1
      have zeroc2 := zero_25.out.c2
      have zeroz := blk_lt zero_25.out.cells
      have rc0 := r_25.out.c0
      have rc1 := r_25.out.c1
      have rc2 := r_25.out.c2
      have rz := blk_lt r_25.out.cells
      have sc0 := s_25.out.c0
      have sc1 := s_25.out.c1
      have sc2 := s_25.out.c2
      have sz := blk_lt s_25.out.cells
      rw [hn] at cc0
      go_wp2_with fail
      go_ret
      exact ⟨rfl, D25.out⟩
    ·
      rcases Bool.eq_false_or_eq_true (sameR c zeroR) with hs | hs
      ·
        have HEQ : ∀ w, (binOp .eql 24 (.agg #[.bool false, .string c.num, .string c.den]) (.agg #[Value.bool false, Value.string ⟨#[48]⟩, Value.string ⟨#[49]⟩])).run Tryd.prog w = .ok (.bool true) w := fun w => by have := run_eql_rat c zeroR w; rwa [hs, hn] at this
        clear hs
        have cc0 := c_25.out.c0
        have cc1 := c_25.out.c1
        have cc2 := c_25.out.c2
        have cz := blk_lt c_25.out.cells
        have zeroc0 := zero_25.out.c0
        have zeroc1 := zero_25.out.c1
        have zeroc2 := zero_25.out.c2
        have zeroz := blk_lt zero_25.out.cells
        have rc0 := r_25.out.c0
        have rc1 := r_25.out.c1
        have rc2 := r_25.out.c2
        have rz := blk_lt r_25.out.cells
        have sc0 := s_25.out.c0
        have sc1 := s_25.out.c1
        have sc2 := s_25.out.c2
        have sz := blk_lt s_25.out.cells
        rw [hn] at cc0
        go_wp2_with fail
        go_ret
        exact ⟨rfl, D25.out⟩
      ·
        have HEQ : ∀ w, (binOp .eql 24 (.agg #[.bool false, .string c.num, .string c.den]) (.agg #[Value.bool false, Value.string ⟨#[48]⟩, Value.string ⟨#[49]⟩])).run Tryd.prog w = .ok (.bool false) w := fun w => by have := run_eql_rat c zeroR w; rwa [hs, hn] at this
        have hcmp := Lib.hid (E12.out hn (fun e => by rw [sameR_iff.2 e] at hs; cases hs))
        clear hs
        have cc0 := c_25.out.c0
        have cc1 := c_25.out.c1
        have cc2 := c_25.out.c2
        have cz := blk_lt c_25.out.cells
        have zeroc0 := zero_25.out.c0
        have zeroc1 := zero_25.out.c1
        have zeroc2 := zero_25.out.c2
        have zeroz := blk_lt zero_25.out.cells
        have rc0 := r_25.out.c0
        have rc1 := r_25.out.c1
        have rc2 := r_25.out.c2
        have rz := blk_lt r_25.out.cells
        have sc0 := s_25.out.c0
        have sc1 := s_25.out.c1
        have sc2 := s_25.out.c2
        have sz := blk_lt s_25.out.cells
        rw [hn] at cc0
        go_wp2_with fail
        refine (pratcmp_any r s _).mono ?_
        rintro e v26 ⟨rfl, hb⟩
        have D26 := Lib.hid (D25.out.trans (hb.mono D25.out.size))
        have a_26 := Lib.hid (a_25.out.bel hb)
        have b_26 := Lib.hid (b_25.out.bel hb)
        have c_26 := Lib.hid (c_25.out.bel hb)
        have zero_26 := Lib.hid (zero_25.out.bel hb)
        have d_26 := Lib.hid (d_25.out.bel hb)
        have p_26 := Lib.hid (p_25.out.bel hb)
        have q_26 := Lib.hid (q_25.out.bel hb)
        have r_26 := Lib.hid (r_25.out.bel hb)
        have s_26 := Lib.hid (s_25.out.bel hb)
        clear D25 a_25 b_25 c_25 zero_25 d_25 p_25 q_25 r_25 s_25
        clear hb
        simp only [hcmp.out]
        go_wp2_with fail
        go_ret
        exact ⟨rfl, D26.out⟩
end Go.Proofs.YthpghjklnkdmfaaDoor
