/-
  The walk of RationalInts.
-/
import Derived.Test.YthpghjklnkdmfaaDoorRmQ
import Derived.Test.YthpghjklnkdmfaaDoorRatAbs
set_option linter.unusedVariables false
set_option maxRecDepth 100000
namespace Go.Proofs.YthpghjklnkdmfaaDoor
open Go.RowKit
open Rt
theorem ints_mul {n k : Int} (hn : -2147483648 ≤ n ∧ n ≤ 2147483647) (hk : -1073741824 < k ∧ k < 1073741824) : -9223372036854775808 ≤ n * k ∧ n * k ≤ 9223372036854775807 := by
  have h : (n * k).natAbs ≤ 2147483648 * 1073741824 := by
    rw [Int.natAbs_mul]; exact Nat.mul_le_mul (by omega) (by omega)
  omega
set_option maxHeartbeats 8000000 in
theorem walkRationalInts (n d c : Int) (w : World) (ht : TabOk w) (hn : -2147483648 ≤ n ∧ n ≤ 2147483647) (hd : -2147483648 ≤ d ∧ d ≤ 2147483647) (hc : -2147483648 ≤ c ∧ c ≤ 2147483647) :
    Calls Tryd.prog 7 #[.int .i32 n, .int .i32 d, .int .i32 c] w fun e w' => e = .returned (.bool true) ∧ Below w.heap.size w w' := by
  have HT := Lib.hid ht
  clear ht
  have D0 := Lib.hid (Below.refl w.heap.size w)
  go_enter Tryd.func7, Tryd.ntmps7
  go_wp2_with fail
  refine (head4_any _ (HT.out.below D0.out)).mono ?_
  rintro e v1 ⟨rfl, hb⟩
  have D1 := Lib.hid (D0.out.trans (hb.mono D0.out.size))
  clear hb
  go_wp2_with fail
  by_cases hd0 : d = 0
  ·
    subst hd0
    refine (pof_any (n) (0) _ (by omega) (by omega) (by omega) (by omega) (HT.out.below D1.out)).mono ?_
    rintro e v2 ⟨rfl, hb⟩
    have D2 := Lib.hid (D1.out.trans (hb.mono D1.out.size))
    clear D1
    clear hb
    have hz : ofE n 0 = (noRaw, 14) := rfl
    simp only [hz, noRaw]
    go_wp2_with fail
    go_ret
    exact ⟨rfl, D2.out.alloc D2.out.size _⟩
  ·
    obtain ⟨k, hk⟩ : ∃ k, c.tmod 1073741824 = k := ⟨_, rfl⟩
    have hkb : -1073741824 < k ∧ k < 1073741824 := by rw [← hk]; have a1 := Int.tmod_lt_of_pos c (show (0 : Int) < 1073741824 by decide); have a2 := Int.lt_tmod_of_pos c (show (0 : Int) < 1073741824 by decide); omega
    have hnk := ints_mul hn hkb
    have hdk := ints_mul hd hkb
    obtain ⟨a, x, y, e1, e2, e3, e4, e5, e6⟩ := ints_pure (n := n) (d := d) (k := k) (by omega) (by omega) hd0
    have E1 := Lib.hid e1; clear e1
    have E2 := Lib.hid e2; clear e2
    have E3 := Lib.hid e3; clear e3
    have E4 := Lib.hid e4; clear e4
    have E5 := Lib.hid e5; clear e5
    have E6 := Lib.hid e6; clear e6
    refine (pof_any (n) (d) _ (by omega) (by omega) (by omega) (by omega) (HT.out.below D1.out)).mono ?_
    rintro e v2 ⟨rfl, hb⟩
    have D2 := Lib.hid (D1.out.trans (hb.mono D1.out.size))
    clear D1
    clear hb
    simp only [E1.out]
    go_wp2_with fail
    obtain ⟨B1, hB1⟩ : ∃ B, B = v2.heap.size := ⟨_, rfl⟩
    obtain ⟨W1_0, hW1_0⟩ : ∃ W, W = v2.alloc (Obj.cells #[Value.bool a.neg, Value.string a.num, Value.string a.den] 24) := ⟨_, rfl⟩
    have hb : Below v2.heap.size v2 W1_0 := by rw [hW1_0]; exact (Below.refl _ _).alloc (Nat.le_refl _) _
    have hzW1_0 : v2.heap.size = B1 := by rw [hB1]
    have hlW1_0 : RatAt (B1) a W1_0 := by rw [← hzW1_0, hW1_0]; exact ⟨heap_lastM _ _⟩
    have D3 := Lib.hid (D2.out.trans (hb.mono D2.out.size))
    clear D2
    clear hb
    have a_3 := Lib.hid hlW1_0
    clear hlW1_0
    rw [← hW1_0]
    simp only [← hB1]
    have HW1_0 := Lib.hid hW1_0
    clear hW1_0 hzW1_0
    have HB1 := Lib.hid hB1
    clear hB1
    rcases E2.out with ⟨hk0, hz⟩ | ⟨hk0, hz⟩
    ·
      have HZ := Lib.hid hz; clear hz E2
      refine (pof_any (n * k) (d * k) _ (by omega) (by omega) (by omega) (by omega) (HT.out.below D3.out)).mono ?_
      rintro e v4 ⟨rfl, hb⟩
      have D4 := Lib.hid (D3.out.trans (hb.mono D3.out.size))
      have a_4 := Lib.hid (a_3.out.bel hb)
      clear D3 a_3
      clear hb
      simp only [HZ.out]
      go_wp2_with fail
      clear HZ
      obtain ⟨B2, hB2⟩ : ∃ B, B = v4.heap.size := ⟨_, rfl⟩
      obtain ⟨W2_0, hW2_0⟩ : ∃ W, W = v4.alloc (Obj.cells #[Value.bool a.neg, Value.string a.num, Value.string a.den] 24) := ⟨_, rfl⟩
      have hb : Below v4.heap.size v4 W2_0 := by rw [hW2_0]; exact (Below.refl _ _).alloc (Nat.le_refl _) _
      have hzW2_0 : v4.heap.size = B2 := by rw [hB2]
      have hlW2_0 : RatAt (B2) a W2_0 := by rw [← hzW2_0, hW2_0]; exact ⟨heap_lastM _ _⟩
      have D5 := Lib.hid (D4.out.trans (hb.mono D4.out.size))
      have a_5 := Lib.hid (a_4.out.bel hb)
      clear D4 a_4
      clear hb
      have b_5 := Lib.hid hlW2_0
      clear hlW2_0
      rw [← hW2_0]
      simp only [← hB2]
      have HW2_0 := Lib.hid hW2_0
      clear hW2_0 hzW2_0
      have HB2 := Lib.hid hB2
      clear hB2
      refine (pof_any (d) (1) _ (by omega) (by omega) (by omega) (by omega) (HT.out.below D5.out)).mono ?_
      rintro e v6 ⟨rfl, hb⟩
      have D6 := Lib.hid (D5.out.trans (hb.mono D5.out.size))
      have a_6 := Lib.hid (a_5.out.bel hb)
      have b_6 := Lib.hid (b_5.out.bel hb)
      clear D5 a_5 b_5
      clear hb
      simp only [E3.out]
      go_wp2_with fail
      obtain ⟨B3, hB3⟩ : ∃ B, B = v6.heap.size := ⟨_, rfl⟩
      obtain ⟨W3_0, hW3_0⟩ : ∃ W, W = v6.alloc (Obj.cells #[Value.bool x.neg, Value.string x.num, Value.string x.den] 24) := ⟨_, rfl⟩
      have hb : Below v6.heap.size v6 W3_0 := by rw [hW3_0]; exact (Below.refl _ _).alloc (Nat.le_refl _) _
      have hzW3_0 : v6.heap.size = B3 := by rw [hB3]
      have hlW3_0 : RatAt (B3) x W3_0 := by rw [← hzW3_0, hW3_0]; exact ⟨heap_lastM _ _⟩
      have D7 := Lib.hid (D6.out.trans (hb.mono D6.out.size))
      have a_7 := Lib.hid (a_6.out.bel hb)
      have b_7 := Lib.hid (b_6.out.bel hb)
      clear D6 a_6 b_6
      clear hb
      have x_7 := Lib.hid hlW3_0
      clear hlW3_0
      rw [← hW3_0]
      simp only [← hB3]
      have HW3_0 := Lib.hid hW3_0
      clear hW3_0 hzW3_0
      have HB3 := Lib.hid hB3
      clear hB3
      refine (pof_any (n) (1) _ (by omega) (by omega) (by omega) (by omega) (HT.out.below D7.out)).mono ?_
      rintro e v8 ⟨rfl, hb⟩
      have D8 := Lib.hid (D7.out.trans (hb.mono D7.out.size))
      have a_8 := Lib.hid (a_7.out.bel hb)
      have b_8 := Lib.hid (b_7.out.bel hb)
      have x_8 := Lib.hid (x_7.out.bel hb)
      clear D7 a_7 b_7 x_7
      clear hb
      simp only [E4.out]
      have ac0 := a_8.out.c0
      have ac1 := a_8.out.c1
      have ac2 := a_8.out.c2
      have az := blk_lt a_8.out.cells
      have xc0 := x_8.out.c0
      have xc1 := x_8.out.c1
      have xc2 := x_8.out.c2
      have xz := blk_lt x_8.out.cells
      go_wp2_with fail
      obtain ⟨B4, hB4⟩ : ∃ B, B = v8.heap.size := ⟨_, rfl⟩
      obtain ⟨W4_0, hW4_0⟩ : ∃ W, W = v8.alloc (Obj.cells #[Value.bool y.neg, Value.string y.num, Value.string y.den] 24) := ⟨_, rfl⟩
      have hb : Below v8.heap.size v8 W4_0 := by rw [hW4_0]; exact (Below.refl _ _).alloc (Nat.le_refl _) _
      have hzW4_0 : v8.heap.size = B4 := by rw [hB4]
      have hlW4_0 : RatAt (B4) y W4_0 := by rw [← hzW4_0, hW4_0]; exact ⟨heap_lastM _ _⟩
      have D9 := Lib.hid (D8.out.trans (hb.mono D8.out.size))
      have a_9 := Lib.hid (a_8.out.bel hb)
      have b_9 := Lib.hid (b_8.out.bel hb)
      have x_9 := Lib.hid (x_8.out.bel hb)
      clear D8 a_8 b_8 x_8
      clear hb
      have y_9 := Lib.hid hlW4_0
      clear hlW4_0
      rw [← hW4_0]
      simp only [← hB4]
      have HW4_0 := Lib.hid hW4_0
      clear hW4_0 hzW4_0
      have HB4 := Lib.hid hB4
      clear hB4
      clear ac0 ac1 ac2 az xc0 xc1 xc2 xz
      refine (pratmul_any a x _).mono ?_
      rintro e v10 ⟨rfl, hb⟩
      have D10 := Lib.hid (D9.out.trans (hb.mono D9.out.size))
      have a_10 := Lib.hid (a_9.out.bel hb)
      have b_10 := Lib.hid (b_9.out.bel hb)
      have x_10 := Lib.hid (x_9.out.bel hb)
      have y_10 := Lib.hid (y_9.out.bel hb)
      clear D9 a_9 b_9 x_9 y_9
      clear hb
      simp only [E5.out]
      go_wp2_with fail
      obtain ⟨B5, hB5⟩ : ∃ B, B = v10.heap.size := ⟨_, rfl⟩
      obtain ⟨W5_0, hW5_0⟩ : ∃ W, W = v10.alloc (Obj.cells #[Value.bool y.neg, Value.string y.num, Value.string y.den] 24) := ⟨_, rfl⟩
      have hb : Below v10.heap.size v10 W5_0 := by rw [hW5_0]; exact (Below.refl _ _).alloc (Nat.le_refl _) _
      have hzW5_0 : v10.heap.size = B5 := by rw [hB5]
      have hlW5_0 : RatAt (B5) y W5_0 := by rw [← hzW5_0, hW5_0]; exact ⟨heap_lastM _ _⟩
      have D11 := Lib.hid (D10.out.trans (hb.mono D10.out.size))
      have a_11 := Lib.hid (a_10.out.bel hb)
      have b_11 := Lib.hid (b_10.out.bel hb)
      have x_11 := Lib.hid (x_10.out.bel hb)
      have y_11 := Lib.hid (y_10.out.bel hb)
      clear D10 a_10 b_10 x_10 y_10
      clear hb
      have p_11 := Lib.hid hlW5_0
      clear hlW5_0
      rw [← hW5_0]
      simp only [← hB5]
      have HW5_0 := Lib.hid hW5_0
      clear hW5_0 hzW5_0
      have HB5 := Lib.hid hB5
      clear hB5
      refine (refabs_any n _ (by omega)).mono ?_
      rintro e wz ⟨rfl, rfl⟩
      go_wp2_with fail
      refine (refabs_any d _ (by omega)).mono ?_
      rintro e wz ⟨rfl, rfl⟩
      go_wp2_with fail
      have hm : makeE (!(decide (n < 0) == decide (d < 0))) (nS n.natAbs) (nS d.natAbs) = (a, 0) := E6.out
      refine (pmake_any _ _ _ _).mono ?_
      rintro e v12 ⟨rfl, hb⟩
      have D12 := Lib.hid (D11.out.trans (hb.mono D11.out.size))
      have a_12 := Lib.hid (a_11.out.bel hb)
      have b_12 := Lib.hid (b_11.out.bel hb)
      have x_12 := Lib.hid (x_11.out.bel hb)
      have y_12 := Lib.hid (y_11.out.bel hb)
      have p_12 := Lib.hid (p_11.out.bel hb)
      clear D11 a_11 b_11 x_11 y_11 p_11
      clear hb
      simp only [hm]; clear hm
      have Q1 : ∀ w, (binOp .eql 24 (.agg #[.bool a.neg, .string a.num, .string a.den]) (.agg #[.bool a.neg, .string a.num, .string a.den])).run Tryd.prog w = .ok (.bool true) w := fun w => by have := run_eql_rat a a w; rwa [sameR_iff.2 rfl] at this
      have Q2 : ∀ w, (binOp .eql 24 (.agg #[.bool y.neg, .string y.num, .string y.den]) (.agg #[.bool y.neg, .string y.num, .string y.den])).run Tryd.prog w = .ok (.bool true) w := fun w => by have := run_eql_rat y y w; rwa [sameR_iff.2 rfl] at this
      have ac0 := a_12.out.c0
      have ac1 := a_12.out.c1
      have ac2 := a_12.out.c2
      have az := blk_lt a_12.out.cells
      have bc0 := b_12.out.c0
      have bc1 := b_12.out.c1
      have bc2 := b_12.out.c2
      have bz := blk_lt b_12.out.cells
      have pc0 := p_12.out.c0
      have pc1 := p_12.out.c1
      have pc2 := p_12.out.c2
      have pz := blk_lt p_12.out.cells
      have yc0 := y_12.out.c0
      have yc1 := y_12.out.c1
      have yc2 := y_12.out.c2
      have yz := blk_lt y_12.out.cells
      go_wp2_with fail
      go_ret
      exact ⟨rfl, D12.out.alloc D12.out.size _⟩
    ·
      have HZ := Lib.hid hz; clear hz E2
      refine (pof_any (n * k) (d * k) _ (by omega) (by omega) (by omega) (by omega) (HT.out.below D3.out)).mono ?_
      rintro e v4 ⟨rfl, hb⟩
      have D4 := Lib.hid (D3.out.trans (hb.mono D3.out.size))
      have a_4 := Lib.hid (a_3.out.bel hb)
      clear D3 a_3
      clear hb
      simp only [HZ.out]
      go_wp2_with fail
      clear HZ
      simp only [noRaw]
      obtain ⟨B2, hB2⟩ : ∃ B, B = v4.heap.size := ⟨_, rfl⟩
      obtain ⟨W2_0, hW2_0⟩ : ∃ W, W = v4.alloc (Obj.cells #[Value.bool false, Value.string ⟨#[]⟩, Value.string ⟨#[]⟩] 24) := ⟨_, rfl⟩
      have hb : Below v4.heap.size v4 W2_0 := by rw [hW2_0]; exact (Below.refl _ _).alloc (Nat.le_refl _) _
      have hzW2_0 : v4.heap.size = B2 := by rw [hB2]
      have hlW2_0 : RatAt (B2) noRaw W2_0 := by rw [← hzW2_0, hW2_0]; exact ⟨heap_lastM _ _⟩
      have D5 := Lib.hid (D4.out.trans (hb.mono D4.out.size))
      have a_5 := Lib.hid (a_4.out.bel hb)
      clear D4 a_4
      clear hb
      have b_5 := Lib.hid hlW2_0
      clear hlW2_0
      rw [← hW2_0]
      simp only [← hB2]
      have HW2_0 := Lib.hid hW2_0
      clear hW2_0 hzW2_0
      have HB2 := Lib.hid hB2
      clear hB2
      refine (pof_any (d) (1) _ (by omega) (by omega) (by omega) (by omega) (HT.out.below D5.out)).mono ?_
      rintro e v6 ⟨rfl, hb⟩
      have D6 := Lib.hid (D5.out.trans (hb.mono D5.out.size))
      have a_6 := Lib.hid (a_5.out.bel hb)
      have b_6 := Lib.hid (b_5.out.bel hb)
      clear D5 a_5 b_5
      clear hb
      simp only [E3.out]
      go_wp2_with fail
      obtain ⟨B3, hB3⟩ : ∃ B, B = v6.heap.size := ⟨_, rfl⟩
      obtain ⟨W3_0, hW3_0⟩ : ∃ W, W = v6.alloc (Obj.cells #[Value.bool x.neg, Value.string x.num, Value.string x.den] 24) := ⟨_, rfl⟩
      have hb : Below v6.heap.size v6 W3_0 := by rw [hW3_0]; exact (Below.refl _ _).alloc (Nat.le_refl _) _
      have hzW3_0 : v6.heap.size = B3 := by rw [hB3]
      have hlW3_0 : RatAt (B3) x W3_0 := by rw [← hzW3_0, hW3_0]; exact ⟨heap_lastM _ _⟩
      have D7 := Lib.hid (D6.out.trans (hb.mono D6.out.size))
      have a_7 := Lib.hid (a_6.out.bel hb)
      have b_7 := Lib.hid (b_6.out.bel hb)
      clear D6 a_6 b_6
      clear hb
      have x_7 := Lib.hid hlW3_0
      clear hlW3_0
      rw [← hW3_0]
      simp only [← hB3]
      have HW3_0 := Lib.hid hW3_0
      clear hW3_0 hzW3_0
      have HB3 := Lib.hid hB3
      clear hB3
      refine (pof_any (n) (1) _ (by omega) (by omega) (by omega) (by omega) (HT.out.below D7.out)).mono ?_
      rintro e v8 ⟨rfl, hb⟩
      have D8 := Lib.hid (D7.out.trans (hb.mono D7.out.size))
      have a_8 := Lib.hid (a_7.out.bel hb)
      have b_8 := Lib.hid (b_7.out.bel hb)
      have x_8 := Lib.hid (x_7.out.bel hb)
      clear D7 a_7 b_7 x_7
      clear hb
      simp only [E4.out]
      have ac0 := a_8.out.c0
      have ac1 := a_8.out.c1
      have ac2 := a_8.out.c2
      have az := blk_lt a_8.out.cells
      have xc0 := x_8.out.c0
      have xc1 := x_8.out.c1
      have xc2 := x_8.out.c2
      have xz := blk_lt x_8.out.cells
      go_wp2_with fail
      obtain ⟨B4, hB4⟩ : ∃ B, B = v8.heap.size := ⟨_, rfl⟩
      obtain ⟨W4_0, hW4_0⟩ : ∃ W, W = v8.alloc (Obj.cells #[Value.bool y.neg, Value.string y.num, Value.string y.den] 24) := ⟨_, rfl⟩
      have hb : Below v8.heap.size v8 W4_0 := by rw [hW4_0]; exact (Below.refl _ _).alloc (Nat.le_refl _) _
      have hzW4_0 : v8.heap.size = B4 := by rw [hB4]
      have hlW4_0 : RatAt (B4) y W4_0 := by rw [← hzW4_0, hW4_0]; exact ⟨heap_lastM _ _⟩
      have D9 := Lib.hid (D8.out.trans (hb.mono D8.out.size))
      have a_9 := Lib.hid (a_8.out.bel hb)
      have b_9 := Lib.hid (b_8.out.bel hb)
      have x_9 := Lib.hid (x_8.out.bel hb)
      clear D8 a_8 b_8 x_8
      clear hb
      have y_9 := Lib.hid hlW4_0
      clear hlW4_0
      rw [← hW4_0]
      simp only [← hB4]
      have HW4_0 := Lib.hid hW4_0
      clear hW4_0 hzW4_0
      have HB4 := Lib.hid hB4
      clear hB4
      clear ac0 ac1 ac2 az xc0 xc1 xc2 xz
      refine (pratmul_any a x _).mono ?_
      rintro e v10 ⟨rfl, hb⟩
      have D10 := Lib.hid (D9.out.trans (hb.mono D9.out.size))
      have a_10 := Lib.hid (a_9.out.bel hb)
      have b_10 := Lib.hid (b_9.out.bel hb)
      have x_10 := Lib.hid (x_9.out.bel hb)
      have y_10 := Lib.hid (y_9.out.bel hb)
      clear D9 a_9 b_9 x_9 y_9
      clear hb
      simp only [E5.out]
      go_wp2_with fail
      obtain ⟨B5, hB5⟩ : ∃ B, B = v10.heap.size := ⟨_, rfl⟩
      obtain ⟨W5_0, hW5_0⟩ : ∃ W, W = v10.alloc (Obj.cells #[Value.bool y.neg, Value.string y.num, Value.string y.den] 24) := ⟨_, rfl⟩
      have hb : Below v10.heap.size v10 W5_0 := by rw [hW5_0]; exact (Below.refl _ _).alloc (Nat.le_refl _) _
      have hzW5_0 : v10.heap.size = B5 := by rw [hB5]
      have hlW5_0 : RatAt (B5) y W5_0 := by rw [← hzW5_0, hW5_0]; exact ⟨heap_lastM _ _⟩
      have D11 := Lib.hid (D10.out.trans (hb.mono D10.out.size))
      have a_11 := Lib.hid (a_10.out.bel hb)
      have b_11 := Lib.hid (b_10.out.bel hb)
      have x_11 := Lib.hid (x_10.out.bel hb)
      have y_11 := Lib.hid (y_10.out.bel hb)
      clear D10 a_10 b_10 x_10 y_10
      clear hb
      have p_11 := Lib.hid hlW5_0
      clear hlW5_0
      rw [← hW5_0]
      simp only [← hB5]
      have HW5_0 := Lib.hid hW5_0
      clear hW5_0 hzW5_0
      have HB5 := Lib.hid hB5
      clear hB5
      refine (refabs_any n _ (by omega)).mono ?_
      rintro e wz ⟨rfl, rfl⟩
      go_wp2_with fail
      refine (refabs_any d _ (by omega)).mono ?_
      rintro e wz ⟨rfl, rfl⟩
      go_wp2_with fail
      have hm : makeE (!(decide (n < 0) == decide (d < 0))) (nS n.natAbs) (nS d.natAbs) = (a, 0) := E6.out
      refine (pmake_any _ _ _ _).mono ?_
      rintro e v12 ⟨rfl, hb⟩
      have D12 := Lib.hid (D11.out.trans (hb.mono D11.out.size))
      have a_12 := Lib.hid (a_11.out.bel hb)
      have b_12 := Lib.hid (b_11.out.bel hb)
      have x_12 := Lib.hid (x_11.out.bel hb)
      have y_12 := Lib.hid (y_11.out.bel hb)
      have p_12 := Lib.hid (p_11.out.bel hb)
      clear D11 a_11 b_11 x_11 y_11 p_11
      clear hb
      simp only [hm]; clear hm
      have Q1 : ∀ w, (binOp .eql 24 (.agg #[.bool a.neg, .string a.num, .string a.den]) (.agg #[.bool a.neg, .string a.num, .string a.den])).run Tryd.prog w = .ok (.bool true) w := fun w => by have := run_eql_rat a a w; rwa [sameR_iff.2 rfl] at this
      have Q2 : ∀ w, (binOp .eql 24 (.agg #[.bool y.neg, .string y.num, .string y.den]) (.agg #[.bool y.neg, .string y.num, .string y.den])).run Tryd.prog w = .ok (.bool true) w := fun w => by have := run_eql_rat y y w; rwa [sameR_iff.2 rfl] at this
      have ac0 := a_12.out.c0
      have ac1 := a_12.out.c1
      have ac2 := a_12.out.c2
      have az := blk_lt a_12.out.cells
      have bc0 := b_12.out.c0
      have bc1 := b_12.out.c1
      have bc2 := b_12.out.c2
      have bz := blk_lt b_12.out.cells
      have pc0 := p_12.out.c0
      have pc1 := p_12.out.c1
      have pc2 := p_12.out.c2
      have pz := blk_lt p_12.out.cells
      have yc0 := y_12.out.c0
      have yc1 := y_12.out.c1
      have yc2 := y_12.out.c2
      have yz := blk_lt y_12.out.cells
      simp only [noRaw] at bc0 bc1 bc2
      go_wp2_with fail
      go_ret
      exact ⟨rfl, D12.out.alloc D12.out.size _⟩
end Go.Proofs.YthpghjklnkdmfaaDoor
