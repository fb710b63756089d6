/-
  The walk of RationalLimit.
-/
import Derived.Test.YthpghjklnkdmfaaDoorRmR
set_option linter.unusedVariables false
set_option maxRecDepth 100000
namespace Go.Proofs.YthpghjklnkdmfaaDoor
open Go.RowKit
open Rt
theorem prep_9 (N : Nat) (w : World) (hN : N ≤ 1000) : Calls Tryd.prog 23 #[.int .u8 57, .int .i64 (N : Int)] w fun e w' => e = .returned (.string (repB 57 N)) ∧ Below w.heap.size w w' := prep_any 57 N w hN
theorem prep_0 (N : Nat) (w : World) (hN : N ≤ 1000) : Calls Tryd.prog 23 #[.int .u8 48, .int .i64 (N : Int)] w fun e w' => e = .returned (.string (repB 48 N)) ∧ Below w.heap.size w w' := prep_any 48 N w hN
theorem repB_size (d : UInt8) (N : Nat) : (repB d N).size = N := by show (List.replicate N d).toArray.size = N; simp
set_option maxHeartbeats 8000000 in
theorem walkRationalLimit (x y : Int) (w : World) (ht : TabOk w) (hx : 0 ≤ x ∧ x ≤ 65535) (hy : 0 ≤ y ∧ y ≤ 65535) :
    Calls Tryd.prog 8 #[.int .u16 x, .int .u16 y] w fun e w' => e = .returned (.bool true) ∧ Below w.heap.size w w' := by
  have HT := Lib.hid ht
  clear ht
  obtain ⟨m, hm⟩ : ∃ m : Nat, 1 + x % 600 = (m : Int) := ⟨(1 + x % 600).toNat, by omega⟩
  obtain ⟨n, hn⟩ : ∃ n : Nat, 1 + y % 600 = (n : Int) := ⟨(1 + y % 600).toNat, by omega⟩
  have hm1 : 1 ≤ m ∧ m ≤ 600 := by omega
  have hn1 : 1 ≤ n ∧ n ≤ 600 := by omega
  obtain ⟨k, hk⟩ : ∃ k, m - 1 = k := ⟨_, rfl⟩
  obtain ⟨l, hl⟩ : ∃ l, n - 1 = l := ⟨_, rfl⟩
  have hmk : (m : Int) - 1 = (k : Int) := by omega
  have hnl : (n : Int) - 1 = (l : Int) := by omega
  have hkb : k ≤ 1000 ∧ l ≤ 1000 := by omega
  have hmnb : m ≤ 1000 ∧ n ≤ 1000 := by omega
  obtain ⟨e1, e2, e3⟩ := limit_pure hm1.1 hm1.2 hn1.1 hn1.2
  rw [hk] at e2
  rw [hl] at e2 e3
  obtain ⟨r9, h9⟩ : ∃ r, repB 57 m = r := ⟨_, rfl⟩
  obtain ⟨s9, g9⟩ : ∃ r, repB 57 n = r := ⟨_, rfl⟩
  obtain ⟨z0, hz0⟩ : ∃ r, repB 48 k = r := ⟨_, rfl⟩
  obtain ⟨t0, ht0⟩ : ∃ r, repB 48 l = r := ⟨_, rfl⟩
  have zs : z0.size ≤ 1000 := by rw [← hz0, repB_size]; omega
  have ts : t0.size ≤ 1000 := by rw [← ht0, repB_size]; omega
  rw [hz0, ht0] at e2
  rw [ht0] at e3
  rw [h9] at e3
  rw [h9, g9] at e1
  obtain ⟨u, hu⟩ : ∃ u, (⟨#[49]⟩ : ByteArray) ++ z0 = u := ⟨_, rfl⟩
  obtain ⟨v, hv⟩ : ∃ v, (⟨#[49]⟩ : ByteArray) ++ t0 = v := ⟨_, rfl⟩
  rw [hu, hv] at e2
  rw [hv] at e3
  have E1 := Lib.hid e1; clear e1
  have E2 := Lib.hid e2; clear e2
  have E3 := Lib.hid e3; clear e3
  have H9 := Lib.hid h9; have G9 := Lib.hid g9; have HZ0 := Lib.hid hz0; have HT0 := Lib.hid ht0
  clear h9 g9 hz0 ht0
  have HK := Lib.hid hkb; have HMN := Lib.hid hmnb; clear hkb hmnb hk hl
  have HU := Lib.hid hu; have HV := Lib.hid hv; have ZS := Lib.hid zs; have TS := Lib.hid ts; clear hu hv zs ts
  have D0 := Lib.hid (Below.refl w.heap.size w)
  go_enter Tryd.func8, Tryd.ntmps8
  go_wp2_with fail
  refine (head4_any _ (HT.out.below D0.out)).mono ?_
  rintro e v1 ⟨rfl, hb⟩
  have D1 := Lib.hid (D0.out.trans (hb.mono D0.out.size))
  clear hb
  go_wp2_with fail
  refine (prep_9 m _ HMN.out.1).mono ?_
  rintro e v2 ⟨rfl, hb⟩
  have D2 := Lib.hid (D1.out.trans (hb.mono D1.out.size))
  clear D1
  clear hb
  simp only [H9.out]
  go_wp2_with fail
  refine (prat_any _ _ _ _).mono ?_
  rintro e v3 ⟨rfl, hb⟩
  have D3 := Lib.hid (D2.out.trans (hb.mono D2.out.size))
  clear D2
  clear hb
  go_wp2_with fail
  refine (prep_9 n _ HMN.out.2).mono ?_
  rintro e v4 ⟨rfl, hb⟩
  have D4 := Lib.hid (D3.out.trans (hb.mono D3.out.size))
  clear D3
  clear hb
  simp only [G9.out]
  go_wp2_with fail
  refine (prat_any _ _ _ _).mono ?_
  rintro e v5 ⟨rfl, hb⟩
  have D5 := Lib.hid (D4.out.trans (hb.mono D4.out.size))
  clear D4
  clear hb
  go_wp2_with fail
  obtain ⟨B1, hB1⟩ : ∃ B, B = v5.heap.size := ⟨_, rfl⟩
  obtain ⟨W1_0, hW1_0⟩ : ∃ W, W = v5.alloc (Obj.cells #[Value.bool false, Value.string r9, Value.string ⟨#[49]⟩] 24) := ⟨_, rfl⟩
  have hb : Below v5.heap.size v5 W1_0 := by rw [hW1_0]; exact (Below.refl _ _).alloc (Nat.le_refl _) _
  have hzW1_0 : v5.heap.size = B1 := by rw [hB1]
  have hlW1_0 : RatAt (B1) ⟨false, r9, ⟨#[49]⟩⟩ W1_0 := by rw [← hzW1_0, hW1_0]; exact ⟨heap_lastM _ _⟩
  have D6 := Lib.hid (D5.out.trans (hb.mono D5.out.size))
  clear D5
  clear hb
  have a_6 := Lib.hid hlW1_0
  clear hlW1_0
  obtain ⟨W1_1, hW1_1⟩ : ∃ W, W = W1_0.alloc (Obj.cells #[Value.bool false, Value.string s9, Value.string ⟨#[49]⟩] 24) := ⟨_, rfl⟩
  have hb : Below W1_0.heap.size W1_0 W1_1 := by rw [hW1_1]; exact (Below.refl _ _).alloc (Nat.le_refl _) _
  have hzW1_1 : W1_0.heap.size = B1 + 1 := by rw [hW1_0]; simp [hzW1_0]
  have hlW1_1 : RatAt (B1 + 1) ⟨false, s9, ⟨#[49]⟩⟩ W1_1 := by rw [← hzW1_1, hW1_1]; exact ⟨heap_lastM _ _⟩
  have D7 := Lib.hid (D6.out.trans (hb.mono D6.out.size))
  have a_7 := Lib.hid (a_6.out.bel hb)
  clear D6 a_6
  clear hb
  have b_7 := Lib.hid hlW1_1
  clear hlW1_1
  rw [← hW1_0]
  rw [← hW1_1]
  simp only [← hB1]
  have HW1_0 := Lib.hid hW1_0
  clear hW1_0 hzW1_0
  have HW1_1 := Lib.hid hW1_1
  clear hW1_1 hzW1_1
  have HB1 := Lib.hid hB1
  clear hB1
  refine (pratmul_any ⟨false, r9, ⟨#[49]⟩⟩ ⟨false, s9, ⟨#[49]⟩⟩ _).mono ?_
  rintro e v8 ⟨rfl, hb⟩
  have D8 := Lib.hid (D7.out.trans (hb.mono D7.out.size))
  have a_8 := Lib.hid (a_7.out.bel hb)
  have b_8 := Lib.hid (b_7.out.bel hb)
  clear D7 a_7 b_7
  clear hb
  rcases E1.out with ⟨c1, p, hp, hps⟩ | ⟨c1, hp⟩
  ·
    simp only [hp]; clear hp
    have hps' : (p.num.size : Int) = (m : Int) + (n : Int) := by omega
    have c2 : decide ((1000 : Int) < (m : Int) + (n : Int)) = false := decide_eq_false (by omega)
    have c3 : decide (1000 < m + n) = false := decide_eq_false (by omega)
    go_wp2_with fail
    obtain ⟨B2, hB2⟩ : ∃ B, B = v8.heap.size := ⟨_, rfl⟩
    obtain ⟨W2_0, hW2_0⟩ : ∃ W, W = v8.alloc (Obj.cells #[Value.bool p.neg, Value.string p.num, Value.string p.den] 24) := ⟨_, rfl⟩
    have hb : Below v8.heap.size v8 W2_0 := by rw [hW2_0]; exact (Below.refl _ _).alloc (Nat.le_refl _) _
    have hzW2_0 : v8.heap.size = B2 := by rw [hB2]
    have hlW2_0 : RatAt (B2) p W2_0 := by rw [← hzW2_0, hW2_0]; exact ⟨heap_lastM _ _⟩
    have D9 := Lib.hid (D8.out.trans (hb.mono D8.out.size))
    have a_9 := Lib.hid (a_8.out.bel hb)
    have b_9 := Lib.hid (b_8.out.bel hb)
    clear D8 a_8 b_8
    clear hb
    have p_9 := Lib.hid hlW2_0
    clear hlW2_0
    rw [← hW2_0]
    simp only [← hB2]
    have HW2_0 := Lib.hid hW2_0
    clear hW2_0 hzW2_0
    have HB2 := Lib.hid hB2
    clear hB2
    clear hps' c2 c3
    refine (prep_0 k _ HK.out.1).mono ?_
    rintro e v10 ⟨rfl, hb⟩
    have D10 := Lib.hid (D9.out.trans (hb.mono D9.out.size))
    have a_10 := Lib.hid (a_9.out.bel hb)
    have b_10 := Lib.hid (b_9.out.bel hb)
    have p_10 := Lib.hid (p_9.out.bel hb)
    clear D9 a_9 b_9 p_9
    clear hb
    simp only [HZ0.out]
    have zs := ZS.out; have hu := HU.out
    go_wp2_with fail
    refine (prat_any _ _ _ _).mono ?_
    rintro e v11 ⟨rfl, hb⟩
    have D11 := Lib.hid (D10.out.trans (hb.mono D10.out.size))
    have a_11 := Lib.hid (a_10.out.bel hb)
    have b_11 := Lib.hid (b_10.out.bel hb)
    have p_11 := Lib.hid (p_10.out.bel hb)
    clear D10 a_10 b_10 p_10
    clear hb
    go_wp2_with fail
    clear zs hu
    refine (prep_0 l _ HK.out.2).mono ?_
    rintro e v12 ⟨rfl, hb⟩
    have D12 := Lib.hid (D11.out.trans (hb.mono D11.out.size))
    have a_12 := Lib.hid (a_11.out.bel hb)
    have b_12 := Lib.hid (b_11.out.bel hb)
    have p_12 := Lib.hid (p_11.out.bel hb)
    clear D11 a_11 b_11 p_11
    clear hb
    simp only [HT0.out]
    have ts := TS.out; have hv := HV.out
    go_wp2_with fail
    refine (prat_any _ _ _ _).mono ?_
    rintro e v13 ⟨rfl, hb⟩
    have D13 := Lib.hid (D12.out.trans (hb.mono D12.out.size))
    have a_13 := Lib.hid (a_12.out.bel hb)
    have b_13 := Lib.hid (b_12.out.bel hb)
    have p_13 := Lib.hid (p_12.out.bel hb)
    clear D12 a_12 b_12 p_12
    clear hb
    go_wp2_with fail
    clear ts hv
    obtain ⟨B3, hB3⟩ : ∃ B, B = v13.heap.size := ⟨_, rfl⟩
    obtain ⟨W3_0, hW3_0⟩ : ∃ W, W = v13.alloc (Obj.cells #[Value.bool false, Value.string u, Value.string ⟨#[49]⟩] 24) := ⟨_, rfl⟩
    have hb : Below v13.heap.size v13 W3_0 := by rw [hW3_0]; exact (Below.refl _ _).alloc (Nat.le_refl _) _
    have hzW3_0 : v13.heap.size = B3 := by rw [hB3]
    have hlW3_0 : RatAt (B3) ⟨false, u, ⟨#[49]⟩⟩ W3_0 := by rw [← hzW3_0, hW3_0]; exact ⟨heap_lastM _ _⟩
    have D14 := Lib.hid (D13.out.trans (hb.mono D13.out.size))
    have a_14 := Lib.hid (a_13.out.bel hb)
    have b_14 := Lib.hid (b_13.out.bel hb)
    have p_14 := Lib.hid (p_13.out.bel hb)
    clear D13 a_13 b_13 p_13
    clear hb
    have c_14 := Lib.hid hlW3_0
    clear hlW3_0
    obtain ⟨W3_1, hW3_1⟩ : ∃ W, W = W3_0.alloc (Obj.cells #[Value.bool true, Value.string v, Value.string ⟨#[49]⟩] 24) := ⟨_, rfl⟩
    have hb : Below W3_0.heap.size W3_0 W3_1 := by rw [hW3_1]; exact (Below.refl _ _).alloc (Nat.le_refl _) _
    have hzW3_1 : W3_0.heap.size = B3 + 1 := by rw [hW3_0]; simp [hzW3_0]
    have hlW3_1 : RatAt (B3 + 1) ⟨true, v, ⟨#[49]⟩⟩ W3_1 := by rw [← hzW3_1, hW3_1]; exact ⟨heap_lastM _ _⟩
    have D15 := Lib.hid (D14.out.trans (hb.mono D14.out.size))
    have a_15 := Lib.hid (a_14.out.bel hb)
    have b_15 := Lib.hid (b_14.out.bel hb)
    have p_15 := Lib.hid (p_14.out.bel hb)
    have c_15 := Lib.hid (c_14.out.bel hb)
    clear D14 a_14 b_14 p_14 c_14
    clear hb
    have d_15 := Lib.hid hlW3_1
    clear hlW3_1
    rw [← hW3_0]
    rw [← hW3_1]
    simp only [← hB3]
    have HW3_0 := Lib.hid hW3_0
    clear hW3_0 hzW3_0
    have HW3_1 := Lib.hid hW3_1
    clear hW3_1 hzW3_1
    have HB3 := Lib.hid hB3
    clear hB3
    refine (pratmul_any ⟨false, u, ⟨#[49]⟩⟩ ⟨true, v, ⟨#[49]⟩⟩ _).mono ?_
    rintro e v16 ⟨rfl, hb⟩
    have D16 := Lib.hid (D15.out.trans (hb.mono D15.out.size))
    have a_16 := Lib.hid (a_15.out.bel hb)
    have b_16 := Lib.hid (b_15.out.bel hb)
    have p_16 := Lib.hid (p_15.out.bel hb)
    have c_16 := Lib.hid (c_15.out.bel hb)
    have d_16 := Lib.hid (d_15.out.bel hb)
    clear D15 a_15 b_15 p_15 c_15 d_15
    clear hb
    rcases E2.out with ⟨d1, q, hq, hqn, hqs⟩ | ⟨d1, hq⟩
    ·
      simp only [hq]; clear hq
      have hqs' : (q.num.size : Int) = (m : Int) + (n : Int) - 1 := by omega
      have c4 : decide ((1001 : Int) < (m : Int) + (n : Int)) = false := decide_eq_false (by omega)
      have c5 : decide (1001 < m + n) = false := decide_eq_false (by omega)
      rw [hqn]
      have dc0 := d_16.out.c0
      have dc1 := d_16.out.c1
      have dc2 := d_16.out.c2
      have dz := blk_lt d_16.out.cells
      have ac0 := a_16.out.c0
      have ac1 := a_16.out.c1
      have ac2 := a_16.out.c2
      have az := blk_lt a_16.out.cells
      go_wp2_with fail
      obtain ⟨B4, hB4⟩ : ∃ B, B = v16.heap.size := ⟨_, rfl⟩
      obtain ⟨W4_0, hW4_0⟩ : ∃ W, W = v16.alloc (Obj.cells #[Value.bool true, Value.string q.num, Value.string q.den] 24) := ⟨_, rfl⟩
      have hb : Below v16.heap.size v16 W4_0 := by rw [hW4_0]; exact (Below.refl _ _).alloc (Nat.le_refl _) _
      have hzW4_0 : v16.heap.size = B4 := by rw [hB4]
      have D17 := Lib.hid (D16.out.trans (hb.mono D16.out.size))
      have a_17 := Lib.hid (a_16.out.bel hb)
      have b_17 := Lib.hid (b_16.out.bel hb)
      have p_17 := Lib.hid (p_16.out.bel hb)
      have c_17 := Lib.hid (c_16.out.bel hb)
      have d_17 := Lib.hid (d_16.out.bel hb)
      clear D16 a_16 b_16 p_16 c_16 d_16
      clear hb
      rw [← hW4_0]
      simp only [← hB4]
      have HW4_0 := Lib.hid hW4_0
      clear hW4_0 hzW4_0
      have HB4 := Lib.hid hB4
      clear hB4
      clear dc0 dc1 dc2 dz ac0 ac1 ac2 az
      refine (pratcmp_any ⟨true, v, ⟨#[49]⟩⟩ ⟨false, r9, ⟨#[49]⟩⟩ _).mono ?_
      rintro e v18 ⟨rfl, hb⟩
      have D18 := Lib.hid (D17.out.trans (hb.mono D17.out.size))
      have a_18 := Lib.hid (a_17.out.bel hb)
      have b_18 := Lib.hid (b_17.out.bel hb)
      have p_18 := Lib.hid (p_17.out.bel hb)
      have c_18 := Lib.hid (c_17.out.bel hb)
      have d_18 := Lib.hid (d_17.out.bel hb)
      clear D17 a_17 b_17 p_17 c_17 d_17
      clear hb
      simp only [E3.out]
      go_wp2_with fail
      go_ret
      exact ⟨rfl, D18.out⟩
    ·
      omega
  ·
    simp only [hp, noRaw]; clear hp
    have c2 : decide ((1000 : Int) < (m : Int) + (n : Int)) = true := decide_eq_true (by omega)
    have c3 : decide (1000 < m + n) = true := decide_eq_true (by omega)
    go_wp2_with fail
    obtain ⟨B2, hB2⟩ : ∃ B, B = v8.heap.size := ⟨_, rfl⟩
    obtain ⟨W2_0, hW2_0⟩ : ∃ W, W = v8.alloc (Obj.cells #[Value.bool false, Value.string ⟨#[]⟩, Value.string ⟨#[]⟩] 24) := ⟨_, rfl⟩
    have hb : Below v8.heap.size v8 W2_0 := by rw [hW2_0]; exact (Below.refl _ _).alloc (Nat.le_refl _) _
    have hzW2_0 : v8.heap.size = B2 := by rw [hB2]
    have D9 := Lib.hid (D8.out.trans (hb.mono D8.out.size))
    have a_9 := Lib.hid (a_8.out.bel hb)
    have b_9 := Lib.hid (b_8.out.bel hb)
    clear D8 a_8 b_8
    clear hb
    rw [← hW2_0]
    simp only [← hB2]
    have HW2_0 := Lib.hid hW2_0
    clear hW2_0 hzW2_0
    have HB2 := Lib.hid hB2
    clear hB2
    clear c2 c3
    refine (prep_0 k _ HK.out.1).mono ?_
    rintro e v10 ⟨rfl, hb⟩
    have D10 := Lib.hid (D9.out.trans (hb.mono D9.out.size))
    have a_10 := Lib.hid (a_9.out.bel hb)
    have b_10 := Lib.hid (b_9.out.bel hb)
    clear D9 a_9 b_9
    clear hb
    simp only [HZ0.out]
    have zs := ZS.out; have hu := HU.out
    go_wp2_with fail
    refine (prat_any _ _ _ _).mono ?_
    rintro e v11 ⟨rfl, hb⟩
    have D11 := Lib.hid (D10.out.trans (hb.mono D10.out.size))
    have a_11 := Lib.hid (a_10.out.bel hb)
    have b_11 := Lib.hid (b_10.out.bel hb)
    clear D10 a_10 b_10
    clear hb
    go_wp2_with fail
    clear zs hu
    refine (prep_0 l _ HK.out.2).mono ?_
    rintro e v12 ⟨rfl, hb⟩
    have D12 := Lib.hid (D11.out.trans (hb.mono D11.out.size))
    have a_12 := Lib.hid (a_11.out.bel hb)
    have b_12 := Lib.hid (b_11.out.bel hb)
    clear D11 a_11 b_11
    clear hb
    simp only [HT0.out]
    have ts := TS.out; have hv := HV.out
    go_wp2_with fail
    refine (prat_any _ _ _ _).mono ?_
    rintro e v13 ⟨rfl, hb⟩
    have D13 := Lib.hid (D12.out.trans (hb.mono D12.out.size))
    have a_13 := Lib.hid (a_12.out.bel hb)
    have b_13 := Lib.hid (b_12.out.bel hb)
    clear D12 a_12 b_12
    clear hb
    go_wp2_with fail
    clear ts hv
    obtain ⟨B3, hB3⟩ : ∃ B, B = v13.heap.size := ⟨_, rfl⟩
    obtain ⟨W3_0, hW3_0⟩ : ∃ W, W = v13.alloc (Obj.cells #[Value.bool false, Value.string u, Value.string ⟨#[49]⟩] 24) := ⟨_, rfl⟩
    have hb : Below v13.heap.size v13 W3_0 := by rw [hW3_0]; exact (Below.refl _ _).alloc (Nat.le_refl _) _
    have hzW3_0 : v13.heap.size = B3 := by rw [hB3]
    have hlW3_0 : RatAt (B3) ⟨false, u, ⟨#[49]⟩⟩ W3_0 := by rw [← hzW3_0, hW3_0]; exact ⟨heap_lastM _ _⟩
    have D14 := Lib.hid (D13.out.trans (hb.mono D13.out.size))
    have a_14 := Lib.hid (a_13.out.bel hb)
    have b_14 := Lib.hid (b_13.out.bel hb)
    clear D13 a_13 b_13
    clear hb
    have c_14 := Lib.hid hlW3_0
    clear hlW3_0
    obtain ⟨W3_1, hW3_1⟩ : ∃ W, W = W3_0.alloc (Obj.cells #[Value.bool true, Value.string v, Value.string ⟨#[49]⟩] 24) := ⟨_, rfl⟩
    have hb : Below W3_0.heap.size W3_0 W3_1 := by rw [hW3_1]; exact (Below.refl _ _).alloc (Nat.le_refl _) _
    have hzW3_1 : W3_0.heap.size = B3 + 1 := by rw [hW3_0]; simp [hzW3_0]
    have hlW3_1 : RatAt (B3 + 1) ⟨true, v, ⟨#[49]⟩⟩ W3_1 := by rw [← hzW3_1, hW3_1]; exact ⟨heap_lastM _ _⟩
    have D15 := Lib.hid (D14.out.trans (hb.mono D14.out.size))
    have a_15 := Lib.hid (a_14.out.bel hb)
    have b_15 := Lib.hid (b_14.out.bel hb)
    have c_15 := Lib.hid (c_14.out.bel hb)
    clear D14 a_14 b_14 c_14
    clear hb
    have d_15 := Lib.hid hlW3_1
    clear hlW3_1
    rw [← hW3_0]
    rw [← hW3_1]
    simp only [← hB3]
    have HW3_0 := Lib.hid hW3_0
    clear hW3_0 hzW3_0
    have HW3_1 := Lib.hid hW3_1
    clear hW3_1 hzW3_1
    have HB3 := Lib.hid hB3
    clear hB3
    refine (pratmul_any ⟨false, u, ⟨#[49]⟩⟩ ⟨true, v, ⟨#[49]⟩⟩ _).mono ?_
    rintro e v16 ⟨rfl, hb⟩
    have D16 := Lib.hid (D15.out.trans (hb.mono D15.out.size))
    have a_16 := Lib.hid (a_15.out.bel hb)
    have b_16 := Lib.hid (b_15.out.bel hb)
    have c_16 := Lib.hid (c_15.out.bel hb)
    have d_16 := Lib.hid (d_15.out.bel hb)
    clear D15 a_15 b_15 c_15 d_15
    clear hb
    rcases E2.out with ⟨d1, q, hq, hqn, hqs⟩ | ⟨d1, hq⟩
    ·
      simp only [hq]; clear hq
      have hqs' : (q.num.size : Int) = (m : Int) + (n : Int) - 1 := by omega
      have c4 : decide ((1001 : Int) < (m : Int) + (n : Int)) = false := decide_eq_false (by omega)
      have c5 : decide (1001 < m + n) = false := decide_eq_false (by omega)
      rw [hqn]
      have dc0 := d_16.out.c0
      have dc1 := d_16.out.c1
      have dc2 := d_16.out.c2
      have dz := blk_lt d_16.out.cells
      have ac0 := a_16.out.c0
      have ac1 := a_16.out.c1
      have ac2 := a_16.out.c2
      have az := blk_lt a_16.out.cells
      go_wp2_with fail
      obtain ⟨B4, hB4⟩ : ∃ B, B = v16.heap.size := ⟨_, rfl⟩
      obtain ⟨W4_0, hW4_0⟩ : ∃ W, W = v16.alloc (Obj.cells #[Value.bool true, Value.string q.num, Value.string q.den] 24) := ⟨_, rfl⟩
      have hb : Below v16.heap.size v16 W4_0 := by rw [hW4_0]; exact (Below.refl _ _).alloc (Nat.le_refl _) _
      have hzW4_0 : v16.heap.size = B4 := by rw [hB4]
      have D17 := Lib.hid (D16.out.trans (hb.mono D16.out.size))
      have a_17 := Lib.hid (a_16.out.bel hb)
      have b_17 := Lib.hid (b_16.out.bel hb)
      have c_17 := Lib.hid (c_16.out.bel hb)
      have d_17 := Lib.hid (d_16.out.bel hb)
      clear D16 a_16 b_16 c_16 d_16
      clear hb
      rw [← hW4_0]
      simp only [← hB4]
      have HW4_0 := Lib.hid hW4_0
      clear hW4_0 hzW4_0
      have HB4 := Lib.hid hB4
      clear hB4
      clear dc0 dc1 dc2 dz ac0 ac1 ac2 az
      refine (pratcmp_any ⟨true, v, ⟨#[49]⟩⟩ ⟨false, r9, ⟨#[49]⟩⟩ _).mono ?_
      rintro e v18 ⟨rfl, hb⟩
      have D18 := Lib.hid (D17.out.trans (hb.mono D17.out.size))
      have a_18 := Lib.hid (a_17.out.bel hb)
      have b_18 := Lib.hid (b_17.out.bel hb)
      have c_18 := Lib.hid (c_17.out.bel hb)
      have d_18 := Lib.hid (d_17.out.bel hb)
      clear D17 a_17 b_17 c_17 d_17
      clear hb
      simp only [E3.out]
      go_wp2_with fail
      go_ret
      exact ⟨rfl, D18.out⟩
    ·
      simp only [hq, noRaw]; clear hq
      have c4 : decide ((1001 : Int) < (m : Int) + (n : Int)) = true := decide_eq_true (by omega)
      have c5 : decide (1001 < m + n) = true := decide_eq_true (by omega)
      have dc0 := d_16.out.c0
      have dc1 := d_16.out.c1
      have dc2 := d_16.out.c2
      have dz := blk_lt d_16.out.cells
      have ac0 := a_16.out.c0
      have ac1 := a_16.out.c1
      have ac2 := a_16.out.c2
      have az := blk_lt a_16.out.cells
      go_wp2_with fail
      obtain ⟨B4, hB4⟩ : ∃ B, B = v16.heap.size := ⟨_, rfl⟩
      obtain ⟨W4_0, hW4_0⟩ : ∃ W, W = v16.alloc (Obj.cells #[Value.bool false, Value.string ⟨#[]⟩, Value.string ⟨#[]⟩] 24) := ⟨_, rfl⟩
      have hb : Below v16.heap.size v16 W4_0 := by rw [hW4_0]; exact (Below.refl _ _).alloc (Nat.le_refl _) _
      have hzW4_0 : v16.heap.size = B4 := by rw [hB4]
      have D17 := Lib.hid (D16.out.trans (hb.mono D16.out.size))
      have a_17 := Lib.hid (a_16.out.bel hb)
      have b_17 := Lib.hid (b_16.out.bel hb)
      have c_17 := Lib.hid (c_16.out.bel hb)
      have d_17 := Lib.hid (d_16.out.bel hb)
      clear D16 a_16 b_16 c_16 d_16
      clear hb
      rw [← hW4_0]
      simp only [← hB4]
      have HW4_0 := Lib.hid hW4_0
      clear hW4_0 hzW4_0
      have HB4 := Lib.hid hB4
      clear hB4
      clear dc0 dc1 dc2 dz ac0 ac1 ac2 az
      refine (pratcmp_any ⟨true, v, ⟨#[49]⟩⟩ ⟨false, r9, ⟨#[49]⟩⟩ _).mono ?_
      rintro e v18 ⟨rfl, hb⟩
      have D18 := Lib.hid (D17.out.trans (hb.mono D17.out.size))
      have a_18 := Lib.hid (a_17.out.bel hb)
      have b_18 := Lib.hid (b_17.out.bel hb)
      have c_18 := Lib.hid (c_17.out.bel hb)
      have d_18 := Lib.hid (d_17.out.bel hb)
      clear D17 a_17 b_17 c_17 d_17
      clear hb
      simp only [E3.out]
      go_wp2_with fail
      go_ret
      exact ⟨rfl, D18.out⟩
end Go.Proofs.YthpghjklnkdmfaaDoor
