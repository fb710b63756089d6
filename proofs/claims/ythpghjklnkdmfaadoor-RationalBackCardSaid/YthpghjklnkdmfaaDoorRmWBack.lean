/-
  The walk of RationalBack.
-/
import Derived.Test.YthpghjklnkdmfaaDoorRmQ
set_option linter.unusedVariables false
set_option maxRecDepth 100000
namespace Go.Proofs.YthpghjklnkdmfaaDoor
open Go.RowKit
open Rt
set_option maxHeartbeats 8000000 in
theorem walkRationalBack (a b : Raw)  (w : World) (ht : TabOk w) (sa : a.num.size ≤ maxLen ∧ a.den.size ≤ maxLen) (sb : b.num.size ≤ maxLen ∧ b.den.size ≤ maxLen)  : Calls Tryd.prog 4 #[.agg #[.bool a.neg, .string a.num, .string a.den], .agg #[.bool b.neg, .string b.num, .string b.den]] w fun e w' => e = .returned (.bool true) ∧ Below w.heap.size w w' := by
  have HT := Lib.hid ht
  have HS : Hid (OkSz [a, b]) := Lib.hid (by intro r hr; simp only [List.mem_cons, List.not_mem_nil, or_false] at hr; rcases hr with rfl | rfl <;> assumption)
  clear ht sa sb
  have D0 := Lib.hid (Below.refl w.heap.size w)
  go_enter Tryd.func4, Tryd.ntmps4
  go_wp2_with fail
  obtain ⟨B1, hB1⟩ : ∃ B, B = w.heap.size := ⟨_, rfl⟩
  obtain ⟨W1_0, hW1_0⟩ : ∃ W, W = w.alloc (Obj.cells #[Value.bool a.neg, Value.string a.num, Value.string a.den] 24) := ⟨_, rfl⟩
  have hb : Below w.heap.size w W1_0 := by rw [hW1_0]; exact (Below.refl _ _).alloc (Nat.le_refl _) _
  have hzW1_0 : w.heap.size = B1 := by rw [hB1]
  have hlW1_0 : RatAt (B1) a W1_0 := by rw [← hzW1_0, hW1_0]; exact ⟨heap_lastM _ _⟩
  have D1 := Lib.hid (D0.out.trans (hb.mono D0.out.size))
  clear hb
  have a_1 := Lib.hid hlW1_0
  clear hlW1_0
  obtain ⟨W1_1, hW1_1⟩ : ∃ W, W = W1_0.alloc (Obj.cells #[Value.bool b.neg, Value.string b.num, Value.string b.den] 24) := ⟨_, rfl⟩
  have hb : Below W1_0.heap.size W1_0 W1_1 := by rw [hW1_1]; exact (Below.refl _ _).alloc (Nat.le_refl _) _
  have hzW1_1 : W1_0.heap.size = B1 + 1 := by rw [hW1_0]; simp [hzW1_0]
  have hlW1_1 : RatAt (B1 + 1) b W1_1 := by rw [← hzW1_1, hW1_1]; exact ⟨heap_lastM _ _⟩
  have D2 := Lib.hid (D1.out.trans (hb.mono D1.out.size))
  have a_2 := Lib.hid (a_1.out.bel hb)
  clear D1 a_1
  clear hb
  have b_2 := Lib.hid hlW1_1
  clear hlW1_1
  rw [← hW1_0]
  rw [← hW1_1]
  simp only [← hB1]
  have HW1_0 := Lib.hid hW1_0
  clear hW1_0 hzW1_0
  have HW1_1 := Lib.hid hW1_1
  clear hW1_1 hzW1_1
  have HB1 := Lib.hid hB1
  clear hB1
  refine (head4_any _ (HT.out.below D2.out)).mono ?_
  rintro e v3 ⟨rfl, hb⟩
  have D3 := Lib.hid (D2.out.trans (hb.mono D2.out.size))
  have a_3 := Lib.hid (a_2.out.bel hb)
  have b_3 := Lib.hid (b_2.out.bel hb)
  clear D2 a_2 b_2
  clear hb
  have ac0 := a_3.out.c0
  have ac1 := a_3.out.c1
  have ac2 := a_3.out.c2
  have az := blk_lt a_3.out.cells
  have bc0 := b_3.out.c0
  have bc1 := b_3.out.c1
  have bc2 := b_3.out.c2
  have bz := blk_lt b_3.out.cells
  go_wp2_with fail
  clear ac0 ac1 ac2 az bc0 bc1 bc2 bz
  refine (few4_two _ a b HS.out).mono ?_
  rintro e v4 ⟨rfl, hb⟩
  have D4 := Lib.hid (D3.out.trans (hb.mono D3.out.size))
  have a_4 := Lib.hid (a_3.out.bel hb)
  have b_4 := Lib.hid (b_3.out.bel hb)
  clear D3 a_3 b_3
  clear hb
  rcases Bool.eq_false_or_eq_true (fewR [a, b]) with hp | hp
  rotate_left
  ·
    simp only [hp]
    go_wp2_with fail
    go_ret
    exact ⟨rfl, D4.out⟩
  simp only [hp]
  have HF := Lib.hid hp; clear hp
  have ac0 := a_4.out.c0
  have ac1 := a_4.out.c1
  have ac2 := a_4.out.c2
  have bc0 := b_4.out.c0
  have bc1 := b_4.out.c1
  have bc2 := b_4.out.c2
  go_wp2_with fail
  clear ac0 ac1 ac2 bc0 bc1 bc2
  refine (pratvalid_any a _).mono ?_
  rintro e v5 ⟨rfl, hb⟩
  have D5 := Lib.hid (D4.out.trans (hb.mono D4.out.size))
  have a_5 := Lib.hid (a_4.out.bel hb)
  have b_5 := Lib.hid (b_4.out.bel hb)
  clear D4 a_4 b_4
  clear hb
  rcases Bool.eq_false_or_eq_true (okR a) with hp | hp
  rotate_left
  ·
    simp only [hp]
    go_wp2_with fail
    go_ret
    exact ⟨rfl, D5.out⟩
  simp only [hp]
  have HA := Lib.hid hp; clear hp
  have ac0 := a_5.out.c0
  have ac1 := a_5.out.c1
  have ac2 := a_5.out.c2
  have bc0 := b_5.out.c0
  have bc1 := b_5.out.c1
  have bc2 := b_5.out.c2
  go_wp2_with fail
  clear ac0 ac1 ac2 bc0 bc1 bc2
  refine (pratvalid_any b _).mono ?_
  rintro e v6 ⟨rfl, hb⟩
  have D6 := Lib.hid (D5.out.trans (hb.mono D5.out.size))
  have a_6 := Lib.hid (a_5.out.bel hb)
  have b_6 := Lib.hid (b_5.out.bel hb)
  clear D5 a_5 b_5
  clear hb
  rcases Bool.eq_false_or_eq_true (okR b) with hp | hp
  rotate_left
  ·
    simp only [hp]
    go_wp2_with fail
    go_ret
    exact ⟨rfl, D6.out⟩
  simp only [hp]
  have HB := Lib.hid hp; clear hp
  obtain ⟨s, p, e1, e2, e3, e4, e5⟩ := back_pure HA.out HB.out (few_two HF.out).1 (few_two HF.out).2
  have E1 := Lib.hid e1; clear e1
  have E2 := Lib.hid e2; clear e2
  have E3 := Lib.hid e3; clear e3
  have E4 := Lib.hid e4; clear e4
  have E5 := Lib.hid e5; clear e5
  have ac0 := a_6.out.c0
  have ac1 := a_6.out.c1
  have ac2 := a_6.out.c2
  have bc0 := b_6.out.c0
  have bc1 := b_6.out.c1
  have bc2 := b_6.out.c2
  go_wp2_with fail
  clear ac0 ac1 ac2 bc0 bc1 bc2
  refine (pratadd_any a b _).mono ?_
  rintro e v7 ⟨rfl, hb⟩
  have D7 := Lib.hid (D6.out.trans (hb.mono D6.out.size))
  have a_7 := Lib.hid (a_6.out.bel hb)
  have b_7 := Lib.hid (b_6.out.bel hb)
  clear D6 a_6 b_6
  clear hb
  simp only [E1.out]
  have bc0 := b_7.out.c0
  have bc1 := b_7.out.c1
  have bc2 := b_7.out.c2
  have bz := blk_lt b_7.out.cells
  go_wp2_with fail
  obtain ⟨B2, hB2⟩ : ∃ B, B = v7.heap.size := ⟨_, rfl⟩
  obtain ⟨W2_0, hW2_0⟩ : ∃ W, W = v7.alloc (Obj.cells #[Value.bool s.neg, Value.string s.num, Value.string s.den] 24) := ⟨_, rfl⟩
  have hb : Below v7.heap.size v7 W2_0 := by rw [hW2_0]; exact (Below.refl _ _).alloc (Nat.le_refl _) _
  have hzW2_0 : v7.heap.size = B2 := by rw [hB2]
  have hlW2_0 : RatAt (B2) s W2_0 := by rw [← hzW2_0, hW2_0]; exact ⟨heap_lastM _ _⟩
  have D8 := Lib.hid (D7.out.trans (hb.mono D7.out.size))
  have a_8 := Lib.hid (a_7.out.bel hb)
  have b_8 := Lib.hid (b_7.out.bel hb)
  clear D7 a_7 b_7
  clear hb
  have s_8 := Lib.hid hlW2_0
  clear hlW2_0
  rw [← hW2_0]
  simp only [← hB2]
  have HW2_0 := Lib.hid hW2_0
  clear hW2_0 hzW2_0
  have HB2 := Lib.hid hB2
  clear hB2
  clear bc0 bc1 bc2 bz
  refine (pratsub_any s b _).mono ?_
  rintro e v9 ⟨rfl, hb⟩
  have D9 := Lib.hid (D8.out.trans (hb.mono D8.out.size))
  have a_9 := Lib.hid (a_8.out.bel hb)
  have b_9 := Lib.hid (b_8.out.bel hb)
  have s_9 := Lib.hid (s_8.out.bel hb)
  clear D8 a_8 b_8 s_8
  clear hb
  simp only [E2.out]
  have ac0 := a_9.out.c0
  have ac1 := a_9.out.c1
  have ac2 := a_9.out.c2
  have az := blk_lt a_9.out.cells
  go_wp2_with fail
  obtain ⟨B3, hB3⟩ : ∃ B, B = v9.heap.size := ⟨_, rfl⟩
  obtain ⟨W3_0, hW3_0⟩ : ∃ W, W = v9.alloc (Obj.cells #[Value.bool a.neg, Value.string a.num, Value.string a.den] 24) := ⟨_, rfl⟩
  have hb : Below v9.heap.size v9 W3_0 := by rw [hW3_0]; exact (Below.refl _ _).alloc (Nat.le_refl _) _
  have hzW3_0 : v9.heap.size = B3 := by rw [hB3]
  have hlW3_0 : RatAt (B3) a W3_0 := by rw [← hzW3_0, hW3_0]; exact ⟨heap_lastM _ _⟩
  have D10 := Lib.hid (D9.out.trans (hb.mono D9.out.size))
  have a_10 := Lib.hid (a_9.out.bel hb)
  have b_10 := Lib.hid (b_9.out.bel hb)
  have s_10 := Lib.hid (s_9.out.bel hb)
  clear D9 a_9 b_9 s_9
  clear hb
  have x_10 := Lib.hid hlW3_0
  clear hlW3_0
  rw [← hW3_0]
  simp only [← hB3]
  have HW3_0 := Lib.hid hW3_0
  clear hW3_0 hzW3_0
  have HB3 := Lib.hid hB3
  clear hB3
  clear ac0 ac1 ac2 az
  refine (pratsub_any a a _).mono ?_
  rintro e v11 ⟨rfl, hb⟩
  have D11 := Lib.hid (D10.out.trans (hb.mono D10.out.size))
  have a_11 := Lib.hid (a_10.out.bel hb)
  have b_11 := Lib.hid (b_10.out.bel hb)
  have s_11 := Lib.hid (s_10.out.bel hb)
  have x_11 := Lib.hid (x_10.out.bel hb)
  clear D10 a_10 b_10 s_10 x_10
  clear hb
  simp only [E3.out]
  have ac0 := a_11.out.c0
  have ac1 := a_11.out.c1
  have ac2 := a_11.out.c2
  have az := blk_lt a_11.out.cells
  have bc0 := b_11.out.c0
  have bc1 := b_11.out.c1
  have bc2 := b_11.out.c2
  have bz := blk_lt b_11.out.cells
  go_wp2_with fail
  obtain ⟨B4, hB4⟩ : ∃ B, B = v11.heap.size := ⟨_, rfl⟩
  obtain ⟨W4_0, hW4_0⟩ : ∃ W, W = v11.alloc (Obj.cells #[Value.bool false, Value.string ⟨#[48]⟩, Value.string ⟨#[49]⟩] 24) := ⟨_, rfl⟩
  have hb : Below v11.heap.size v11 W4_0 := by rw [hW4_0]; exact (Below.refl _ _).alloc (Nat.le_refl _) _
  have hzW4_0 : v11.heap.size = B4 := by rw [hB4]
  have hlW4_0 : RatAt (B4) zeroR W4_0 := by rw [← hzW4_0, hW4_0]; exact ⟨heap_lastM _ _⟩
  have D12 := Lib.hid (D11.out.trans (hb.mono D11.out.size))
  have a_12 := Lib.hid (a_11.out.bel hb)
  have b_12 := Lib.hid (b_11.out.bel hb)
  have s_12 := Lib.hid (s_11.out.bel hb)
  have x_12 := Lib.hid (x_11.out.bel hb)
  clear D11 a_11 b_11 s_11 x_11
  clear hb
  have zero_12 := Lib.hid hlW4_0
  clear hlW4_0
  rw [← hW4_0]
  simp only [← hB4]
  have HW4_0 := Lib.hid hW4_0
  clear hW4_0 hzW4_0
  have HB4 := Lib.hid hB4
  clear hB4
  clear ac0 ac1 ac2 az bc0 bc1 bc2 bz
  refine (pratmul_any a b _).mono ?_
  rintro e v13 ⟨rfl, hb⟩
  have D13 := Lib.hid (D12.out.trans (hb.mono D12.out.size))
  have a_13 := Lib.hid (a_12.out.bel hb)
  have b_13 := Lib.hid (b_12.out.bel hb)
  have s_13 := Lib.hid (s_12.out.bel hb)
  have x_13 := Lib.hid (x_12.out.bel hb)
  have zero_13 := Lib.hid (zero_12.out.bel hb)
  clear D12 a_12 b_12 s_12 x_12 zero_12
  clear hb
  simp only [E4.out]
  go_wp2_with fail
  obtain ⟨B5, hB5⟩ : ∃ B, B = v13.heap.size := ⟨_, rfl⟩
  obtain ⟨W5_0, hW5_0⟩ : ∃ W, W = v13.alloc (Obj.cells #[Value.bool p.neg, Value.string p.num, Value.string p.den] 24) := ⟨_, rfl⟩
  have hb : Below v13.heap.size v13 W5_0 := by rw [hW5_0]; exact (Below.refl _ _).alloc (Nat.le_refl _) _
  have hzW5_0 : v13.heap.size = B5 := by rw [hB5]
  have hlW5_0 : RatAt (B5) p W5_0 := by rw [← hzW5_0, hW5_0]; exact ⟨heap_lastM _ _⟩
  have D14 := Lib.hid (D13.out.trans (hb.mono D13.out.size))
  have a_14 := Lib.hid (a_13.out.bel hb)
  have b_14 := Lib.hid (b_13.out.bel hb)
  have s_14 := Lib.hid (s_13.out.bel hb)
  have x_14 := Lib.hid (x_13.out.bel hb)
  have zero_14 := Lib.hid (zero_13.out.bel hb)
  clear D13 a_13 b_13 s_13 x_13 zero_13
  clear hb
  have p_14 := Lib.hid hlW5_0
  clear hlW5_0
  rw [← hW5_0]
  simp only [← hB5]
  have HW5_0 := Lib.hid hW5_0
  clear hW5_0 hzW5_0
  have HB5 := Lib.hid hB5
  clear hB5
  have Q1 : ∀ w, (binOp .neq 24 (.agg #[.bool a.neg, .string a.num, .string a.den]) (.agg #[.bool a.neg, .string a.num, .string a.den])).run Tryd.prog w = .ok (.bool false) w := fun w => by have := run_neq_rat a a w; rwa [sameR_iff.2 rfl] at this
  have Q2 : ∀ w, (binOp .neq 24 (.agg #[.bool false, .string ⟨#[48]⟩, .string ⟨#[49]⟩]) (.agg #[.bool false, .string ⟨#[48]⟩, .string ⟨#[49]⟩])).run Tryd.prog w = .ok (.bool false) w := fun w => by have := run_neq_rat zeroR zeroR w; rwa [sameR_iff.2 rfl] at this
  go_upto_region 8 with fail
  go_cut [80] (fun s80 wx => s80 = .bool false ∧ Hid (Below W5_0.heap.size W5_0 wx))
  case first =>
    go_region_held3 (fun w' => Below W5_0.heap.size W5_0 w' ∧ w'.cell? ⟨B3, 0, none⟩ = some (.bool (a).neg) ∧ w'.cell? ⟨B3, 1, none⟩ = some (.string (a).num) ∧ w'.cell? ⟨B3, 2, none⟩ = some (.string (a).den) ∧ w'.cell? ⟨B1, 0, none⟩ = some (.bool (a).neg) ∧ w'.cell? ⟨B1, 1, none⟩ = some (.string (a).num) ∧ w'.cell? ⟨B1, 2, none⟩ = some (.string (a).den) ∧ w'.cell? ⟨B4, 0, none⟩ = some (.bool (zeroR).neg) ∧ w'.cell? ⟨B4, 1, none⟩ = some (.string (zeroR).num) ∧ w'.cell? ⟨B4, 2, none⟩ = some (.string (zeroR).den)) (first | (with_reducible assumption) | exact startn3 x_14.out a_14.out zero_14.out | exact next3 (by assumption) (by assumption) | exact next3 ((Below.refl _ _).alloc (Nat.le_refl _) _) (by assumption)) (first | (go_at_call 17; ((with_reducible refine (prat_any false ⟨#[48]⟩ ⟨#[49]⟩ _).mono ?_); rintro e y1 ⟨rfl, hby1⟩)) | fail "no arm")
    all_goals (go_wp2_with fail; go_meet; exact ⟨rfl, Lib.hid (And.left (by assumption))⟩)
  case rest =>
    obtain ⟨rfl, hcutB⟩ := hcut
    have D15 := Lib.hid (D14.out.trans (hcutB.out.mono D14.out.size))
    have a_15 := Lib.hid (a_14.out.bel hcutB.out)
    have b_15 := Lib.hid (b_14.out.bel hcutB.out)
    have s_15 := Lib.hid (s_14.out.bel hcutB.out)
    have x_15 := Lib.hid (x_14.out.bel hcutB.out)
    have zero_15 := Lib.hid (zero_14.out.bel hcutB.out)
    have p_15 := Lib.hid (p_14.out.bel hcutB.out)
    clear D14 a_14 b_14 s_14 x_14 zero_14 p_14
    clear hcutB
    obtain ⟨wc8, hnm⟩ : ∃ x, x = wc := ⟨_, rfl⟩
    subst hnm
    clear Q1 Q2
    have pc0 := p_15.out.c0
    have pc1 := p_15.out.c1
    have pc2 := p_15.out.c2
    have bc0 := b_15.out.c0
    have bc1 := b_15.out.c1
    have bc2 := b_15.out.c2
    go_wp2_with fail
    clear pc0 pc1 pc2 bc0 bc1 bc2
    refine (pratdiv_any p b _).mono ?_
    rintro e v16 ⟨rfl, hb⟩
    have D16 := Lib.hid (D15.out.trans (hb.mono D15.out.size))
    have a_16 := Lib.hid (a_15.out.bel hb)
    have b_16 := Lib.hid (b_15.out.bel hb)
    have s_16 := Lib.hid (s_15.out.bel hb)
    have x_16 := Lib.hid (x_15.out.bel hb)
    have zero_16 := Lib.hid (zero_15.out.bel hb)
    have p_16 := Lib.hid (p_15.out.bel hb)
    clear D15 a_15 b_15 s_15 x_15 zero_15 p_15
    clear hb
    rcases E5.out with ⟨hb0, hp0, hd⟩ | ⟨hb0, hd⟩
    ·
      have Q3 : ∀ w, (binOp .eql 24 (.agg #[.bool b.neg, .string b.num, .string b.den]) (.agg #[.bool false, .string ⟨#[48]⟩, .string ⟨#[49]⟩])).run Tryd.prog w = .ok (.bool true) w := fun w => by have := run_eql_rat b zeroR w; rwa [sameR_iff.2 hb0] at this
      have Q4 : ∀ w, (binOp .eql 24 (.agg #[.bool p.neg, .string p.num, .string p.den]) (.agg #[.bool false, .string ⟨#[48]⟩, .string ⟨#[49]⟩])).run Tryd.prog w = .ok (.bool true) w := fun w => by have := run_eql_rat p zeroR w; rwa [sameR_iff.2 hp0] at this
      simp only [hd, noRaw]
      clear hd hb0 hp0 E5
      have bc0 := b_16.out.c0
      have bc1 := b_16.out.c1
      have bc2 := b_16.out.c2
      have bz := blk_lt b_16.out.cells
      have zeroc0 := zero_16.out.c0
      have zeroc1 := zero_16.out.c1
      have zeroc2 := zero_16.out.c2
      have zeroz := blk_lt zero_16.out.cells
      have pc0 := p_16.out.c0
      have pc1 := p_16.out.c1
      have pc2 := p_16.out.c2
      have pz := blk_lt p_16.out.cells
      have ac0 := a_16.out.c0
      have ac1 := a_16.out.c1
      have ac2 := a_16.out.c2
      have az := blk_lt a_16.out.cells
      go_wp2_with fail
      go_ret
      exact ⟨rfl, D16.out.alloc D16.out.size _⟩
    ·
      have Q3 : ∀ w, (binOp .eql 24 (.agg #[.bool b.neg, .string b.num, .string b.den]) (.agg #[.bool false, .string ⟨#[48]⟩, .string ⟨#[49]⟩])).run Tryd.prog w = .ok (.bool false) w := fun w => by have := run_eql_rat b zeroR w; rwa [Bool.eq_false_iff.2 (fun h => hb0 (sameR_iff.1 h))] at this
      have Q4 : ∀ w, (binOp .eql 24 (.agg #[.bool a.neg, .string a.num, .string a.den]) (.agg #[.bool a.neg, .string a.num, .string a.den])).run Tryd.prog w = .ok (.bool true) w := fun w => by have := run_eql_rat a a w; rwa [sameR_iff.2 rfl] at this
      simp only [hd]
      clear hd hb0 E5
      have bc0 := b_16.out.c0
      have bc1 := b_16.out.c1
      have bc2 := b_16.out.c2
      have bz := blk_lt b_16.out.cells
      have zeroc0 := zero_16.out.c0
      have zeroc1 := zero_16.out.c1
      have zeroc2 := zero_16.out.c2
      have zeroz := blk_lt zero_16.out.cells
      have pc0 := p_16.out.c0
      have pc1 := p_16.out.c1
      have pc2 := p_16.out.c2
      have pz := blk_lt p_16.out.cells
      have ac0 := a_16.out.c0
      have ac1 := a_16.out.c1
      have ac2 := a_16.out.c2
      have az := blk_lt a_16.out.cells
      go_wp2_with fail
      go_ret
      exact ⟨rfl, D16.out.alloc D16.out.size _⟩
end Go.Proofs.YthpghjklnkdmfaaDoor
