/-
  The walk of RationalTexts.
-/
import Derived.Test.YthpghjklnkdmfaaDoorRmQ
set_option linter.unusedVariables false
set_option maxRecDepth 100000
namespace Go.Proofs.YthpghjklnkdmfaaDoor
open Go.RowKit
open Rt
set_option maxHeartbeats 8000000 in
theorem walkRationalTexts (a b : Raw) (t : ByteArray) (w : World) (ht : TabOk w) (sa : a.num.size ≤ maxLen ∧ a.den.size ≤ maxLen) (sb : b.num.size ≤ maxLen ∧ b.den.size ≤ maxLen) (st : t.size ≤ maxLen) : Calls Tryd.prog 6 #[.agg #[.bool a.neg, .string a.num, .string a.den], .agg #[.bool b.neg, .string b.num, .string b.den], .string t] w fun e w' => e = .returned (.bool true) ∧ Below w.heap.size w w' := by
  have HT := Lib.hid ht
  have HS : Hid (OkSz [a, b]) := Lib.hid (by intro r hr; simp only [List.mem_cons, List.not_mem_nil, or_false] at hr; rcases hr with rfl | rfl <;> assumption)
  have ST := Lib.hid st
  clear ht sa sb st
  have D0 := Lib.hid (Below.refl w.heap.size w)
  go_enter Tryd.func6, Tryd.ntmps6
  go_wp2_with fail
  obtain ⟨B1, hB1⟩ : ∃ B, B = w.heap.size := ⟨_, rfl⟩
  obtain ⟨W1_0, hW1_0⟩ : ∃ W, W = w.alloc (Obj.cells #[Value.bool a.neg, Value.string a.num, Value.string a.den] 24) := ⟨_, rfl⟩
  have hb : Below w.heap.size w W1_0 := by rw [hW1_0]; exact (Below.refl _ _).alloc (Nat.le_refl _) _
  have hzW1_0 : w.heap.size = B1 := by rw [hB1]
  have hlW1_0 : RatAt (B1) a W1_0 := by rw [← hzW1_0, hW1_0]; exact ⟨heap_lastM _ _⟩
  have D1 := Lib.hid (D0.out.trans (hb.mono D0.out.size))
  clear hb
  have a_1 := Lib.hid hlW1_0
  clear hlW1_0
  obtain ⟨W1_1, hW1_1⟩ : ∃ W, W = W1_0.alloc (Obj.cells #[Value.bool b.neg, Value.string b.num, Value.string b.den] 24) := ⟨_, rfl⟩
  have hb : Below W1_0.heap.size W1_0 W1_1 := by rw [hW1_1]; exact (Below.refl _ _).alloc (Nat.le_refl _) _
  have hzW1_1 : W1_0.heap.size = B1 + 1 := by rw [hW1_0]; simp [hzW1_0]
  have hlW1_1 : RatAt (B1 + 1) b W1_1 := by rw [← hzW1_1, hW1_1]; exact ⟨heap_lastM _ _⟩
  have D2 := Lib.hid (D1.out.trans (hb.mono D1.out.size))
  have a_2 := Lib.hid (a_1.out.bel hb)
  clear D1 a_1
  clear hb
  have b_2 := Lib.hid hlW1_1
  clear hlW1_1
  rw [← hW1_0]
  rw [← hW1_1]
  simp only [← hB1]
  have HW1_0 := Lib.hid hW1_0
  clear hW1_0 hzW1_0
  have HW1_1 := Lib.hid hW1_1
  clear hW1_1 hzW1_1
  have HB1 := Lib.hid hB1
  clear hB1
  refine (head4_any _ (HT.out.below D2.out)).mono ?_
  rintro e v3 ⟨rfl, hb⟩
  have D3 := Lib.hid (D2.out.trans (hb.mono D2.out.size))
  have a_3 := Lib.hid (a_2.out.bel hb)
  have b_3 := Lib.hid (b_2.out.bel hb)
  clear D2 a_2 b_2
  clear hb
  have ac0 := a_3.out.c0
  have ac1 := a_3.out.c1
  have ac2 := a_3.out.c2
  have az := blk_lt a_3.out.cells
  have bc0 := b_3.out.c0
  have bc1 := b_3.out.c1
  have bc2 := b_3.out.c2
  have bz := blk_lt b_3.out.cells
  go_wp2_with fail
  clear ac0 ac1 ac2 az bc0 bc1 bc2 bz
  refine (few4_two _ a b HS.out).mono ?_
  rintro e v4 ⟨rfl, hb⟩
  have D4 := Lib.hid (D3.out.trans (hb.mono D3.out.size))
  have a_4 := Lib.hid (a_3.out.bel hb)
  have b_4 := Lib.hid (b_3.out.bel hb)
  clear D3 a_3 b_3
  clear hb
  rcases Bool.eq_false_or_eq_true (fewR [a, b]) with hp | hp
  rotate_left
  ·
    simp only [hp]
    go_wp2_with fail
    go_ret
    exact ⟨rfl, D4.out⟩
  simp only [hp]
  have HF := Lib.hid hp; clear hp
  rcases Bool.eq_false_or_eq_true (decide (90 < t.size)) with hq | hq
  ·
    have hq2 : decide ((90 : Int) < (t.size : Int)) = true := decide_eq_true (by have := of_decide_eq_true hq; omega)
    have ac0 := a_4.out.c0
    have ac1 := a_4.out.c1
    have ac2 := a_4.out.c2
    have bc0 := b_4.out.c0
    have bc1 := b_4.out.c1
    have bc2 := b_4.out.c2
    go_wp2_with fail
    go_ret
    exact ⟨rfl, D4.out⟩
  ·
    have hq2 : decide ((90 : Int) < (t.size : Int)) = false := decide_eq_false (by have := of_decide_eq_false hq; omega)
    have ac0 := a_4.out.c0
    have ac1 := a_4.out.c1
    have ac2 := a_4.out.c2
    have bc0 := b_4.out.c0
    have bc1 := b_4.out.c1
    have bc2 := b_4.out.c2
    go_wp2_with fail
    clear ac0 ac1 ac2 bc0 bc1 bc2
    have HQ := Lib.hid hq; clear hq hq2
    rcases Bool.eq_false_or_eq_true (okR a) with ha | ha
    ·
      obtain ⟨s, hs, hp, hz⟩ := text_ok ha
      have HSA := Lib.hid hs; have HP := Lib.hid hp; have HZ := Lib.hid hz; clear hs hp hz
      have HA := Lib.hid ha; clear ha
      refine (prattext_any a _).mono ?_
      rintro e v5 ⟨rfl, hb⟩
      have D5 := Lib.hid (D4.out.trans (hb.mono D4.out.size))
      have a_5 := Lib.hid (a_4.out.bel hb)
      have b_5 := Lib.hid (b_4.out.bel hb)
      clear D4 a_4 b_4
      clear hb
      simp only [HSA.out]
      have bc0 := b_5.out.c0
      have bc1 := b_5.out.c1
      have bc2 := b_5.out.c2
      go_wp2_with fail
      clear bc0 bc1 bc2
      refine (prattext_any b _).mono ?_
      rintro e v6 ⟨rfl, hb⟩
      have D6 := Lib.hid (D5.out.trans (hb.mono D5.out.size))
      have a_6 := Lib.hid (a_5.out.bel hb)
      have b_6 := Lib.hid (b_5.out.bel hb)
      clear D5 a_5 b_5
      clear hb
      rcases Bool.eq_false_or_eq_true (okR b) with hb | hb
      ·
        obtain ⟨u, hu, -, -⟩ := text_ok hb
        have hsame : s = u ↔ a = b := by have := text_same HA.out hb; rwa [HSA.out, hu] at this
        have HU := Lib.hid hu; clear hu hb
        simp only [HU.out]
        by_cases hab : a = b
        ·
          have hstr : Hid ((s.toList == u.toList) = true) := Lib.hid (by rw [str_beq]; exact decide_eq_true (hsame.2 hab))
          have hrat : Hid (sameR a b = true) := Lib.hid (sameR_iff.2 hab)
          clear hab hsame
          have ac0 := a_6.out.c0
          have ac1 := a_6.out.c1
          have ac2 := a_6.out.c2
          go_wp2_with fail
          clear ac0 ac1 ac2
          refine (pratvalid_any a _).mono ?_
          rintro e v7 ⟨rfl, hb⟩
          have D7 := Lib.hid (D6.out.trans (hb.mono D6.out.size))
          have a_7 := Lib.hid (a_6.out.bel hb)
          have b_7 := Lib.hid (b_6.out.bel hb)
          clear D6 a_6 b_6
          clear hb
          simp only [HA.out]
          go_wp2_with fail
          refine (pratparse_any s _ HZ.out).mono ?_
          rintro e v8 ⟨rfl, hb⟩
          have D8 := Lib.hid (D7.out.trans (hb.mono D7.out.size))
          have a_8 := Lib.hid (a_7.out.bel hb)
          have b_8 := Lib.hid (b_7.out.bel hb)
          clear D7 a_7 b_7
          clear hb
          simp only [HP.out]
          have Q1 : ∀ w, (binOp .neq 24 (.agg #[.bool a.neg, .string a.num, .string a.den]) (.agg #[.bool a.neg, .string a.num, .string a.den])).run Tryd.prog w = .ok (.bool false) w := fun w => by have := run_neq_rat a a w; rwa [sameR_iff.2 rfl] at this
          have Q2 : ∀ w, (binOp .eql 24 (.agg #[.bool a.neg, .string a.num, .string a.den]) (.agg #[.bool b.neg, .string b.num, .string b.den])).run Tryd.prog w = .ok (.bool true) w := fun w => by have := run_eql_rat a b w; rwa [hrat.out] at this
          have Q3 := hstr.out
          have ac0 := a_8.out.c0
          have ac1 := a_8.out.c1
          have ac2 := a_8.out.c2
          have az := blk_lt a_8.out.cells
          have bc0 := b_8.out.c0
          have bc1 := b_8.out.c1
          have bc2 := b_8.out.c2
          have bz := blk_lt b_8.out.cells
          go_wp2_with fail
          obtain ⟨B2, hB2⟩ : ∃ B, B = v8.heap.size := ⟨_, rfl⟩
          obtain ⟨W2_0, hW2_0⟩ : ∃ W, W = v8.alloc (Obj.cells #[Value.bool a.neg, Value.string a.num, Value.string a.den] 24) := ⟨_, rfl⟩
          have hb : Below v8.heap.size v8 W2_0 := by rw [hW2_0]; exact (Below.refl _ _).alloc (Nat.le_refl _) _
          have hzW2_0 : v8.heap.size = B2 := by rw [hB2]
          have hlW2_0 : RatAt (B2) a W2_0 := by rw [← hzW2_0, hW2_0]; exact ⟨heap_lastM _ _⟩
          have D9 := Lib.hid (D8.out.trans (hb.mono D8.out.size))
          have a_9 := Lib.hid (a_8.out.bel hb)
          have b_9 := Lib.hid (b_8.out.bel hb)
          clear D8 a_8 b_8
          clear hb
          have x_9 := Lib.hid hlW2_0
          clear hlW2_0
          rw [← hW2_0]
          simp only [← hB2]
          have HW2_0 := Lib.hid hW2_0
          clear hW2_0 hzW2_0
          have HB2 := Lib.hid hB2
          clear hB2
          clear ac0 ac1 ac2 az bc0 bc1 bc2 bz
          clear Q1 Q2 Q3
          refine (pratparse_any t _ ST.out).mono ?_
          rintro e v10 ⟨rfl, hb⟩
          have D10 := Lib.hid (D9.out.trans (hb.mono D9.out.size))
          have a_10 := Lib.hid (a_9.out.bel hb)
          have b_10 := Lib.hid (b_9.out.bel hb)
          have x_10 := Lib.hid (x_9.out.bel hb)
          clear D9 a_9 b_9 x_9
          clear hb
          rcases parse_cases t with ⟨y, hy, hz⟩ | hy
          ·
            have HZ := Lib.hid hz; clear hz
            simp only [hy]; clear hy
            go_wp2_with fail
            obtain ⟨B3, hB3⟩ : ∃ B, B = v10.heap.size := ⟨_, rfl⟩
            obtain ⟨W3_0, hW3_0⟩ : ∃ W, W = v10.alloc (Obj.cells #[Value.bool y.neg, Value.string y.num, Value.string y.den] 24) := ⟨_, rfl⟩
            have hb : Below v10.heap.size v10 W3_0 := by rw [hW3_0]; exact (Below.refl _ _).alloc (Nat.le_refl _) _
            have hzW3_0 : v10.heap.size = B3 := by rw [hB3]
            have hlW3_0 : RatAt (B3) y W3_0 := by rw [← hzW3_0, hW3_0]; exact ⟨heap_lastM _ _⟩
            have D11 := Lib.hid (D10.out.trans (hb.mono D10.out.size))
            have a_11 := Lib.hid (a_10.out.bel hb)
            have b_11 := Lib.hid (b_10.out.bel hb)
            have x_11 := Lib.hid (x_10.out.bel hb)
            clear D10 a_10 b_10 x_10
            clear hb
            have y_11 := Lib.hid hlW3_0
            clear hlW3_0
            rw [← hW3_0]
            simp only [← hB3]
            have HW3_0 := Lib.hid hW3_0
            clear hW3_0 hzW3_0
            have HB3 := Lib.hid hB3
            clear hB3
            refine (prattext_any y _).mono ?_
            rintro e v12 ⟨rfl, hb⟩
            have D12 := Lib.hid (D11.out.trans (hb.mono D11.out.size))
            have a_12 := Lib.hid (a_11.out.bel hb)
            have b_12 := Lib.hid (b_11.out.bel hb)
            have x_12 := Lib.hid (x_11.out.bel hb)
            have y_12 := Lib.hid (y_11.out.bel hb)
            clear D11 a_11 b_11 x_11 y_11
            clear hb
            simp only [HZ.out]
            have Q9 : (t.toList == t.toList) = true := by simp
            go_wp2_with fail
            go_ret
            exact ⟨rfl, D12.out⟩
          ·
            have Q8 : ∀ w, (binOp .eql 24 (.agg #[.bool false, .string ⟨#[]⟩, .string ⟨#[]⟩]) (.agg #[.bool false, .string ⟨#[]⟩, .string ⟨#[]⟩])).run Tryd.prog w = .ok (.bool true) w := fun w => by have := run_eql_rat noRaw noRaw w; rwa [sameR_iff.2 rfl] at this
            simp only [hy, noRaw]; clear hy
            go_wp2_with fail
            go_ret
            exact ⟨rfl, D10.out.alloc D10.out.size _⟩
        ·
          have hstr : Hid ((s.toList == u.toList) = false) := Lib.hid (by rw [str_beq]; exact decide_eq_false (fun e => hab (hsame.1 e)))
          have hrat : Hid (sameR a b = false) := Lib.hid (Bool.eq_false_iff.2 (fun e => hab (sameR_iff.1 e)))
          clear hab hsame
          have ac0 := a_6.out.c0
          have ac1 := a_6.out.c1
          have ac2 := a_6.out.c2
          go_wp2_with fail
          clear ac0 ac1 ac2
          refine (pratvalid_any a _).mono ?_
          rintro e v7 ⟨rfl, hb⟩
          have D7 := Lib.hid (D6.out.trans (hb.mono D6.out.size))
          have a_7 := Lib.hid (a_6.out.bel hb)
          have b_7 := Lib.hid (b_6.out.bel hb)
          clear D6 a_6 b_6
          clear hb
          simp only [HA.out]
          go_wp2_with fail
          refine (pratparse_any s _ HZ.out).mono ?_
          rintro e v8 ⟨rfl, hb⟩
          have D8 := Lib.hid (D7.out.trans (hb.mono D7.out.size))
          have a_8 := Lib.hid (a_7.out.bel hb)
          have b_8 := Lib.hid (b_7.out.bel hb)
          clear D7 a_7 b_7
          clear hb
          simp only [HP.out]
          have Q1 : ∀ w, (binOp .neq 24 (.agg #[.bool a.neg, .string a.num, .string a.den]) (.agg #[.bool a.neg, .string a.num, .string a.den])).run Tryd.prog w = .ok (.bool false) w := fun w => by have := run_neq_rat a a w; rwa [sameR_iff.2 rfl] at this
          have Q2 : ∀ w, (binOp .eql 24 (.agg #[.bool a.neg, .string a.num, .string a.den]) (.agg #[.bool b.neg, .string b.num, .string b.den])).run Tryd.prog w = .ok (.bool false) w := fun w => by have := run_eql_rat a b w; rwa [hrat.out] at this
          have Q3 := hstr.out
          have ac0 := a_8.out.c0
          have ac1 := a_8.out.c1
          have ac2 := a_8.out.c2
          have az := blk_lt a_8.out.cells
          have bc0 := b_8.out.c0
          have bc1 := b_8.out.c1
          have bc2 := b_8.out.c2
          have bz := blk_lt b_8.out.cells
          go_wp2_with fail
          obtain ⟨B2, hB2⟩ : ∃ B, B = v8.heap.size := ⟨_, rfl⟩
          obtain ⟨W2_0, hW2_0⟩ : ∃ W, W = v8.alloc (Obj.cells #[Value.bool a.neg, Value.string a.num, Value.string a.den] 24) := ⟨_, rfl⟩
          have hb : Below v8.heap.size v8 W2_0 := by rw [hW2_0]; exact (Below.refl _ _).alloc (Nat.le_refl _) _
          have hzW2_0 : v8.heap.size = B2 := by rw [hB2]
          have hlW2_0 : RatAt (B2) a W2_0 := by rw [← hzW2_0, hW2_0]; exact ⟨heap_lastM _ _⟩
          have D9 := Lib.hid (D8.out.trans (hb.mono D8.out.size))
          have a_9 := Lib.hid (a_8.out.bel hb)
          have b_9 := Lib.hid (b_8.out.bel hb)
          clear D8 a_8 b_8
          clear hb
          have x_9 := Lib.hid hlW2_0
          clear hlW2_0
          rw [← hW2_0]
          simp only [← hB2]
          have HW2_0 := Lib.hid hW2_0
          clear hW2_0 hzW2_0
          have HB2 := Lib.hid hB2
          clear hB2
          clear ac0 ac1 ac2 az bc0 bc1 bc2 bz
          clear Q1 Q2 Q3
          refine (pratparse_any t _ ST.out).mono ?_
          rintro e v10 ⟨rfl, hb⟩
          have D10 := Lib.hid (D9.out.trans (hb.mono D9.out.size))
          have a_10 := Lib.hid (a_9.out.bel hb)
          have b_10 := Lib.hid (b_9.out.bel hb)
          have x_10 := Lib.hid (x_9.out.bel hb)
          clear D9 a_9 b_9 x_9
          clear hb
          rcases parse_cases t with ⟨y, hy, hz⟩ | hy
          ·
            have HZ := Lib.hid hz; clear hz
            simp only [hy]; clear hy
            go_wp2_with fail
            obtain ⟨B3, hB3⟩ : ∃ B, B = v10.heap.size := ⟨_, rfl⟩
            obtain ⟨W3_0, hW3_0⟩ : ∃ W, W = v10.alloc (Obj.cells #[Value.bool y.neg, Value.string y.num, Value.string y.den] 24) := ⟨_, rfl⟩
            have hb : Below v10.heap.size v10 W3_0 := by rw [hW3_0]; exact (Below.refl _ _).alloc (Nat.le_refl _) _
            have hzW3_0 : v10.heap.size = B3 := by rw [hB3]
            have hlW3_0 : RatAt (B3) y W3_0 := by rw [← hzW3_0, hW3_0]; exact ⟨heap_lastM _ _⟩
            have D11 := Lib.hid (D10.out.trans (hb.mono D10.out.size))
            have a_11 := Lib.hid (a_10.out.bel hb)
            have b_11 := Lib.hid (b_10.out.bel hb)
            have x_11 := Lib.hid (x_10.out.bel hb)
            clear D10 a_10 b_10 x_10
            clear hb
            have y_11 := Lib.hid hlW3_0
            clear hlW3_0
            rw [← hW3_0]
            simp only [← hB3]
            have HW3_0 := Lib.hid hW3_0
            clear hW3_0 hzW3_0
            have HB3 := Lib.hid hB3
            clear hB3
            refine (prattext_any y _).mono ?_
            rintro e v12 ⟨rfl, hb⟩
            have D12 := Lib.hid (D11.out.trans (hb.mono D11.out.size))
            have a_12 := Lib.hid (a_11.out.bel hb)
            have b_12 := Lib.hid (b_11.out.bel hb)
            have x_12 := Lib.hid (x_11.out.bel hb)
            have y_12 := Lib.hid (y_11.out.bel hb)
            clear D11 a_11 b_11 x_11 y_11
            clear hb
            simp only [HZ.out]
            have Q9 : (t.toList == t.toList) = true := by simp
            go_wp2_with fail
            go_ret
            exact ⟨rfl, D12.out⟩
          ·
            have Q8 : ∀ w, (binOp .eql 24 (.agg #[.bool false, .string ⟨#[]⟩, .string ⟨#[]⟩]) (.agg #[.bool false, .string ⟨#[]⟩, .string ⟨#[]⟩])).run Tryd.prog w = .ok (.bool true) w := fun w => by have := run_eql_rat noRaw noRaw w; rwa [sameR_iff.2 rfl] at this
            simp only [hy, noRaw]; clear hy
            go_wp2_with fail
            go_ret
            exact ⟨rfl, D10.out.alloc D10.out.size _⟩
      ·
        simp only [text_no hb]; clear hb
        have ac0 := a_6.out.c0
        have ac1 := a_6.out.c1
        have ac2 := a_6.out.c2
        go_wp2_with fail
        clear ac0 ac1 ac2
        refine (pratvalid_any a _).mono ?_
        rintro e v7 ⟨rfl, hb⟩
        have D7 := Lib.hid (D6.out.trans (hb.mono D6.out.size))
        have a_7 := Lib.hid (a_6.out.bel hb)
        have b_7 := Lib.hid (b_6.out.bel hb)
        clear D6 a_6 b_6
        clear hb
        simp only [HA.out]
        go_wp2_with fail
        refine (pratparse_any s _ HZ.out).mono ?_
        rintro e v8 ⟨rfl, hb⟩
        have D8 := Lib.hid (D7.out.trans (hb.mono D7.out.size))
        have a_8 := Lib.hid (a_7.out.bel hb)
        have b_8 := Lib.hid (b_7.out.bel hb)
        clear D7 a_7 b_7
        clear hb
        simp only [HP.out]
        have Q1 : ∀ w, (binOp .neq 24 (.agg #[.bool a.neg, .string a.num, .string a.den]) (.agg #[.bool a.neg, .string a.num, .string a.den])).run Tryd.prog w = .ok (.bool false) w := fun w => by have := run_neq_rat a a w; rwa [sameR_iff.2 rfl] at this
        have ac0 := a_8.out.c0
        have ac1 := a_8.out.c1
        have ac2 := a_8.out.c2
        have az := blk_lt a_8.out.cells
        have bc0 := b_8.out.c0
        have bc1 := b_8.out.c1
        have bc2 := b_8.out.c2
        have bz := blk_lt b_8.out.cells
        go_wp2_with fail
        obtain ⟨B2, hB2⟩ : ∃ B, B = v8.heap.size := ⟨_, rfl⟩
        obtain ⟨W2_0, hW2_0⟩ : ∃ W, W = v8.alloc (Obj.cells #[Value.bool a.neg, Value.string a.num, Value.string a.den] 24) := ⟨_, rfl⟩
        have hb : Below v8.heap.size v8 W2_0 := by rw [hW2_0]; exact (Below.refl _ _).alloc (Nat.le_refl _) _
        have hzW2_0 : v8.heap.size = B2 := by rw [hB2]
        have hlW2_0 : RatAt (B2) a W2_0 := by rw [← hzW2_0, hW2_0]; exact ⟨heap_lastM _ _⟩
        have D9 := Lib.hid (D8.out.trans (hb.mono D8.out.size))
        have a_9 := Lib.hid (a_8.out.bel hb)
        have b_9 := Lib.hid (b_8.out.bel hb)
        clear D8 a_8 b_8
        clear hb
        have x_9 := Lib.hid hlW2_0
        clear hlW2_0
        rw [← hW2_0]
        simp only [← hB2]
        have HW2_0 := Lib.hid hW2_0
        clear hW2_0 hzW2_0
        have HB2 := Lib.hid hB2
        clear hB2
        clear ac0 ac1 ac2 az bc0 bc1 bc2 bz
        clear Q1
        refine (pratparse_any t _ ST.out).mono ?_
        rintro e v10 ⟨rfl, hb⟩
        have D10 := Lib.hid (D9.out.trans (hb.mono D9.out.size))
        have a_10 := Lib.hid (a_9.out.bel hb)
        have b_10 := Lib.hid (b_9.out.bel hb)
        have x_10 := Lib.hid (x_9.out.bel hb)
        clear D9 a_9 b_9 x_9
        clear hb
        rcases parse_cases t with ⟨y, hy, hz⟩ | hy
        ·
          have HZ := Lib.hid hz; clear hz
          simp only [hy]; clear hy
          go_wp2_with fail
          obtain ⟨B3, hB3⟩ : ∃ B, B = v10.heap.size := ⟨_, rfl⟩
          obtain ⟨W3_0, hW3_0⟩ : ∃ W, W = v10.alloc (Obj.cells #[Value.bool y.neg, Value.string y.num, Value.string y.den] 24) := ⟨_, rfl⟩
          have hb : Below v10.heap.size v10 W3_0 := by rw [hW3_0]; exact (Below.refl _ _).alloc (Nat.le_refl _) _
          have hzW3_0 : v10.heap.size = B3 := by rw [hB3]
          have hlW3_0 : RatAt (B3) y W3_0 := by rw [← hzW3_0, hW3_0]; exact ⟨heap_lastM _ _⟩
          have D11 := Lib.hid (D10.out.trans (hb.mono D10.out.size))
          have a_11 := Lib.hid (a_10.out.bel hb)
          have b_11 := Lib.hid (b_10.out.bel hb)
          have x_11 := Lib.hid (x_10.out.bel hb)
          clear D10 a_10 b_10 x_10
          clear hb
          have y_11 := Lib.hid hlW3_0
          clear hlW3_0
          rw [← hW3_0]
          simp only [← hB3]
          have HW3_0 := Lib.hid hW3_0
          clear hW3_0 hzW3_0
          have HB3 := Lib.hid hB3
          clear hB3
          refine (prattext_any y _).mono ?_
          rintro e v12 ⟨rfl, hb⟩
          have D12 := Lib.hid (D11.out.trans (hb.mono D11.out.size))
          have a_12 := Lib.hid (a_11.out.bel hb)
          have b_12 := Lib.hid (b_11.out.bel hb)
          have x_12 := Lib.hid (x_11.out.bel hb)
          have y_12 := Lib.hid (y_11.out.bel hb)
          clear D11 a_11 b_11 x_11 y_11
          clear hb
          simp only [HZ.out]
          have Q9 : (t.toList == t.toList) = true := by simp
          go_wp2_with fail
          go_ret
          exact ⟨rfl, D12.out⟩
        ·
          have Q8 : ∀ w, (binOp .eql 24 (.agg #[.bool false, .string ⟨#[]⟩, .string ⟨#[]⟩]) (.agg #[.bool false, .string ⟨#[]⟩, .string ⟨#[]⟩])).run Tryd.prog w = .ok (.bool true) w := fun w => by have := run_eql_rat noRaw noRaw w; rwa [sameR_iff.2 rfl] at this
          simp only [hy, noRaw]; clear hy
          go_wp2_with fail
          go_ret
          exact ⟨rfl, D10.out.alloc D10.out.size _⟩
    ·
      have HSA := Lib.hid (text_no ha)
      have HA := Lib.hid ha; clear ha
      refine (prattext_any a _).mono ?_
      rintro e v5 ⟨rfl, hb⟩
      have D5 := Lib.hid (D4.out.trans (hb.mono D4.out.size))
      have a_5 := Lib.hid (a_4.out.bel hb)
      have b_5 := Lib.hid (b_4.out.bel hb)
      clear D4 a_4 b_4
      clear hb
      simp only [HSA.out]
      have bc0 := b_5.out.c0
      have bc1 := b_5.out.c1
      have bc2 := b_5.out.c2
      go_wp2_with fail
      clear bc0 bc1 bc2
      refine (prattext_any b _).mono ?_
      rintro e v6 ⟨rfl, hb⟩
      have D6 := Lib.hid (D5.out.trans (hb.mono D5.out.size))
      have a_6 := Lib.hid (a_5.out.bel hb)
      have b_6 := Lib.hid (b_5.out.bel hb)
      clear D5 a_5 b_5
      clear hb
      obtain ⟨⟨u, f⟩, hu⟩ : ∃ r, textE b = r := ⟨_, rfl⟩
      simp only [hu]; clear hu
      have ac0 := a_6.out.c0
      have ac1 := a_6.out.c1
      have ac2 := a_6.out.c2
      go_wp2_with fail
      clear ac0 ac1 ac2
      refine (pratvalid_any a _).mono ?_
      rintro e v7 ⟨rfl, hb⟩
      have D7 := Lib.hid (D6.out.trans (hb.mono D6.out.size))
      have a_7 := Lib.hid (a_6.out.bel hb)
      have b_7 := Lib.hid (b_6.out.bel hb)
      clear D6 a_6 b_6
      clear hb
      simp only [HA.out]
      go_wp2_with fail
      refine (pratparse_any t _ ST.out).mono ?_
      rintro e v8 ⟨rfl, hb⟩
      have D8 := Lib.hid (D7.out.trans (hb.mono D7.out.size))
      have a_8 := Lib.hid (a_7.out.bel hb)
      have b_8 := Lib.hid (b_7.out.bel hb)
      clear D7 a_7 b_7
      clear hb
      rcases parse_cases t with ⟨y, hy, hz⟩ | hy
      ·
        have HZ := Lib.hid hz; clear hz
        simp only [hy]; clear hy
        go_wp2_with fail
        obtain ⟨B2, hB2⟩ : ∃ B, B = v8.heap.size := ⟨_, rfl⟩
        obtain ⟨W2_0, hW2_0⟩ : ∃ W, W = v8.alloc (Obj.cells #[Value.bool y.neg, Value.string y.num, Value.string y.den] 24) := ⟨_, rfl⟩
        have hb : Below v8.heap.size v8 W2_0 := by rw [hW2_0]; exact (Below.refl _ _).alloc (Nat.le_refl _) _
        have hzW2_0 : v8.heap.size = B2 := by rw [hB2]
        have hlW2_0 : RatAt (B2) y W2_0 := by rw [← hzW2_0, hW2_0]; exact ⟨heap_lastM _ _⟩
        have D9 := Lib.hid (D8.out.trans (hb.mono D8.out.size))
        have a_9 := Lib.hid (a_8.out.bel hb)
        have b_9 := Lib.hid (b_8.out.bel hb)
        clear D8 a_8 b_8
        clear hb
        have y_9 := Lib.hid hlW2_0
        clear hlW2_0
        rw [← hW2_0]
        simp only [← hB2]
        have HW2_0 := Lib.hid hW2_0
        clear hW2_0 hzW2_0
        have HB2 := Lib.hid hB2
        clear hB2
        refine (prattext_any y _).mono ?_
        rintro e v10 ⟨rfl, hb⟩
        have D10 := Lib.hid (D9.out.trans (hb.mono D9.out.size))
        have a_10 := Lib.hid (a_9.out.bel hb)
        have b_10 := Lib.hid (b_9.out.bel hb)
        have y_10 := Lib.hid (y_9.out.bel hb)
        clear D9 a_9 b_9 y_9
        clear hb
        simp only [HZ.out]
        have Q9 : (t.toList == t.toList) = true := by simp
        go_wp2_with fail
        go_ret
        exact ⟨rfl, D10.out⟩
      ·
        have Q8 : ∀ w, (binOp .eql 24 (.agg #[.bool false, .string ⟨#[]⟩, .string ⟨#[]⟩]) (.agg #[.bool false, .string ⟨#[]⟩, .string ⟨#[]⟩])).run Tryd.prog w = .ok (.bool true) w := fun w => by have := run_eql_rat noRaw noRaw w; rwa [sameR_iff.2 rfl] at this
        simp only [hy, noRaw]; clear hy
        go_wp2_with fail
        go_ret
        exact ⟨rfl, D8.out.alloc D8.out.size _⟩
end Go.Proofs.YthpghjklnkdmfaaDoor
