/-
  Sums and products (FieldLaws, P6.2).
-/
import Derived.Test.YtalhcfffnggpjaaFdHead
set_option linter.unusedVariables false
set_option maxRecDepth 100000
namespace Go.Proofs.Ytalhcfffnggpjaa
open Go.RowKit
open Fdp
set_option maxHeartbeats 2000000 in
theorem walkFieldLaws (a b c : Int) (w : World) (ha64 : -9223372036854775808 ≤ a ∧ a ≤ 9223372036854775807) (hb64 : -9223372036854775808 ≤ b ∧ b ≤ 9223372036854775807) (hc64 : -9223372036854775808 ≤ c ∧ c ≤ 9223372036854775807) :
    Calls Try.prog 4 #[.int .i64 a, .int .i64 b, .int .i64 c] w fun e w' => e = .returned (.bool true) ∧ Below w.heap.size w w' := by
  clear ha64 hb64 hc64
  cases hA : allE [a, b, c] with
  | false =>
    have HA := Lib.hid hA
    clear hA
    have D0 := Lib.hid (Below.refl w.heap.size w)
    go_enter Try.func4, Try.ntmps4
    go_wp2_with fail
    refine (head_any _).mono ?_
    rintro e w1 ⟨rfl, hb⟩
    have D1 := Lib.hid (D0.out.trans (hb.mono D0.out.size))
    clear hb D0
    go_wp2_with fail
    have D2 := Lib.hid (D1.out.alloc D1.out.size (Obj.cells #[Value.int .i64 a, Value.int .i64 b, Value.int .i64 c] 3))
    clear D1
    refine (lin_no _ _ _ [a, b, c] _ (ints_three _ _ _ _ (by simp)) (max_small (by decide)) HA.out).mono ?_
    rintro e w' ⟨rfl, rfl⟩
    go_wp2_with fail
    go_ret
    exact ⟨rfl, D2.out⟩
  | true =>
    have HA := Lib.hid hA
    have hel := allE_iff.1 hA
    have ha : El a := hel a (by simp)
    have hb : El b := hel b (by simp)
    have hc : El c := hel c (by simp)
    have h0 : El 0 := by decide
    have h1 : El 1 := by decide
    clear hA hel
    obtain ⟨S1, hS1⟩ : ∃ x, x = sumF a b := ⟨_, rfl⟩
    obtain ⟨S2, hS2⟩ : ∃ x, x = sumF b c := ⟨_, rfl⟩
    obtain ⟨S3, hS3⟩ : ∃ x, x = sumF S1 c := ⟨_, rfl⟩
    obtain ⟨M1, hM1⟩ : ∃ x, x = mulF a b := ⟨_, rfl⟩
    obtain ⟨M2, hM2⟩ : ∃ x, x = mulF b c := ⟨_, rfl⟩
    obtain ⟨M3, hM3⟩ : ∃ x, x = mulF M1 c := ⟨_, rfl⟩
    obtain ⟨M4, hM4⟩ : ∃ x, x = mulF a c := ⟨_, rfl⟩
    obtain ⟨X, hX⟩ : ∃ x, x = mulF a S2 := ⟨_, rfl⟩
    have eS1 : El S1 := by rw [hS1]; exact sumF_range _ _
    have eS2 : El S2 := by rw [hS2]; exact sumF_range _ _
    have eM1 : El M1 := by rw [hM1]; exact mulF_range _ _
    have eM2 : El M2 := by rw [hM2]; exact mulF_range _ _
    have eM4 : El M4 := by rw [hM4]; exact mulF_range _ _
    have HS : Hid (allE [S1, M1] = true) := Lib.hid (allE_iff.2 fun x hx => by simp at hx; rcases hx with rfl | rfl <;> assumption)
    have cab : Hid (∀ w, Calls Try.prog 22 #[.int .i64 a, .int .i64 b] w fun e w' => e = .returned (.int .i64 S1) ∧ Below w.heap.size w w') := Lib.hid (fun w => by
      rw [hS1]; exact ladd_ok _ _ w ha hb)
    have cba : Hid (∀ w, Calls Try.prog 22 #[.int .i64 b, .int .i64 a] w fun e w' => e = .returned (.int .i64 S1) ∧ Below w.heap.size w w') := Lib.hid (fun w => by
      rw [hS1, sum_comm]; exact ladd_ok _ _ w hb ha)
    have cS1c : Hid (∀ w, Calls Try.prog 22 #[.int .i64 S1, .int .i64 c] w fun e w' => e = .returned (.int .i64 S3) ∧ Below w.heap.size w w') := Lib.hid (fun w => by
      rw [hS3]; exact ladd_ok _ _ w eS1 hc)
    have cbc : Hid (∀ w, Calls Try.prog 22 #[.int .i64 b, .int .i64 c] w fun e w' => e = .returned (.int .i64 S2) ∧ Below w.heap.size w w') := Lib.hid (fun w => by
      rw [hS2]; exact ladd_ok _ _ w hb hc)
    have caS2 : Hid (∀ w, Calls Try.prog 22 #[.int .i64 a, .int .i64 S2] w fun e w' => e = .returned (.int .i64 S3) ∧ Below w.heap.size w w') := Lib.hid (fun w => by
      have e : S3 = sumF a S2 := by rw [hS3, hS1, sum_assoc, hS2]
      rw [e]; exact ladd_ok _ _ w ha eS2)
    have ca0 : Hid (∀ w, Calls Try.prog 22 #[.int .i64 a, .int .i64 0] w fun e w' => e = .returned (.int .i64 a) ∧ Below w.heap.size w w') := Lib.hid (fun w => by
      have := ladd_ok a 0 w ha h0
      rwa [sum_zero ha] at this)
    have mab : Hid (∀ w, Calls Try.prog 23 #[.int .i64 a, .int .i64 b] w fun e w' => e = .returned (.int .i64 M1) ∧ Below w.heap.size w w') := Lib.hid (fun w => by
      rw [hM1]; exact lmul_ok _ _ w ha hb)
    have mba : Hid (∀ w, Calls Try.prog 23 #[.int .i64 b, .int .i64 a] w fun e w' => e = .returned (.int .i64 M1) ∧ Below w.heap.size w w') := Lib.hid (fun w => by
      rw [hM1, mul_comm']; exact lmul_ok _ _ w hb ha)
    have mM1c : Hid (∀ w, Calls Try.prog 23 #[.int .i64 M1, .int .i64 c] w fun e w' => e = .returned (.int .i64 M3) ∧ Below w.heap.size w w') := Lib.hid (fun w => by
      rw [hM3]; exact lmul_ok _ _ w eM1 hc)
    have mbc : Hid (∀ w, Calls Try.prog 23 #[.int .i64 b, .int .i64 c] w fun e w' => e = .returned (.int .i64 M2) ∧ Below w.heap.size w w') := Lib.hid (fun w => by
      rw [hM2]; exact lmul_ok _ _ w hb hc)
    have maM2 : Hid (∀ w, Calls Try.prog 23 #[.int .i64 a, .int .i64 M2] w fun e w' => e = .returned (.int .i64 M3) ∧ Below w.heap.size w w') := Lib.hid (fun w => by
      have e : M3 = mulF a M2 := by rw [hM3, hM1, mul_assoc', hM2]
      rw [e]; exact lmul_ok _ _ w ha eM2)
    have ma1 : Hid (∀ w, Calls Try.prog 23 #[.int .i64 a, .int .i64 1] w fun e w' => e = .returned (.int .i64 a) ∧ Below w.heap.size w w') := Lib.hid (fun w => by
      have := lmul_ok a 1 w ha h1
      rwa [mul_one' ha] at this)
    have maS2 : Hid (∀ w, Calls Try.prog 23 #[.int .i64 a, .int .i64 S2] w fun e w' => e = .returned (.int .i64 X) ∧ Below w.heap.size w w') := Lib.hid (fun w => by
      rw [hX]; exact lmul_ok _ _ w ha eS2)
    have mac : Hid (∀ w, Calls Try.prog 23 #[.int .i64 a, .int .i64 c] w fun e w' => e = .returned (.int .i64 M4) ∧ Below w.heap.size w w') := Lib.hid (fun w => by
      rw [hM4]; exact lmul_ok _ _ w ha hc)
    have cM1M4 : Hid (∀ w, Calls Try.prog 22 #[.int .i64 M1, .int .i64 M4] w fun e w' => e = .returned (.int .i64 X) ∧ Below w.heap.size w w') := Lib.hid (fun w => by
      have e : X = sumF M1 M4 := by rw [hX, hS2, mul_sum, hM1, hM4]
      rw [e]; exact ladd_ok _ _ w eM1 eM4)
    clear hS1 hS2 hS3 hM1 hM2 hM3 hM4 hX eS1 eS2 eM1 eM2 eM4 ha hb hc h0 h1
    have D0 := Lib.hid (Below.refl w.heap.size w)
    go_enter Try.func4, Try.ntmps4
    go_wp2_with fail
    refine (head_any _).mono ?_
    rintro e w1 ⟨rfl, hb⟩
    have D1 := Lib.hid (D0.out.trans (hb.mono D0.out.size))
    clear hb D0
    go_wp2_with fail
    have D2 := Lib.hid (D1.out.alloc D1.out.size (Obj.cells #[Value.int .i64 a, Value.int .i64 b, Value.int .i64 c] 3))
    clear D1
    refine (lin_yes _ _ _ [a, b, c] _ (ints_three _ _ _ _ (by simp)) (max_small (by decide)) HA.out).mono ?_
    rintro e w' ⟨rfl, rfl⟩
    go_wp2_with fail
    refine (cab.out _).mono ?_
    rintro e w3 ⟨rfl, hb⟩
    have D3 := Lib.hid (D2.out.trans (hb.mono D2.out.size))
    clear hb D2
    go_wp2_with fail
    refine (cba.out _).mono ?_
    rintro e w4 ⟨rfl, hb⟩
    have D4 := Lib.hid (D3.out.trans (hb.mono D3.out.size))
    clear hb D3
    go_wp2_with fail
    refine (cab.out _).mono ?_
    rintro e w5 ⟨rfl, hb⟩
    have D5 := Lib.hid (D4.out.trans (hb.mono D4.out.size))
    clear hb D4
    go_wp2_with fail
    refine (cS1c.out _).mono ?_
    rintro e w6 ⟨rfl, hb⟩
    have D6 := Lib.hid (D5.out.trans (hb.mono D5.out.size))
    clear hb D5
    go_wp2_with fail
    refine (cbc.out _).mono ?_
    rintro e w7 ⟨rfl, hb⟩
    have D7 := Lib.hid (D6.out.trans (hb.mono D6.out.size))
    clear hb D6
    go_wp2_with fail
    refine (caS2.out _).mono ?_
    rintro e w8 ⟨rfl, hb⟩
    have D8 := Lib.hid (D7.out.trans (hb.mono D7.out.size))
    clear hb D7
    go_wp2_with fail
    refine (ca0.out _).mono ?_
    rintro e w9 ⟨rfl, hb⟩
    have D9 := Lib.hid (D8.out.trans (hb.mono D8.out.size))
    clear hb D8
    go_wp2_with fail
    refine (mab.out _).mono ?_
    rintro e w10 ⟨rfl, hb⟩
    have D10 := Lib.hid (D9.out.trans (hb.mono D9.out.size))
    clear hb D9
    go_wp2_with fail
    refine (mba.out _).mono ?_
    rintro e w11 ⟨rfl, hb⟩
    have D11 := Lib.hid (D10.out.trans (hb.mono D10.out.size))
    clear hb D10
    go_wp2_with fail
    refine (mab.out _).mono ?_
    rintro e w12 ⟨rfl, hb⟩
    have D12 := Lib.hid (D11.out.trans (hb.mono D11.out.size))
    clear hb D11
    go_wp2_with fail
    refine (mM1c.out _).mono ?_
    rintro e w13 ⟨rfl, hb⟩
    have D13 := Lib.hid (D12.out.trans (hb.mono D12.out.size))
    clear hb D12
    go_wp2_with fail
    refine (mbc.out _).mono ?_
    rintro e w14 ⟨rfl, hb⟩
    have D14 := Lib.hid (D13.out.trans (hb.mono D13.out.size))
    clear hb D13
    go_wp2_with fail
    refine (maM2.out _).mono ?_
    rintro e w15 ⟨rfl, hb⟩
    have D15 := Lib.hid (D14.out.trans (hb.mono D14.out.size))
    clear hb D14
    go_wp2_with fail
    refine (ma1.out _).mono ?_
    rintro e w16 ⟨rfl, hb⟩
    have D16 := Lib.hid (D15.out.trans (hb.mono D15.out.size))
    clear hb D15
    go_wp2_with fail
    refine (cbc.out _).mono ?_
    rintro e w17 ⟨rfl, hb⟩
    have D17 := Lib.hid (D16.out.trans (hb.mono D16.out.size))
    clear hb D16
    go_wp2_with fail
    refine (maS2.out _).mono ?_
    rintro e w18 ⟨rfl, hb⟩
    have D18 := Lib.hid (D17.out.trans (hb.mono D17.out.size))
    clear hb D17
    go_wp2_with fail
    refine (mab.out _).mono ?_
    rintro e w19 ⟨rfl, hb⟩
    have D19 := Lib.hid (D18.out.trans (hb.mono D18.out.size))
    clear hb D18
    go_wp2_with fail
    refine (mac.out _).mono ?_
    rintro e w20 ⟨rfl, hb⟩
    have D20 := Lib.hid (D19.out.trans (hb.mono D19.out.size))
    clear hb D19
    go_wp2_with fail
    refine (cM1M4.out _).mono ?_
    rintro e w21 ⟨rfl, hb⟩
    have D21 := Lib.hid (D20.out.trans (hb.mono D20.out.size))
    clear hb D20
    go_wp2_with fail
    refine (cab.out _).mono ?_
    rintro e w22 ⟨rfl, hb⟩
    have D22 := Lib.hid (D21.out.trans (hb.mono D21.out.size))
    clear hb D21
    go_wp2_with fail
    refine (mab.out _).mono ?_
    rintro e w23 ⟨rfl, hb⟩
    have D23 := Lib.hid (D22.out.trans (hb.mono D22.out.size))
    clear hb D22
    go_wp2_with fail
    have D24 := Lib.hid (D23.out.alloc D23.out.size (Obj.cells #[Value.int .i64 S1, Value.int .i64 M1] 3))
    clear D23
    refine (lin_yes _ _ _ [S1, M1] _ (ints_two _ _ _ (by simp)) (max_small (by decide)) HS.out).mono ?_
    rintro e w' ⟨rfl, rfl⟩
    go_wp2_with fail
    go_ret
    exact ⟨rfl, D24.out⟩
end Go.Proofs.Ytalhcfffnggpjaa
