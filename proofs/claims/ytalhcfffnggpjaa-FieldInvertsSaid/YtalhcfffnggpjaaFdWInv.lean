/-
  Inverses (FieldInverts, P6.3).
-/
import Derived.Test.YtalhcfffnggpjaaFdHead
set_option linter.unusedVariables false
set_option maxRecDepth 100000
namespace Go.Proofs.Ytalhcfffnggpjaa
open Go.RowKit
open Fdp
set_option maxHeartbeats 2000000 in
theorem walkFieldInverts (a b : Int) (w : World) (ha64 : -9223372036854775808 ≤ a ∧ a ≤ 9223372036854775807) (hb64 : -9223372036854775808 ≤ b ∧ b ≤ 9223372036854775807) :
    Calls Try.prog 5 #[.int .i64 a, .int .i64 b] w fun e w' => e = .returned (.bool true) ∧ Below w.heap.size w w' := by
  clear ha64 hb64
  cases hA : allE [a, b] with
  | false =>
    have HA := Lib.hid hA
    clear hA
    have D0 := Lib.hid (Below.refl w.heap.size w)
    go_enter Try.func5, Try.ntmps5
    go_wp2_with fail
    refine (head_any _).mono ?_
    rintro e w1 ⟨rfl, hb⟩
    have D1 := Lib.hid (D0.out.trans (hb.mono D0.out.size))
    clear hb D0
    go_wp2_with fail
    have D2 := Lib.hid (D1.out.alloc D1.out.size (Obj.cells #[Value.int .i64 a, Value.int .i64 b] 3))
    clear D1
    refine (lin_no _ _ _ [a, b] _ (ints_two _ _ _ (by simp)) (max_small (by decide)) HA.out).mono ?_
    rintro e w' ⟨rfl, rfl⟩
    go_wp2_with fail
    go_ret
    exact ⟨rfl, D2.out⟩
  | true =>
    have HA := Lib.hid hA
    have hel := allE_iff.1 hA
    have ha : El a := hel a (by simp)
    have hb : El b := hel b (by simp)
    clear hA hel
    by_cases ha0 : a = 0
    · have e0 : (a == 0) = true := by rw [ha0]; rfl
      clear ha hb ha0
      have D0 := Lib.hid (Below.refl w.heap.size w)
      go_enter Try.func5, Try.ntmps5
      go_wp2_with fail
      refine (head_any _).mono ?_
      rintro e w1 ⟨rfl, hb⟩
      have D1 := Lib.hid (D0.out.trans (hb.mono D0.out.size))
      clear hb D0
      go_wp2_with fail
      have D2 := Lib.hid (D1.out.alloc D1.out.size (Obj.cells #[Value.int .i64 a, Value.int .i64 b] 3))
      clear D1
      refine (lin_yes _ _ _ [a, b] _ (ints_two _ _ _ (by simp)) (max_small (by decide)) HA.out).mono ?_
      rintro e w' ⟨rfl, rfl⟩
      go_wp2_with fail
      go_ret
      exact ⟨rfl, D2.out⟩
    · have e0 : (a == 0) = false := by simpa using ha0
      by_cases hb0 : b = 0
      · have e1 : (b == 0) = true := by rw [hb0]; rfl
        clear ha hb ha0 hb0
        have D0 := Lib.hid (Below.refl w.heap.size w)
        go_enter Try.func5, Try.ntmps5
        go_wp2_with fail
        refine (head_any _).mono ?_
        rintro e w1 ⟨rfl, hb⟩
        have D1 := Lib.hid (D0.out.trans (hb.mono D0.out.size))
        clear hb D0
        go_wp2_with fail
        have D2 := Lib.hid (D1.out.alloc D1.out.size (Obj.cells #[Value.int .i64 a, Value.int .i64 b] 3))
        clear D1
        refine (lin_yes _ _ _ [a, b] _ (ints_two _ _ _ (by simp)) (max_small (by decide)) HA.out).mono ?_
        rintro e w' ⟨rfl, rfl⟩
        go_wp2_with fail
        go_ret
        exact ⟨rfl, D2.out⟩
      · have e1 : (b == 0) = false := by simpa using hb0
        obtain ⟨C, hC⟩ : ∃ x, x = ivI a := ⟨_, rfl⟩
        obtain ⟨D, hD⟩ : ∃ x, x = ivI b := ⟨_, rfl⟩
        obtain ⟨p, hp⟩ : ∃ x, x = mulF a b := ⟨_, rfl⟩
        obtain ⟨i, hi⟩ : ∃ x, x = ivI p := ⟨_, rfl⟩
        have eC : El C := by rw [hC]; exact ivI_range _
        have eD : El D := by rw [hD]; exact ivI_range _
        have eC0 : C ≠ 0 := fun e => inv_ndvd ha ha0 (by rw [← hC, e]; exact Int.dvd_zero _)
        have ep : El p := by rw [hp]; exact mulF_range _ _
        have hp0 : 0 < p := by rw [hp]; exact mul_pos' ha hb ha0 hb0
        have ep0 : p ≠ 0 := by omega
        have ia : Hid (∀ w, Calls Try.prog 15 #[.int .i64 a] w fun e w' => e = .returned (.tuple #[.int .i64 C, .int .i64 0]) ∧ Below w.heap.size w w') := Lib.hid (fun w => by
          have := fInverse_any a w
          rw [invE_ok ha ha0, ← hC] at this
          exact this)
        have ib : Hid (∀ w, Calls Try.prog 15 #[.int .i64 b] w fun e w' => e = .returned (.tuple #[.int .i64 D, .int .i64 0]) ∧ Below w.heap.size w w') := Lib.hid (fun w => by
          have := fInverse_any b w
          rw [invE_ok hb hb0, ← hD] at this
          exact this)
        have ic : Hid (∀ w, Calls Try.prog 15 #[.int .i64 C] w fun e w' => e = .returned (.tuple #[.int .i64 a, .int .i64 0]) ∧ Below w.heap.size w w') := Lib.hid (fun w => by
          have := fInverse_any C w
          rw [invE_ok eC eC0, hC, inv_inv ha ha0, ← hC] at this
          exact this)
        have ip : Hid (∀ w, Calls Try.prog 15 #[.int .i64 p] w fun e w' => e = .returned (.tuple #[.int .i64 i, .int .i64 0]) ∧ Below w.heap.size w w') := Lib.hid (fun w => by
          have := fInverse_any p w
          rw [invE_ok ep ep0, ← hi] at this
          exact this)
        have mab : Hid (∀ w, Calls Try.prog 23 #[.int .i64 a, .int .i64 b] w fun e w' => e = .returned (.int .i64 p) ∧ Below w.heap.size w w') := Lib.hid (fun w => by
          rw [hp]; exact lmul_ok _ _ w ha hb)
        have maC : Hid (∀ w, Calls Try.prog 23 #[.int .i64 a, .int .i64 C] w fun e w' => e = .returned (.int .i64 1) ∧ Below w.heap.size w w') := Lib.hid (fun w => by
          have := lmul_ok a C w ha eC
          rw [hC, mul_inv ha ha0, ← hC] at this
          exact this)
        have mCD : Hid (∀ w, Calls Try.prog 23 #[.int .i64 C, .int .i64 D] w fun e w' => e = .returned (.int .i64 i) ∧ Below w.heap.size w w') := Lib.hid (fun w => by
          have e : i = mulF C D := by rw [hi, hp, inv_mul ha hb ha0 hb0, hC, hD]
          rw [e]; exact lmul_ok _ _ w eC eD)
        clear hC hD hp hi eC eD ep ep0 eC0 ha hb ha0 hb0
        have D0 := Lib.hid (Below.refl w.heap.size w)
        go_enter Try.func5, Try.ntmps5
        go_wp2_with fail
        refine (head_any _).mono ?_
        rintro e w1 ⟨rfl, hb⟩
        have D1 := Lib.hid (D0.out.trans (hb.mono D0.out.size))
        clear hb D0
        go_wp2_with fail
        have D2 := Lib.hid (D1.out.alloc D1.out.size (Obj.cells #[Value.int .i64 a, Value.int .i64 b] 3))
        clear D1
        refine (lin_yes _ _ _ [a, b] _ (ints_two _ _ _ (by simp)) (max_small (by decide)) HA.out).mono ?_
        rintro e w' ⟨rfl, rfl⟩
        go_wp2_with fail
        refine (ia.out _).mono ?_
        rintro e w3 ⟨rfl, hb⟩
        have D3 := Lib.hid (D2.out.trans (hb.mono D2.out.size))
        clear hb D2
        go_wp2_with fail
        refine (ib.out _).mono ?_
        rintro e w4 ⟨rfl, hb⟩
        have D4 := Lib.hid (D3.out.trans (hb.mono D3.out.size))
        clear hb D3
        go_wp2_with fail
        refine (ic.out _).mono ?_
        rintro e w5 ⟨rfl, hb⟩
        have D5 := Lib.hid (D4.out.trans (hb.mono D4.out.size))
        clear hb D4
        go_wp2_with fail
        refine (mab.out _).mono ?_
        rintro e w6 ⟨rfl, hb⟩
        have D6 := Lib.hid (D5.out.trans (hb.mono D5.out.size))
        clear hb D5
        go_wp2_with fail
        refine (ip.out _).mono ?_
        rintro e w7 ⟨rfl, hb⟩
        have D7 := Lib.hid (D6.out.trans (hb.mono D6.out.size))
        clear hb D6
        go_wp2_with fail
        refine (maC.out _).mono ?_
        rintro e w8 ⟨rfl, hb⟩
        have D8 := Lib.hid (D7.out.trans (hb.mono D7.out.size))
        clear hb D7
        go_wp2_with fail
        refine (mCD.out _).mono ?_
        rintro e w9 ⟨rfl, hb⟩
        have D9 := Lib.hid (D8.out.trans (hb.mono D8.out.size))
        clear hb D8
        go_wp2_with fail
        go_ret
        exact ⟨rfl, D9.out⟩
end Go.Proofs.Ytalhcfffnggpjaa
