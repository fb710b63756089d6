/-
  The law AirmassFalls (layer 11): its walk.
-/
import Derived.Test.YtebkifhdbpeeoaaAmHead
set_option linter.unusedVariables false
set_option maxRecDepth 100000
namespace Go.Proofs.Ytebkifhdbpeeoaa
open Go.RowKit
open Ca (sid sid_lt sid_slot sid_night)
open Am
theorem airA_ok {n : Int} (h1 : 100 ≤ n) (h2 : n ≤ 900) : airA n = (900000 / n, 0) := by
  unfold airA; rw [if_neg (by omega), if_neg (by omega)]
theorem airA_high {n : Int} (h : 900 < n) : airA n = (0, 1) := by
  unfold airA; rw [if_pos h]
theorem airA_low {n : Int} (h : n < 100) : airA n = (0, 19) := by
  unfold airA; rw [if_neg (by omega), if_pos h]
theorem quo_falls {a b : Int} (h0 : 100 ≤ a) (h : a ≤ b) (hb : b ≤ 900) : 900000 / b ≤ 900000 / a ∧ 1000 ≤ 900000 / b ∧ 900000 / b ≤ 9000 := by
  have hb0 : 0 < b := by omega
  have e1 : 900000 / b * b ≤ 900000 := Int.ediv_mul_le _ (by omega)
  have e2 : 0 ≤ 900000 / b := Int.ediv_nonneg (by omega) (by omega)
  have e3 : 900000 / b * a ≤ 900000 / b * b := Int.mul_le_mul_of_nonneg_left h e2
  refine ⟨Int.le_ediv_of_mul_le (by omega) (Int.le_trans e3 e1), Int.le_ediv_of_mul_le hb0 (by omega), Int.ediv_le_of_le_mul hb0 (by omega)⟩
set_option maxHeartbeats 4000000 in
theorem walkAirmassFalls (a b : Int) (w : World) (ha : -9223372036854775808 ≤ a ∧ a ≤ 9223372036854775807) (hb : -9223372036854775808 ≤ b ∧ b ≤ 9223372036854775807) :
    Calls Try.prog 7 #[.int .i64 a, .int .i64 b] w fun e w' => e = .returned (.bool true) ∧ Below w.heap.size w w' := by
  obtain ⟨lo, hlo⟩ : ∃ x, x = min a b := ⟨_, rfl⟩
  obtain ⟨hi, hhi⟩ : ∃ x, x = max a b := ⟨_, rfl⟩
  have m1 : min a b = lo := hlo.symm
  have m2 : max a b = hi := hhi.symm
  have hle : lo ≤ hi := by omega
  have cL := Lib.hid (fun w => pAirmass_any lo (by unfold I64; omega) w)
  have cH := Lib.hid (fun w => pAirmass_any hi (by unfold I64; omega) w)
  clear ha hb hlo hhi
  by_cases h1 : 900 < hi
  · by_cases h3 : 900 < lo
    · skip
      have eH := airA_high h1
      have u1 : decide (100 ≤ hi) = true := decide_eq_true (by omega)
      have u2 : decide (hi ≤ 900) = false := decide_eq_false (by omega)
      rw [eH] at cH
      have eL := airA_high h3
      rw [eL] at cL
      clear eH eL hle
      have D0 := Lib.hid (Below.refl w.heap.size w)
      go_enter Try.func7, Try.ntmps7
      go_wp2_with fail
      refine (head_any _).mono ?_
      rintro e w1 ⟨rfl, hb⟩
      have D1 := Lib.hid (D0.out.trans (hb.mono D0.out.size))
      clear hb D0
      go_wp2_with fail
      refine (cL.out _).mono ?_
      rintro e w2 ⟨rfl, hb⟩
      have D2 := Lib.hid (D1.out.trans (hb.mono D1.out.size))
      clear hb D1
      go_wp2_with fail
      refine (cH.out _).mono ?_
      rintro e w3 ⟨rfl, hb⟩
      have D3 := Lib.hid (D2.out.trans (hb.mono D2.out.size))
      clear hb D2
      go_wp2_with fail
      go_ret
      exact ⟨rfl, D3.out⟩
    · by_cases h4 : lo < 100
      · skip
        have eH := airA_high h1
        have u1 : decide (100 ≤ hi) = true := decide_eq_true (by omega)
        have u2 : decide (hi ≤ 900) = false := decide_eq_false (by omega)
        rw [eH] at cH
        have eL := airA_low h4
        rw [eL] at cL
        clear eH eL hle
        have D0 := Lib.hid (Below.refl w.heap.size w)
        go_enter Try.func7, Try.ntmps7
        go_wp2_with fail
        refine (head_any _).mono ?_
        rintro e w1 ⟨rfl, hb⟩
        have D1 := Lib.hid (D0.out.trans (hb.mono D0.out.size))
        clear hb D0
        go_wp2_with fail
        refine (cL.out _).mono ?_
        rintro e w2 ⟨rfl, hb⟩
        have D2 := Lib.hid (D1.out.trans (hb.mono D1.out.size))
        clear hb D1
        go_wp2_with fail
        refine (cH.out _).mono ?_
        rintro e w3 ⟨rfl, hb⟩
        have D3 := Lib.hid (D2.out.trans (hb.mono D2.out.size))
        clear hb D2
        go_wp2_with fail
        go_ret
        exact ⟨rfl, D3.out⟩
      · skip
        have eH := airA_high h1
        have u1 : decide (100 ≤ hi) = true := decide_eq_true (by omega)
        have u2 : decide (hi ≤ 900) = false := decide_eq_false (by omega)
        rw [eH] at cH
        have eL := airA_ok (n := lo) (by omega) (by omega)
        rw [eL] at cL
        generalize 900000 / lo = x at cL
        clear eH eL hle
        have D0 := Lib.hid (Below.refl w.heap.size w)
        go_enter Try.func7, Try.ntmps7
        go_wp2_with fail
        refine (head_any _).mono ?_
        rintro e w1 ⟨rfl, hb⟩
        have D1 := Lib.hid (D0.out.trans (hb.mono D0.out.size))
        clear hb D0
        go_wp2_with fail
        refine (cL.out _).mono ?_
        rintro e w2 ⟨rfl, hb⟩
        have D2 := Lib.hid (D1.out.trans (hb.mono D1.out.size))
        clear hb D1
        go_wp2_with fail
        refine (cH.out _).mono ?_
        rintro e w3 ⟨rfl, hb⟩
        have D3 := Lib.hid (D2.out.trans (hb.mono D2.out.size))
        clear hb D2
        go_wp2_with fail
        go_ret
        exact ⟨rfl, D3.out⟩
  · by_cases h2 : hi < 100
    · have h4 : lo < 100 := by omega
      have eH := airA_low h2
      have u1 : decide (100 ≤ hi) = false := decide_eq_false (by omega)
      rw [eH] at cH
      have eL := airA_low h4
      rw [eL] at cL
      clear eH eL hle
      have D0 := Lib.hid (Below.refl w.heap.size w)
      go_enter Try.func7, Try.ntmps7
      go_wp2_with fail
      refine (head_any _).mono ?_
      rintro e w1 ⟨rfl, hb⟩
      have D1 := Lib.hid (D0.out.trans (hb.mono D0.out.size))
      clear hb D0
      go_wp2_with fail
      refine (cL.out _).mono ?_
      rintro e w2 ⟨rfl, hb⟩
      have D2 := Lib.hid (D1.out.trans (hb.mono D1.out.size))
      clear hb D1
      go_wp2_with fail
      refine (cH.out _).mono ?_
      rintro e w3 ⟨rfl, hb⟩
      have D3 := Lib.hid (D2.out.trans (hb.mono D2.out.size))
      clear hb D2
      go_wp2_with fail
      go_ret
      exact ⟨rfl, D3.out⟩
    · by_cases h4 : lo < 100
      · skip
        have eH := airA_ok (n := hi) (by omega) (by omega)
        have u1 : decide (100 ≤ hi) = true := decide_eq_true (by omega)
        have u2 : decide (hi ≤ 900) = true := decide_eq_true (by omega)
        rw [eH] at cH
        have eL := airA_low h4
        rw [eL] at cL
        obtain ⟨q1, q2, q3⟩ := quo_falls (a := hi) (b := hi) (by omega) (Int.le_refl _) (by omega)
        clear q1
        generalize 900000 / hi = y at cH q2 q3
        have u3 : decide (y < 1000) = false := decide_eq_false (by omega)
        have u4 : decide (9000 < y) = false := decide_eq_false (by omega)
        clear eH eL hle
        have D0 := Lib.hid (Below.refl w.heap.size w)
        go_enter Try.func7, Try.ntmps7
        go_wp2_with fail
        refine (head_any _).mono ?_
        rintro e w1 ⟨rfl, hb⟩
        have D1 := Lib.hid (D0.out.trans (hb.mono D0.out.size))
        clear hb D0
        go_wp2_with fail
        refine (cL.out _).mono ?_
        rintro e w2 ⟨rfl, hb⟩
        have D2 := Lib.hid (D1.out.trans (hb.mono D1.out.size))
        clear hb D1
        go_wp2_with fail
        refine (cH.out _).mono ?_
        rintro e w3 ⟨rfl, hb⟩
        have D3 := Lib.hid (D2.out.trans (hb.mono D2.out.size))
        clear hb D2
        go_wp2_with fail
        go_ret
        exact ⟨rfl, D3.out⟩
      · skip
        have eH := airA_ok (n := hi) (by omega) (by omega)
        have u1 : decide (100 ≤ hi) = true := decide_eq_true (by omega)
        have u2 : decide (hi ≤ 900) = true := decide_eq_true (by omega)
        rw [eH] at cH
        have eL := airA_ok (n := lo) (by omega) (by omega)
        rw [eL] at cL
        obtain ⟨q1, q2, q3⟩ := quo_falls (a := lo) (b := hi) (by omega) hle (by omega)
        generalize 900000 / lo = x at cL q1
        generalize 900000 / hi = y at cH q2 q3 q1
        have u3 : decide (y < 1000) = false := decide_eq_false (by omega)
        have u4 : decide (9000 < y) = false := decide_eq_false (by omega)
        have u5 : decide (y ≤ x) = true := decide_eq_true (by omega)
        clear eH eL hle
        have D0 := Lib.hid (Below.refl w.heap.size w)
        go_enter Try.func7, Try.ntmps7
        go_wp2_with fail
        refine (head_any _).mono ?_
        rintro e w1 ⟨rfl, hb⟩
        have D1 := Lib.hid (D0.out.trans (hb.mono D0.out.size))
        clear hb D0
        go_wp2_with fail
        refine (cL.out _).mono ?_
        rintro e w2 ⟨rfl, hb⟩
        have D2 := Lib.hid (D1.out.trans (hb.mono D1.out.size))
        clear hb D1
        go_wp2_with fail
        refine (cH.out _).mono ?_
        rintro e w3 ⟨rfl, hb⟩
        have D3 := Lib.hid (D2.out.trans (hb.mono D2.out.size))
        clear hb D2
        go_wp2_with fail
        go_ret
        exact ⟨rfl, D3.out⟩
end Go.Proofs.Ytebkifhdbpeeoaa
