/-
  The law AirmassHours (layer 11): its walk.
-/
import Derived.Test.YtebkifhdbpeeoaaAmHead
set_option linter.unusedVariables false
set_option maxRecDepth 100000
namespace Go.Proofs.Ytebkifhdbpeeoaa
open Go.RowKit
open Ca (sid sid_lt sid_slot sid_night)
open Am
theorem tmod_zero {x : Int} (h : x % 5760 = 0) : Int.tmod x 5760 = 0 := Int.tmod_eq_zero_of_dvd (Int.dvd_of_emod_eq_zero h)
theorem horA_bad {c m : Int} (h : (okC c && isM m) = false) : horA c m = (0, 1) := by unfold horA; rw [h]; rfl
set_option maxHeartbeats 4000000 in
theorem hours_ok (c m : Nat) (hc : c < 32) (hm : m < 38400) (w : World) :
    Calls Try.prog 4 #[.int .i64 (c : Int), .int .i64 (m : Int)] w fun e w' => e = .returned (.bool true) ∧ Below w.heap.size w w' := by
  have c1 := Lib.hid (fun w => pHour_any (c : Int) (m : Int) (i64_nat (by omega)) (i64_nat (by omega)) w)
  rw [horA_ok hc hm] at c1
  have c2 := Lib.hid (fun w => pHour_any (((c + 1) % 32 : Nat) : Int) (m : Int) (i64_nat (by omega)) (i64_nat (by omega)) w)
  rw [horA_ok (c := (c + 1) % 32) (by omega) hm] at c2
  have c3 := Lib.hid (fun w => pHour_any (c : Int) ((m : Int) + 1) (i64_nat (by omega)) (by unfold I64; omega) w)
  have c4 := Lib.hid (fun w => pHour_any (c : Int) ((m : Int) + 96) (i64_nat (by omega)) (by unfold I64; omega) w)
  obtain ⟨r1, r2⟩ := hr_range (sid_lt m) hc
  obtain ⟨r3, r4⟩ := hr_range (sid_lt m) (show (c + 1) % 32 < 32 by omega)
  have h1 := hr_column (s := sid m) hc
  have h2 := hr_slot (s := sid m) (c := c)
  have h3 := hr_night (s := sid m) (c := c)
  have HC3 : Hid (m % 96 < 95 → horA (c : Int) ((m : Int) + 1) = (hr ((sid m + 60) % 5760) c, 0)) := Lib.hid (fun h => by
    have := horA_ok (c := c) (m := m + 1) hc (by omega)
    rw [show ((m + 1 : Nat) : Int) = (m : Int) + 1 by omega] at this
    rw [this]
    have e := sid_slot (n := m / 96) (s := m % 96) (by omega)
    rw [show 96 * (m / 96) + m % 96 = m by omega, show 96 * (m / 96) + (m % 96 + 1) = m + 1 by omega] at e
    rw [e])
  have HC4 : Hid (m + 96 < 38400 → horA (c : Int) ((m : Int) + 96) = (hr ((sid m + 16) % 5760) c, 0)) := Lib.hid (fun h => by
    have := horA_ok (c := c) (m := m + 96) hc (by omega)
    rw [show ((m + 96 : Nat) : Int) = (m : Int) + 96 by omega] at this
    rw [this]
    have e := sid_night (n := m / 96) (s := m % 96) (by omega)
    rw [show 96 * (m / 96) + m % 96 = m by omega, show 96 * (m / 96 + 1) + m % 96 = m + 96 by omega] at e
    rw [e])
  obtain ⟨r5, r6⟩ := hr_range (s := (sid m + 60) % 5760) (by omega) hc
  obtain ⟨r7, r8⟩ := hr_range (s := (sid m + 16) % 5760) (by omega) hc
  generalize hr (sid m) c = a at c1 r1 r2 h1 h2 h3
  generalize hr (sid m) ((c + 1) % 32) = b at c2 r3 r4 h1
  generalize hr ((sid m + 60) % 5760) c = b2 at h2 HC3 r5 r6
  generalize hr ((sid m + 16) % 5760) c = b3 at h3 HC4 r7 r8
  have g1 := tmod_zero h1
  have g2 := tmod_zero h2
  have g3 := tmod_zero h3
  have f1 : IntKind.i64.wrap (a - 180) = a - 180 := IntWalk.i64_in _ (by omega)
  have f2 : IntKind.i64.wrap (a - 180 - b) = a - 180 - b := IntWalk.i64_in _ (by omega)
  have f3 : IntKind.i64.wrap (a + 60) = a + 60 := IntWalk.i64_in _ (by omega)
  have f4 : IntKind.i64.wrap (a + 60 - b2) = a + 60 - b2 := IntWalk.i64_in _ (by omega)
  have f5 : IntKind.i64.wrap (a + 16) = a + 16 := IntWalk.i64_in _ (by omega)
  have f6 : IntKind.i64.wrap (a + 16 - b3) = a + 16 - b3 := IntWalk.i64_in _ (by omega)
  have f7 : IntKind.i64.wrap ((c : Int) + 1) = (c : Int) + 1 := IntWalk.i64_in _ (by omega)
  have f8 : IntKind.i64.wrap ((m : Int) + 1) = (m : Int) + 1 := IntWalk.i64_in _ (by omega)
  have f9 : IntKind.i64.wrap ((m : Int) + 96) = (m : Int) + 96 := IntWalk.i64_in _ (by omega)
  have e1 : Int.tmod ((c : Int) + 1) 32 = (((c + 1) % 32 : Nat) : Int) := by rw [Int.tmod_eq_emod_of_nonneg (by omega)]; omega
  have e2 : ((c : Int) + 1) % 32 = (((c + 1) % 32 : Nat) : Int) := by omega
  have e3 : Int.tmod (m : Int) 96 = ((m % 96 : Nat) : Int) := by rw [Int.tmod_eq_emod_of_nonneg (by omega)]; omega
  have e4 : (m : Int) % 96 = ((m % 96 : Nat) : Int) := by omega
  have t1 : decide (a < -2880) = false := decide_eq_false (by omega)
  have t2 : decide (2879 < a) = false := decide_eq_false (by omega)
  have t3 : decide ((c : Int) < 0) = false := decide_eq_false (by omega)
  have t4 : decide (31 < (c : Int)) = false := decide_eq_false (by omega)
  have t5 : decide ((m : Int) < 0) = false := decide_eq_false (by omega)
  have t6 : decide (38399 < (m : Int)) = false := decide_eq_false (by omega)
  have l1 : (c + 1) % 32 < 32 := by omega
  have l2 : m % 96 < 96 := by omega
  generalize (c + 1) % 32 = c' at c2 e1 e2 l1
  obtain ⟨z, hz⟩ : ∃ z, z = m % 96 := ⟨_, rfl⟩
  rw [← hz] at e3 e4 l2 HC3
  clear hz r1 r2 r3 r4 r5 r6 r7 r8
  have D0 := Lib.hid (Below.refl w.heap.size w)
  go_enter Try.func4, Try.ntmps4
  go_wp2_with fail
  refine (head_any _).mono ?_
  rintro e w1 ⟨rfl, hb⟩
  have D1 := Lib.hid (D0.out.trans (hb.mono D0.out.size))
  clear hb D0
  go_wp2_with fail
  refine (c1.out _).mono ?_
  rintro e w2 ⟨rfl, hb⟩
  have D2 := Lib.hid (D1.out.trans (hb.mono D1.out.size))
  clear hb D1
  go_wp2_with fail
  refine (c2.out _).mono ?_
  rintro e w3 ⟨rfl, hb⟩
  have D3 := Lib.hid (D2.out.trans (hb.mono D2.out.size))
  clear hb D2
  by_cases k0 : z < 95
  · skip
    have k1 : decide ((z : Int) < 95) = true := decide_eq_true (by omega)
    have k2 : decide (z < 95) = true := decide_eq_true k0
    rw [HC3.out k0] at c3
    go_wp2_with fail
    refine (c3.out _).mono ?_
    rintro e w4 ⟨rfl, hb⟩
    have D4 := Lib.hid (D3.out.trans (hb.mono D3.out.size))
    clear hb D3
    by_cases q0 : m + 96 < 38400
    · skip
      have q1 : decide (38399 < (m : Int) + 96) = false := decide_eq_false (by omega)
      rw [HC4.out q0] at c4
      go_wp2_with fail
      refine (c4.out _).mono ?_
      rintro e w5 ⟨rfl, hb⟩
      have D5 := Lib.hid (D4.out.trans (hb.mono D4.out.size))
      clear hb D4
      go_wp2_with fail
      go_ret
      exact ⟨rfl, D5.out⟩
    · skip
      have q1 : decide (38399 < (m : Int) + 96) = true := decide_eq_true (by omega)
      generalize (horA (c : Int) ((m : Int) + 96)).1 = x4 at c4
      generalize (horA (c : Int) ((m : Int) + 96)).2 = y4 at c4
      go_wp2_with fail
      refine (c4.out _).mono ?_
      rintro e w5 ⟨rfl, hb⟩
      have D5 := Lib.hid (D4.out.trans (hb.mono D4.out.size))
      clear hb D4
      go_wp2_with fail
      go_ret
      exact ⟨rfl, D5.out⟩
  · skip
    have k1 : decide ((z : Int) < 95) = false := decide_eq_false (by omega)
    have k2 : decide (z < 95) = false := decide_eq_false k0
    generalize (horA (c : Int) ((m : Int) + 1)).1 = x3 at c3
    generalize (horA (c : Int) ((m : Int) + 1)).2 = y3 at c3
    go_wp2_with fail
    refine (c3.out _).mono ?_
    rintro e w4 ⟨rfl, hb⟩
    have D4 := Lib.hid (D3.out.trans (hb.mono D3.out.size))
    clear hb D3
    by_cases q0 : m + 96 < 38400
    · skip
      have q1 : decide (38399 < (m : Int) + 96) = false := decide_eq_false (by omega)
      rw [HC4.out q0] at c4
      go_wp2_with fail
      refine (c4.out _).mono ?_
      rintro e w5 ⟨rfl, hb⟩
      have D5 := Lib.hid (D4.out.trans (hb.mono D4.out.size))
      clear hb D4
      go_wp2_with fail
      go_ret
      exact ⟨rfl, D5.out⟩
    · skip
      have q1 : decide (38399 < (m : Int) + 96) = true := decide_eq_true (by omega)
      generalize (horA (c : Int) ((m : Int) + 96)).1 = x4 at c4
      generalize (horA (c : Int) ((m : Int) + 96)).2 = y4 at c4
      go_wp2_with fail
      refine (c4.out _).mono ?_
      rintro e w5 ⟨rfl, hb⟩
      have D5 := Lib.hid (D4.out.trans (hb.mono D4.out.size))
      clear hb D4
      go_wp2_with fail
      go_ret
      exact ⟨rfl, D5.out⟩
set_option maxHeartbeats 4000000 in
theorem walkAirmassHours (c m : Int) (w : World) (hc : -9223372036854775808 ≤ c ∧ c ≤ 9223372036854775807) (hm : -9223372036854775808 ≤ m ∧ m ≤ 9223372036854775807) :
    Calls Try.prog 4 #[.int .i64 c, .int .i64 m] w fun e w' => e = .returned (.bool true) ∧ Below w.heap.size w w' := by
  cases hA : (okC c && isM m) with
  | true =>
    simp only [Bool.and_eq_true] at hA
    obtain ⟨a, rfl, ha⟩ := okC_yes hA.1
    obtain ⟨b, rfl, hb⟩ := isM_yes hA.2
    exact hours_ok a b ha hb w
  | false =>
    have c1 := Lib.hid (fun w => pHour_any c m (i64_of hc) (i64_of hm) w)
    rw [horA_bad hA] at c1
    have hno : c < 0 ∨ 31 < c ∨ m < 0 ∨ 38399 < m := by
      simp only [okC, isM, Bool.and_eq_false_iff, decide_eq_false_iff_not] at hA
      omega
    clear hA hc hm
    by_cases h1 : c < 0
    · have t1 : decide (c < 0) = true := decide_eq_true h1
      have D0 := Lib.hid (Below.refl w.heap.size w)
      go_enter Try.func4, Try.ntmps4
      go_wp2_with fail
      refine (head_any _).mono ?_
      rintro e w1 ⟨rfl, hb⟩
      have D1 := Lib.hid (D0.out.trans (hb.mono D0.out.size))
      clear hb D0
      go_wp2_with fail
      refine (c1.out _).mono ?_
      rintro e w2 ⟨rfl, hb⟩
      have D2 := Lib.hid (D1.out.trans (hb.mono D1.out.size))
      clear hb D1
      go_wp2_with fail
      go_ret
      exact ⟨rfl, D2.out⟩
    · have t1 : decide (c < 0) = false := decide_eq_false h1
      by_cases h2 : 31 < c
      · have t2 : decide (31 < c) = true := decide_eq_true h2
        have D0 := Lib.hid (Below.refl w.heap.size w)
        go_enter Try.func4, Try.ntmps4
        go_wp2_with fail
        refine (head_any _).mono ?_
        rintro e w1 ⟨rfl, hb⟩
        have D1 := Lib.hid (D0.out.trans (hb.mono D0.out.size))
        clear hb D0
        go_wp2_with fail
        refine (c1.out _).mono ?_
        rintro e w2 ⟨rfl, hb⟩
        have D2 := Lib.hid (D1.out.trans (hb.mono D1.out.size))
        clear hb D1
        go_wp2_with fail
        go_ret
        exact ⟨rfl, D2.out⟩
      · have t2 : decide (31 < c) = false := decide_eq_false h2
        by_cases h3 : m < 0
        · have t3 : decide (m < 0) = true := decide_eq_true h3
          have D0 := Lib.hid (Below.refl w.heap.size w)
          go_enter Try.func4, Try.ntmps4
          go_wp2_with fail
          refine (head_any _).mono ?_
          rintro e w1 ⟨rfl, hb⟩
          have D1 := Lib.hid (D0.out.trans (hb.mono D0.out.size))
          clear hb D0
          go_wp2_with fail
          refine (c1.out _).mono ?_
          rintro e w2 ⟨rfl, hb⟩
          have D2 := Lib.hid (D1.out.trans (hb.mono D1.out.size))
          clear hb D1
          go_wp2_with fail
          go_ret
          exact ⟨rfl, D2.out⟩
        · have t3 : decide (m < 0) = false := decide_eq_false h3
          have t4 : decide (38399 < m) = true := decide_eq_true (by omega)
          have D0 := Lib.hid (Below.refl w.heap.size w)
          go_enter Try.func4, Try.ntmps4
          go_wp2_with fail
          refine (head_any _).mono ?_
          rintro e w1 ⟨rfl, hb⟩
          have D1 := Lib.hid (D0.out.trans (hb.mono D0.out.size))
          clear hb D0
          go_wp2_with fail
          refine (c1.out _).mono ?_
          rintro e w2 ⟨rfl, hb⟩
          have D2 := Lib.hid (D1.out.trans (hb.mono D1.out.size))
          clear hb D1
          go_wp2_with fail
          go_ret
          exact ⟨rfl, D2.out⟩
end Go.Proofs.Ytebkifhdbpeeoaa
