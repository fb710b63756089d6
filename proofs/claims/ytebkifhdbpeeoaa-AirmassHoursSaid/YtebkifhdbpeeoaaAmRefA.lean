/-
  The document's own answers of layer 11: hour angles, heights, airmasses.
-/
import Derived.Test.YtebkifhdbpeeoaaAmAt
import Derived.Test.YtebkifhdbpeeoaaCaRefA
set_option linter.unusedVariables false
set_option maxRecDepth 100000
namespace Go.Proofs.Ytebkifhdbpeeoaa.Am
open Go.RowKit
open Ca (sid sid_lt)
theorem refTis_any (t : Int) (w : World) : Calls Try.prog 32 #[.int .i64 t] w fun e w' => e = .returned (.bool (okT t)) ∧ w = w' := by
  obtain ⟨b, hb0⟩ : ∃ b, b = okT t := ⟨_, rfl⟩
  have HB := Lib.hid hb0
  rw [← hb0]
  clear hb0
  by_cases h1 : 0 ≤ t
  · by_cases h2 : t < 512
    · have hb : Hid (b = true) := Lib.hid (by rw [HB.out]; simp [okT, h1, h2])
      go_enter Try.func32, Try.ntmps32
      go_wp2_with fail
      go_ret
      exact ⟨by rw [hb.out]; rfl, rfl⟩
    · have hb : Hid (b = false) := Lib.hid (by rw [HB.out]; simp [okT, h1, h2])
      have t2 : decide (t < 512) = false := decide_eq_false h2
      clear h2
      go_enter Try.func32, Try.ntmps32
      go_wp2_with fail
      go_ret
      exact ⟨by rw [hb.out]; rfl, rfl⟩
  · have hb : Hid (b = false) := Lib.hid (by rw [HB.out]; simp [okT, h1])
    go_enter Try.func32, Try.ntmps32
    go_wp2_with fail
    go_ret
    exact ⟨by rw [hb.out]; rfl, rfl⟩
theorem refAbs_any (n : Int) (h : -1000000 ≤ n ∧ n ≤ 1000000) (w : World) : Calls Try.prog 33 #[.int .i64 n] w fun e w' => e = .returned (.int .i64 ((n.natAbs : Nat) : Int)) ∧ w = w' := by
  obtain ⟨h1, h2⟩ := h
  have f1 : IntKind.i64.wrap (0 - n) = -n := by rw [IntWalk.i64_in _ (by omega)]; omega
  have f2 : IntKind.i64.wrap (-n) = -n := IntWalk.i64_in _ (by omega)
  by_cases h : n < 0
  · have t1 : decide (n < 0) = true := decide_eq_true h
    have HV : Hid (((n.natAbs : Nat) : Int) = -n) := Lib.hid (by omega)
    rw [HV.out]
    go_enter Try.func33, Try.ntmps33
    go_wp2_with fail
    go_ret
    exact ⟨rfl, rfl⟩
  · have t1 : decide (n < 0) = false := decide_eq_false h
    have HV : Hid (((n.natAbs : Nat) : Int) = n) := Lib.hid (by omega)
    rw [HV.out]
    go_enter Try.func33, Try.ntmps33
    go_wp2_with fail
    go_ret
    exact ⟨rfl, rfl⟩
theorem refAirmass_any (n : Int) (w : World) : Calls Try.prog 16 #[.int .i64 n] w (GivesN (airA n).1 (airA n).2 w) := by
  by_cases h1 : 900 < n
  · have HA : Hid (airA n = (0, 1)) := Lib.hid (by unfold airA; rw [if_pos h1])
    have t1 : decide (900 < n) = true := decide_eq_true h1
    rw [HA.out]
    go_enter Try.func16, Try.ntmps16
    go_wp2_with fail
    go_ret2
    exact ⟨rfl, Below.refl _ _⟩
  · have t1 : decide (900 < n) = false := decide_eq_false h1
    by_cases h2 : n < 100
    · have HA : Hid (airA n = (0, 19)) := Lib.hid (by unfold airA; rw [if_neg h1, if_pos h2])
      have t2 : decide (n < 100) = true := decide_eq_true h2
      rw [HA.out]
      go_enter Try.func16, Try.ntmps16
      go_wp2_with fail
      go_ret2
      exact ⟨rfl, Below.refl _ _⟩
    · have HA : Hid (airA n = (900000 / n, 0)) := Lib.hid (by unfold airA; rw [if_neg h1, if_neg h2])
      have t2 : decide (n < 100) = false := decide_eq_false h2
      rw [HA.out]
      obtain ⟨q, hq⟩ : ∃ q, q = 900000 / n := ⟨_, rfl⟩
      have e1 : Int.tdiv 900000 n = q := by rw [Int.tdiv_eq_ediv_of_nonneg (by omega), hq]
      have b1 : 0 ≤ q := by rw [hq]; exact Int.ediv_nonneg (by omega) (by omega)
      have b2 : q ≤ 900000 := by rw [hq]; exact Int.ediv_le_self _ (by omega)
      have f1 : IntKind.i64.wrap q = q := IntWalk.i64_in _ (by omega)
      have n0 : ¬ n = 0 := by omega
      have n1 : (n == 0) = false := by rw [beq_eq_false_iff_ne]; omega
      rw [← hq]
      have e2 : 900000 / n = q := hq.symm
      clear hq
      go_enter Try.func16, Try.ntmps16
      go_wp2_with fail
      go_ret2
      exact ⟨rfl, Below.refl _ _⟩
def adj (x : Int) : Int := if x < -2880 then x + 5760 else if 2879 < x then x - 5760 else x
theorem adj_hr (s c : Nat) : hr s c = adj ((s : Int) - 180 * c - 90) := rfl
theorem adj_up {x : Int} (h : x < -2880) (hl : -5670 ≤ x) : adj (x + 5760) = adj x := by
  unfold adj
  rw [if_pos h, if_neg (by omega), if_neg (by omega)]
theorem adj_down {x : Int} (h : 2879 < x) (hl : x ≤ 5669) : adj (x - 5760) = adj x := by
  unfold adj
  rw [if_neg (show ¬ x < -2880 by omega), if_pos h, if_neg (by omega), if_neg (by omega)]
theorem adj_in {x : Int} (h1 : -2880 ≤ x) (h2 : x ≤ 2879) : adj x = x := by
  unfold adj
  rw [if_neg (by omega), if_neg (by omega)]
set_option maxHeartbeats 1000000 in
theorem refHour_ok (c m : Nat) (hc : c < 32) (hm : m < 38400) (w : World) : Calls Try.prog 12 #[.int .i64 (c : Int), .int .i64 (m : Int)] w (GivesN (hr (sid m) c) 0 w) := by
  have cI : Hid (∀ w, Calls Try.prog 28 #[.int .i64 (m : Int)] w fun e w' => e = .returned (.bool true) ∧ w = w') := Lib.hid (fun w => by have := refIs_any (m : Int) w; rwa [isM_nat hm] at this)
  have cS := Lib.hid (fun w => refSid_any (m : Int) w)
  rw [sidA_ok hm] at cS
  have hs := sid_lt m
  rw [adj_hr]
  generalize sid m = s at cS hs
  obtain ⟨x0, hx0⟩ : ∃ x, x = (s : Int) - 180 * c - 90 := ⟨_, rfl⟩
  rw [← hx0]
  obtain ⟨R, hR⟩ : ∃ R, R = adj x0 := ⟨_, rfl⟩
  rw [← hR]
  have HR := Lib.hid hR
  have b1 : -5670 ≤ x0 := by omega
  have b2 : x0 ≤ 5669 := by omega
  have t1 : decide ((c : Int) < 0) = false := decide_eq_false (by omega)
  have t2 : decide (31 < (c : Int)) = false := decide_eq_false (by omega)
  have f1 : IntKind.i64.wrap (180 * (c : Int)) = 180 * (c : Int) := IntWalk.i64_in _ (by omega)
  have f2 : IntKind.i64.wrap ((s : Int) - 180 * (c : Int)) = (s : Int) - 180 * (c : Int) := IntWalk.i64_in _ (by omega)
  have f3 : IntKind.i64.wrap ((s : Int) - 180 * (c : Int) - 90) = x0 := by rw [IntWalk.i64_in _ (by omega)]; exact hx0.symm
  clear hx0 hR
  go_enter Try.func12, Try.ntmps12
  go_wp2_with fail
  refine (cI.out _).mono ?_
  rintro e w' ⟨rfl, rfl⟩
  go_wp2_with fail
  refine (cS.out _).mono ?_
  rintro e w1 ⟨rfl, hb⟩
  have D1 := Lib.hid hb
  clear hb
  go_wp2_with fail
  go_loopw [8] (fun v wr => ∃ x : Int, v = .int .i64 x ∧ Hid (adj x = R) ∧ -5670 ≤ x ∧ x ≤ 5669 ∧ Hid (Below w.heap.size w wr)) (fun v _ => (-(intOf v)).toNat)
  case atStart => exact ⟨x0, rfl, Lib.hid HR.out.symm, b1, b2, D1⟩
  case round =>
    obtain ⟨x, rfl, hx, c1, c2, hD⟩ := hrel
    by_cases h : x < -2880
    · have u1 : decide (x < -2880) = true := decide_eq_true h
      have u2 : IntKind.i64.wrap (x + 5760) = x + 5760 := IntWalk.i64_in _ (by omega)
      have HX : Hid (adj (x + 5760) = R) := Lib.hid ((adj_up h c1).trans hx.out)
      go_wp2_with fail
      go_roundw
      case rel => exact ⟨x + 5760, rfl, HX, by omega, by omega, hD⟩
      case measure => simp [intOf]; omega
    · have u1 : decide (x < -2880) = false := decide_eq_false h
      have h' : -2880 ≤ x := by omega
      clear h
      go_wp2_with fail
      clear u1
      obtain ⟨wo, rfl⟩ : ∃ wo : World, wo = wr := ⟨_, rfl⟩
      go_loopw [8] (fun v wr => ∃ x : Int, v = .int .i64 x ∧ Hid (adj x = R) ∧ -2880 ≤ x ∧ x ≤ 5669 ∧ Hid (Below w.heap.size w wr)) (fun v _ => (intOf v).toNat)
      case atStart => exact ⟨x, rfl, hx, h', c2, hD⟩
      case round =>
        clear hx hD c1 c2 h'
        obtain ⟨y, rfl, hy, c1, c2, hD⟩ := hrel
        by_cases h : 2879 < y
        · have u1 : decide (2879 < y) = true := decide_eq_true h
          have u2 : IntKind.i64.wrap (y - 5760) = y - 5760 := IntWalk.i64_in _ (by omega)
          have HX : Hid (adj (y - 5760) = R) := Lib.hid ((adj_down h c2).trans hy.out)
          go_wp2_with fail
          go_roundw
          case rel => exact ⟨y - 5760, rfl, HX, by omega, by omega, hD⟩
          case measure => simp [intOf]; omega
        · have u1 : decide (2879 < y) = false := decide_eq_false h
          have HY : Hid (y = R) := Lib.hid (by rw [← hy.out, adj_in c1 (by omega)])
          clear h
          go_wp2_with fail
          go_ret2
          exact ⟨by rw [HY.out]; rfl, hD.out⟩
theorem refHour_any (c m : Int) (w : World) : Calls Try.prog 12 #[.int .i64 c, .int .i64 m] w (GivesN (horA c m).1 (horA c m).2 w) := by
  have cI := Lib.hid (fun w => refIs_any m w)
  by_cases h0 : c < 0
  · have HA : Hid (horA c m = (0, 1)) := Lib.hid (by unfold horA okC; rw [if_neg (by simp; omega)])
    rw [HA.out]
    have t1 : decide (c < 0) = true := decide_eq_true h0
    go_enter Try.func12, Try.ntmps12
    go_wp2_with fail
    go_ret2
    exact ⟨rfl, Below.refl _ _⟩
  · have t1 : decide (c < 0) = false := decide_eq_false h0
    by_cases h1 : 31 < c
    · have HA : Hid (horA c m = (0, 1)) := Lib.hid (by unfold horA okC; rw [if_neg (by simp; omega)])
      rw [HA.out]
      have t2 : decide (31 < c) = true := decide_eq_true h1
      go_enter Try.func12, Try.ntmps12
      go_wp2_with fail
      go_ret2
      exact ⟨rfl, Below.refl _ _⟩
    · have t2 : decide (31 < c) = false := decide_eq_false h1
      cases hm : isM m with
      | false =>
        have HA : Hid (horA c m = (0, 1)) := Lib.hid (by unfold horA; rw [hm, if_neg (by simp)])
        rw [HA.out]
        rw [hm] at cI
        clear hm
        go_enter Try.func12, Try.ntmps12
        go_wp2_with fail
        refine (cI.out _).mono ?_
        rintro e w' ⟨rfl, rfl⟩
        go_wp2_with fail
        go_ret2
        exact ⟨rfl, Below.refl _ _⟩
      | true =>
        obtain ⟨k, rfl, hk⟩ := isM_yes hm
        obtain ⟨q, rfl⟩ : ∃ q : Nat, c = (q : Int) := ⟨c.toNat, by omega⟩
        rw [horA_ok (by omega) hk]
        exact refHour_ok q k (by omega) hk w
set_option maxHeartbeats 1000000 in
theorem refHeight_ok (s t m : Nat) (hs : s < 16) (ht' : t < 512) (hm : m < 38400) (w : World) : Calls Try.prog 14 #[.int .i64 (s : Int), .int .i64 (t : Int), .int .i64 (m : Int)] w (GivesN (ht t s m) 0 w) := by
  have cI : Hid (∀ w, Calls Try.prog 28 #[.int .i64 (m : Int)] w fun e w' => e = .returned (.bool true) ∧ w = w') := Lib.hid (fun w => by have := refIs_any (m : Int) w; rwa [isM_nat hm] at this)
  have cT : Hid (∀ w, Calls Try.prog 32 #[.int .i64 (t : Int)] w fun e w' => e = .returned (.bool true) ∧ w = w') := Lib.hid (fun w => by have := refTis_any (t : Int) w; rwa [okT_nat ht'] at this)
  have cH := Lib.hid (fun w => refHour_ok (t % 32) m (by omega) hm w)
  obtain ⟨h1, h2⟩ := hr_range (sid_lt m) (show t % 32 < 32 by omega)
  obtain ⟨R, hR⟩ : ∃ R, R = ht t s m := ⟨_, rfl⟩
  have hR2 : R = 900 - 50 * (((t / 32 - s) + (s - t / 32) : Nat) : Int) - ((5 * (hr (sid m) (t % 32)).natAbs / 16 : Nat) : Int) := hR
  rw [← hR]
  clear hR
  generalize hr (sid m) (t % 32) = h at cH h1 h2 hR2
  have e1 : Int.tmod (t : Int) 32 = ((t % 32 : Nat) : Int) := by rw [Int.tmod_eq_emod_of_nonneg (by omega)]; omega
  have e2 : Int.tdiv (t : Int) 32 = ((t / 32 : Nat) : Int) := by rw [Int.tdiv_eq_ediv_of_nonneg (by omega)]; omega
  have e3 : (t : Int) % 32 = ((t % 32 : Nat) : Int) := by omega
  have e4 : (t : Int) / 32 = ((t / 32 : Nat) : Int) := by omega
  have q1 : t / 32 < 16 := by omega
  generalize t / 32 = q at e2 e4 q1 hR2
  generalize t % 32 = p at e1 e3 cH
  have cA := Lib.hid (fun w => refAbs_any ((q : Int) - (s : Int)) (by omega) w)
  have cB := Lib.hid (fun w => refAbs_any h (by omega) w)
  obtain ⟨A, hA⟩ : ∃ A, A = ((q : Int) - (s : Int)).natAbs := ⟨_, rfl⟩
  obtain ⟨B, hB⟩ : ∃ B, B = h.natAbs := ⟨_, rfl⟩
  rw [← hA] at cA
  rw [← hB] at cB hR2
  obtain ⟨D, hD⟩ : ∃ D, D = 5 * B / 16 := ⟨_, rfl⟩
  rw [← hD] at hR2
  have f0 : IntKind.i64.wrap ((q : Int) - (s : Int)) = (q : Int) - (s : Int) := IntWalk.i64_in _ (by omega)
  have f1 : IntKind.i64.wrap (50 * (A : Int)) = 50 * (A : Int) := IntWalk.i64_in _ (by omega)
  have f2 : IntKind.i64.wrap (900 - 50 * (A : Int)) = 900 - 50 * (A : Int) := IntWalk.i64_in _ (by omega)
  have f3 : IntKind.i64.wrap (5 * (B : Int)) = 5 * (B : Int) := IntWalk.i64_in _ (by omega)
  have e5 : Int.tdiv (5 * (B : Int)) 16 = (D : Int) := by rw [Int.tdiv_eq_ediv_of_nonneg (by omega)]; omega
  have e6 : (5 * (B : Int)) / 16 = (D : Int) := by omega
  have q2 : D ≤ 900 := by omega
  have f4 : IntKind.i64.wrap (900 - 50 * (A : Int) - (D : Int)) = R := by rw [IntWalk.i64_in _ (by omega)]; omega
  have t1 : decide ((s : Int) < 0) = false := decide_eq_false (by omega)
  have t2 : decide (15 < (s : Int)) = false := decide_eq_false (by omega)
  clear hR2 hA hB hD
  go_enter Try.func14, Try.ntmps14
  go_wp2_with fail
  refine (cT.out _).mono ?_
  rintro e w' ⟨rfl, rfl⟩
  go_wp2_with fail
  refine (cI.out _).mono ?_
  rintro e w' ⟨rfl, rfl⟩
  go_wp2_with fail
  refine (cH.out _).mono ?_
  rintro e w1 ⟨rfl, hb⟩
  have D1 := Lib.hid hb
  clear hb
  go_wp2_with fail
  refine (cA.out _).mono ?_
  rintro e w' ⟨rfl, rfl⟩
  go_wp2_with fail
  refine (cB.out _).mono ?_
  rintro e w' ⟨rfl, rfl⟩
  go_wp2_with fail
  go_ret2
  exact ⟨rfl, D1.out⟩
theorem refHeight_any (s t m : Int) (w : World) : Calls Try.prog 14 #[.int .i64 s, .int .i64 t, .int .i64 m] w (GivesN (heiA s t m).1 (heiA s t m).2 w) := by
  have cI := Lib.hid (fun w => refIs_any m w)
  have cT := Lib.hid (fun w => refTis_any t w)
  by_cases h0 : s < 0
  · skip
    have HA : Hid (heiA s t m = (0, 1)) := Lib.hid (by unfold heiA okS; rw [if_neg (by simp; omega)])
    have t1 : decide (s < 0) = true := decide_eq_true h0
    rw [HA.out]
    go_enter Try.func14, Try.ntmps14
    go_wp2_with fail
    go_ret2
    exact ⟨rfl, Below.refl _ _⟩
  · have t1 : decide (s < 0) = false := decide_eq_false h0
    by_cases h1 : 15 < s
    · skip
      have HA : Hid (heiA s t m = (0, 1)) := Lib.hid (by unfold heiA okS; rw [if_neg (by simp; omega)])
      have t2 : decide (15 < s) = true := decide_eq_true h1
      rw [HA.out]
      go_enter Try.func14, Try.ntmps14
      go_wp2_with fail
      go_ret2
      exact ⟨rfl, Below.refl _ _⟩
    · have t2 : decide (15 < s) = false := decide_eq_false h1
      cases hT : okT t with
      | false =>
        have HA : Hid (heiA s t m = (0, 1)) := Lib.hid (by unfold heiA; rw [hT, if_neg (by simp)])
        rw [hT] at cT
        clear hT
        rw [HA.out]
        go_enter Try.func14, Try.ntmps14
        go_wp2_with fail
        refine (cT.out _).mono ?_
        rintro e w' ⟨rfl, rfl⟩
        go_wp2_with fail
        go_ret2
        exact ⟨rfl, Below.refl _ _⟩
      | true =>
        cases hm : isM m with
        | false =>
          have HA : Hid (heiA s t m = (0, 1)) := Lib.hid (by unfold heiA; rw [hm, if_neg (by simp)])
          rw [hT] at cT
          rw [hm] at cI
          clear hT hm
          rw [HA.out]
          go_enter Try.func14, Try.ntmps14
          go_wp2_with fail
          refine (cT.out _).mono ?_
          rintro e w' ⟨rfl, rfl⟩
          go_wp2_with fail
          refine (cI.out _).mono ?_
          rintro e w' ⟨rfl, rfl⟩
          go_wp2_with fail
          go_ret2
          exact ⟨rfl, Below.refl _ _⟩
        | true =>
          obtain ⟨k, rfl, hk⟩ := isM_yes hm
          obtain ⟨u, rfl, hu⟩ := okT_yes hT
          obtain ⟨q, rfl⟩ : ∃ q : Nat, s = (q : Int) := ⟨s.toNat, by omega⟩
          rw [heiA_ok (by omega) hu hk]
          exact refHeight_ok q u k (by omega) hu hk w
end Go.Proofs.Ytebkifhdbpeeoaa.Am
