/-
  The law AirmassHeights (layer 11): its walk.
-/
import Derived.Test.YtebkifhdbpeeoaaAmHead
set_option linter.unusedVariables false
set_option maxRecDepth 100000
namespace Go.Proofs.Ytebkifhdbpeeoaa
open Go.RowKit
open Ca (sid sid_lt sid_slot sid_night)
open Am
theorem labs_any (n : Int) (h : -1000000 ≤ n ∧ n ≤ 1000000) (w : World) : Calls Try.prog 20 #[.int .i64 n] w fun e w' => e = .returned (.int .i64 ((n.natAbs : Nat) : Int)) ∧ w = w' := by
  obtain ⟨h1, h2⟩ := h
  have f2 : IntKind.i64.wrap (-n) = -n := IntWalk.i64_in _ (by omega)
  have f1 : IntKind.i64.wrap (0 - n) = -n := by rw [IntWalk.i64_in _ (by omega)]; omega
  have f3 : max n (-n) = ((n.natAbs : Nat) : Int) := by omega
  generalize ((n.natAbs : Nat) : Int) = R at f3
  go_enter Try.func20, Try.ntmps20
  go_wp2_with fail
  go_ret
  exact ⟨rfl, rfl⟩
theorem bnd_abs (q s : Nat) : ((q : Int) - (s : Int)).natAbs = Sk.bnd q s := by unfold Sk.bnd; omega
theorem heiA_bad {s t m : Int} (h : (okS s && okT t && isM m) = false) : heiA s t m = (0, 1) := by unfold heiA; rw [h]; rfl
set_option maxHeartbeats 4000000 in
theorem heights_ok (s t u m n : Nat) (hs : s < 16) (ht' : t < 512) (hu : u < 512) (hm : m < 38400) (hn : n < 38400) (w : World) :
    Calls Try.prog 5 #[.int .i64 (s : Int), .int .i64 (t : Int), .int .i64 (u : Int), .int .i64 (m : Int), .int .i64 (n : Int)] w fun e w' => e = .returned (.bool true) ∧ Below w.heap.size w w' := by
  have c1 := Lib.hid (fun w => pHeight_any (s : Int) (t : Int) (m : Int) (i64_nat (by omega)) (i64_nat (by omega)) (i64_nat (by omega)) w)
  have c2 := Lib.hid (fun w => pHeight_any (s : Int) (u : Int) (n : Int) (i64_nat (by omega)) (i64_nat (by omega)) (i64_nat (by omega)) w)
  rw [heiA_ok hs ht' hm] at c1
  rw [heiA_ok hs hu hn] at c2
  have d1 := Lib.hid (fun w => pHour_any ((t % 32 : Nat) : Int) (m : Int) (i64_nat (by omega)) (i64_nat (by omega)) w)
  have d2 := Lib.hid (fun w => pHour_any ((u % 32 : Nat) : Int) (n : Int) (i64_nat (by omega)) (i64_nat (by omega)) w)
  rw [horA_ok (by omega) hm] at d1
  rw [horA_ok (by omega) hn] at d2
  obtain ⟨r1, r2⟩ := ht_range (m := m) ht' hs
  obtain ⟨r3, r4⟩ := ht_range (m := n) hu hs
  obtain ⟨r5, r6⟩ := hr_range (sid_lt m) (show t % 32 < 32 by omega)
  obtain ⟨r7, r8⟩ := hr_range (sid_lt n) (show u % 32 < 32 by omega)
  have HM : Hid (Sk.bnd (t / 32) s ≤ Sk.bnd (u / 32) s → (hr (sid m) (t % 32)).natAbs ≤ (hr (sid n) (u % 32)).natAbs → ht u s n ≤ ht t s m) := Lib.hid (fun h1 h2 => htA_mono h1 h2)
  generalize ht t s m = x at c1 r1 r2 HM
  generalize ht u s n = y at c2 r3 r4 HM
  generalize hr (sid m) (t % 32) = h at d1 r5 r6 HM
  generalize hr (sid n) (u % 32) = k at d2 r7 r8 HM
  have e1 : Int.tmod (t : Int) 32 = ((t % 32 : Nat) : Int) := by rw [Int.tmod_eq_emod_of_nonneg (by omega)]; omega
  have e2 : Int.tmod (u : Int) 32 = ((u % 32 : Nat) : Int) := by rw [Int.tmod_eq_emod_of_nonneg (by omega)]; omega
  have e3 : (t : Int) % 32 = ((t % 32 : Nat) : Int) := by omega
  have e4 : (u : Int) % 32 = ((u % 32 : Nat) : Int) := by omega
  have e5 : Int.tdiv (t : Int) 32 = ((t / 32 : Nat) : Int) := by rw [Int.tdiv_eq_ediv_of_nonneg (by omega)]; omega
  have e6 : Int.tdiv (u : Int) 32 = ((u / 32 : Nat) : Int) := by rw [Int.tdiv_eq_ediv_of_nonneg (by omega)]; omega
  have e7 : (t : Int) / 32 = ((t / 32 : Nat) : Int) := by omega
  have e8 : (u : Int) / 32 = ((u / 32 : Nat) : Int) := by omega
  have l1 : t / 32 < 16 := by omega
  have l2 : u / 32 < 16 := by omega
  have l3 : t % 32 < 32 := by omega
  have l4 : u % 32 < 32 := by omega
  generalize t / 32 = q1 at e5 e7 l1 HM
  generalize u / 32 = q2 at e6 e8 l2 HM
  generalize t % 32 = p1 at e1 e3 l3 d1
  generalize u % 32 = p2 at e2 e4 l4 d2
  have a1 := Lib.hid (fun w => labs_any ((q1 : Int) - (s : Int)) (by omega) w)
  have a2 := Lib.hid (fun w => labs_any ((q2 : Int) - (s : Int)) (by omega) w)
  have a3 := Lib.hid (fun w => labs_any h (by omega) w)
  have a4 := Lib.hid (fun w => labs_any k (by omega) w)
  rw [bnd_abs] at a1 a2
  generalize Sk.bnd q1 s = b1 at a1 HM
  generalize Sk.bnd q2 s = b2 at a2 HM
  generalize h.natAbs = z1 at a3 HM
  generalize k.natAbs = z2 at a4 HM
  have f1 : IntKind.i64.wrap ((q1 : Int) - (s : Int)) = (q1 : Int) - (s : Int) := IntWalk.i64_in _ (by omega)
  have f2 : IntKind.i64.wrap ((q2 : Int) - (s : Int)) = (q2 : Int) - (s : Int) := IntWalk.i64_in _ (by omega)
  obtain ⟨lo, hlo⟩ : ∃ v, v = min x y := ⟨_, rfl⟩
  obtain ⟨hi, hhi⟩ : ∃ v, v = max x y := ⟨_, rfl⟩
  have m1 : min x y = lo := hlo.symm
  have m2 : max x y = hi := hhi.symm
  have m3 : decide (lo < -750) = false := decide_eq_false (by omega)
  have m4 : decide (900 < hi) = false := decide_eq_false (by omega)
  clear hlo hhi r1 r2 r3 r4 r5 r6 r7 r8
  have D0 := Lib.hid (Below.refl w.heap.size w)
  go_enter Try.func5, Try.ntmps5
  go_wp2_with fail
  refine (head_any _).mono ?_
  rintro e w1 ⟨rfl, hb⟩
  have D1 := Lib.hid (D0.out.trans (hb.mono D0.out.size))
  clear hb D0
  go_wp2_with fail
  refine (c1.out _).mono ?_
  rintro e w2 ⟨rfl, hb⟩
  have D2 := Lib.hid (D1.out.trans (hb.mono D1.out.size))
  clear hb D1
  go_wp2_with fail
  refine (c2.out _).mono ?_
  rintro e w3 ⟨rfl, hb⟩
  have D3 := Lib.hid (D2.out.trans (hb.mono D2.out.size))
  clear hb D2
  go_wp2_with fail
  refine (d1.out _).mono ?_
  rintro e w4 ⟨rfl, hb⟩
  have D4 := Lib.hid (D3.out.trans (hb.mono D3.out.size))
  clear hb D3
  go_wp2_with fail
  refine (d2.out _).mono ?_
  rintro e w5 ⟨rfl, hb⟩
  have D5 := Lib.hid (D4.out.trans (hb.mono D4.out.size))
  clear hb D4
  go_wp2_with fail
  refine (a1.out _).mono ?_
  rintro e wk ⟨rfl, rfl⟩
  go_wp2_with fail
  refine (a2.out _).mono ?_
  rintro e wk ⟨rfl, rfl⟩
  by_cases k1 : b2 < b1
  · have v1 : decide ((b2 : Int) < (b1 : Int)) = true := decide_eq_true (by omega)
    have v2 : decide (b2 < b1) = true := decide_eq_true k1
    go_wp2_with fail
    go_ret
    exact ⟨rfl, D5.out⟩
  · have v1 : decide ((b2 : Int) < (b1 : Int)) = false := decide_eq_false (by omega)
    have v2 : decide (b2 < b1) = false := decide_eq_false k1
    go_wp2_with fail
    refine (a3.out _).mono ?_
    rintro e wk ⟨rfl, rfl⟩
    go_wp2_with fail
    refine (a4.out _).mono ?_
    rintro e wk ⟨rfl, rfl⟩
    by_cases k2 : z2 < z1
    · have v3 : decide ((z2 : Int) < (z1 : Int)) = true := decide_eq_true (by omega)
      have v4 : decide (z2 < z1) = true := decide_eq_true k2
      go_wp2_with fail
      go_ret
      exact ⟨rfl, D5.out⟩
    · have v3 : decide ((z2 : Int) < (z1 : Int)) = false := decide_eq_false (by omega)
      have v4 : decide (z2 < z1) = false := decide_eq_false k2
      have v5 : decide (y ≤ x) = true := decide_eq_true (HM.out (by omega) (by omega))
      go_wp2_with fail
      go_ret
      exact ⟨rfl, D5.out⟩
set_option maxHeartbeats 4000000 in
theorem walkAirmassHeights (s t u m n : Int) (w : World) (hs : -9223372036854775808 ≤ s ∧ s ≤ 9223372036854775807) (ht : -9223372036854775808 ≤ t ∧ t ≤ 9223372036854775807) (hu : -9223372036854775808 ≤ u ∧ u ≤ 9223372036854775807) (hm : -9223372036854775808 ≤ m ∧ m ≤ 9223372036854775807) (hn : -9223372036854775808 ≤ n ∧ n ≤ 9223372036854775807) :
    Calls Try.prog 5 #[.int .i64 s, .int .i64 t, .int .i64 u, .int .i64 m, .int .i64 n] w fun e w' => e = .returned (.bool true) ∧ Below w.heap.size w w' := by
  cases hA : (okS s && okT t && isM m) with
  | false =>
    have c1 := Lib.hid (fun w => pHeight_any s t m (i64_of hs) (i64_of ht) (i64_of hm) w)
    have c2 := Lib.hid (fun w => pHeight_any s u n (i64_of hs) (i64_of hu) (i64_of hn) w)
    rw [heiA_bad hA] at c1
    cases hB : (okS s && okT u && isM n) with
    | false =>
      rw [heiA_bad hB] at c2
      clear hA hB hs ht hu hm hn
      have D0 := Lib.hid (Below.refl w.heap.size w)
      go_enter Try.func5, Try.ntmps5
      go_wp2_with fail
      refine (head_any _).mono ?_
      rintro e w1 ⟨rfl, hb⟩
      have D1 := Lib.hid (D0.out.trans (hb.mono D0.out.size))
      clear hb D0
      go_wp2_with fail
      refine (c1.out _).mono ?_
      rintro e w2 ⟨rfl, hb⟩
      have D2 := Lib.hid (D1.out.trans (hb.mono D1.out.size))
      clear hb D1
      go_wp2_with fail
      refine (c2.out _).mono ?_
      rintro e w3 ⟨rfl, hb⟩
      have D3 := Lib.hid (D2.out.trans (hb.mono D2.out.size))
      clear hb D2
      go_wp2_with fail
      go_ret
      exact ⟨rfl, D3.out⟩
    | true =>
      have e2 : (heiA s u n).2 = 0 := by unfold heiA; rw [if_pos hB]
      rw [e2] at c2
      generalize (heiA s u n).1 = y at c2
      clear hA hB hs ht hu hm hn e2
      have D0 := Lib.hid (Below.refl w.heap.size w)
      go_enter Try.func5, Try.ntmps5
      go_wp2_with fail
      refine (head_any _).mono ?_
      rintro e w1 ⟨rfl, hb⟩
      have D1 := Lib.hid (D0.out.trans (hb.mono D0.out.size))
      clear hb D0
      go_wp2_with fail
      refine (c1.out _).mono ?_
      rintro e w2 ⟨rfl, hb⟩
      have D2 := Lib.hid (D1.out.trans (hb.mono D1.out.size))
      clear hb D1
      go_wp2_with fail
      refine (c2.out _).mono ?_
      rintro e w3 ⟨rfl, hb⟩
      have D3 := Lib.hid (D2.out.trans (hb.mono D2.out.size))
      clear hb D2
      go_wp2_with fail
      go_ret
      exact ⟨rfl, D3.out⟩
  | true =>
    cases hB : (okS s && okT u && isM n) with
    | false =>
      have c1 := Lib.hid (fun w => pHeight_any s t m (i64_of hs) (i64_of ht) (i64_of hm) w)
      have c2 := Lib.hid (fun w => pHeight_any s u n (i64_of hs) (i64_of hu) (i64_of hn) w)
      rw [heiA_bad hB] at c2
      have e2 : (heiA s t m).2 = 0 := by unfold heiA; rw [if_pos hA]
      rw [e2] at c1
      generalize (heiA s t m).1 = y at c1
      clear hA hB hs ht hu hm hn e2
      have D0 := Lib.hid (Below.refl w.heap.size w)
      go_enter Try.func5, Try.ntmps5
      go_wp2_with fail
      refine (head_any _).mono ?_
      rintro e w1 ⟨rfl, hb⟩
      have D1 := Lib.hid (D0.out.trans (hb.mono D0.out.size))
      clear hb D0
      go_wp2_with fail
      refine (c1.out _).mono ?_
      rintro e w2 ⟨rfl, hb⟩
      have D2 := Lib.hid (D1.out.trans (hb.mono D1.out.size))
      clear hb D1
      go_wp2_with fail
      refine (c2.out _).mono ?_
      rintro e w3 ⟨rfl, hb⟩
      have D3 := Lib.hid (D2.out.trans (hb.mono D2.out.size))
      clear hb D2
      go_wp2_with fail
      go_ret
      exact ⟨rfl, D3.out⟩
    | true =>
      simp only [Bool.and_eq_true] at hA hB
      obtain ⟨a, rfl, ha⟩ := okS_yes hA.1.1
      obtain ⟨b, rfl, hb⟩ := okT_yes hA.1.2
      obtain ⟨c, rfl, hc⟩ := isM_yes hA.2
      obtain ⟨d, rfl, hd⟩ := okT_yes hB.1.2
      obtain ⟨e, rfl, he⟩ := isM_yes hB.2
      exact heights_ok a b d c e ha hb hd hc he w
end Go.Proofs.Ytebkifhdbpeeoaa
