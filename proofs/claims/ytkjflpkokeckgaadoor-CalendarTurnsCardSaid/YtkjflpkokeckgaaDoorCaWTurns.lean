/-
  The law CalendarTurns (layer 9): its walk.
-/
import Derived.Test.YtkjflpkokeckgaaDoorCaHead
set_option linter.unusedVariables false
set_option maxRecDepth 100000
namespace Go.Proofs.YtkjflpkokeckgaaDoor
open Go.RowKit
open Ca
set_option maxHeartbeats 2000000 in
theorem walkCalendarTurns (m : Int) (w : World) (henv : Env w) (hm : -9223372036854775808 ≤ m ∧ m ≤ 9223372036854775807) :
    Calls Tryd.prog 5 #[.int .i64 m] w fun e w' => e = .returned (.bool true) ∧ Below w.heap.size w w' := by
  have HE := Lib.hid henv
  clear henv
  have cS := Lib.hid (fun w => pSplit_any m (i64_of hm) w)
  cases h : isM m with
  | false =>
    have hA : splA m = (0, 0, 1) := by unfold splA; rw [h]; rfl
    rw [hA] at cS
    have hno := isM_no h
    clear h hA
    by_cases h1 : m < 0
    · have t1 : decide (m < 0) = true := decide_eq_true h1
      have D0 := Lib.hid (Below.refl w.heap.size w)
      go_enter Tryd.func5, Tryd.ntmps5
      go_wp2_with fail
      refine (head_any _ (HE.out.below D0.out)).mono ?_
      rintro e w1 ⟨rfl, hb⟩
      have D1 := Lib.hid (D0.out.trans (hb.mono D0.out.size))
      clear hb D0
      go_wp2_with fail
      refine (cS.out _).mono ?_
      rintro e w2 ⟨rfl, hb⟩
      have D2 := Lib.hid (D1.out.trans (hb.mono D1.out.size))
      clear hb D1
      go_wp2_with fail
      go_ret
      exact ⟨rfl, D2.out⟩
    · have t1 : decide (m < 0) = false := decide_eq_false h1
      have t2 : decide (38399 < m) = true := decide_eq_true (by omega)
      have D0 := Lib.hid (Below.refl w.heap.size w)
      go_enter Tryd.func5, Tryd.ntmps5
      go_wp2_with fail
      refine (head_any _ (HE.out.below D0.out)).mono ?_
      rintro e w1 ⟨rfl, hb⟩
      have D1 := Lib.hid (D0.out.trans (hb.mono D0.out.size))
      clear hb D0
      go_wp2_with fail
      refine (cS.out _).mono ?_
      rintro e w2 ⟨rfl, hb⟩
      have D2 := Lib.hid (D1.out.trans (hb.mono D1.out.size))
      clear hb D1
      go_wp2_with fail
      go_ret
      exact ⟨rfl, D2.out⟩
  | true =>
    obtain ⟨k, rfl, hk⟩ := isM_yes h
    have cI := Lib.hid (fun w => pSidereal_any (k : Int) (i64_of hm) w)
    rw [splA_ok hk] at cS
    rw [sidA_ok hk] at cI
    obtain ⟨q, hq⟩ : ∃ q, q = k / 96 := ⟨_, rfl⟩
    obtain ⟨r, hr⟩ : ∃ r, r = k % 96 := ⟨_, rfl⟩
    have hkq : k = 96 * q + r := by omega
    have hr96 : r < 96 := by omega
    have hq400 : q < 400 := by omega
    obtain ⟨S, hS⟩ : ∃ S, S = sid k := ⟨_, rfl⟩
    have hSl : S < 5760 := by rw [hS]; exact sid_lt k
    rw [← hq, ← hr] at cS
    rw [← hS] at cI
    have f1 : IntKind.i64.wrap ((r : Int) + 1) = (r : Int) + 1 := IntWalk.i64_in _ (by omega)
    have f2 : IntKind.i64.wrap ((q : Int) + 1) = (q : Int) + 1 := IntWalk.i64_in _ (by omega)
    have f3 : IntKind.i64.wrap ((S : Int) + 60) = (S : Int) + 60 := IntWalk.i64_in _ (by omega)
    have f4 : IntKind.i64.wrap ((S : Int) + 16) = (S : Int) + 16 := IntWalk.i64_in _ (by omega)
    have t1 : decide ((S : Int) < 0) = false := decide_eq_false (by omega)
    have t2 : decide ((5760 : Int) ≤ (S : Int)) = false := decide_eq_false (by omega)
    have cA : Hid (∀ w, Calls Tryd.prog 8 #[.int .i64 (q : Int), .int .i64 ((r : Int) + 1)] w (GivesN (momA (q : Int) ((r : Int) + 1)).1 (momA (q : Int) ((r : Int) + 1)).2 w)) := Lib.hid (fun w => pMoment_any (q : Int) ((r : Int) + 1) (i64_nat (by omega)) (by unfold I64; omega) w)
    have cB : Hid (∀ w, Calls Tryd.prog 8 #[.int .i64 ((q : Int) + 1), .int .i64 (r : Int)] w (GivesN (momA ((q : Int) + 1) (r : Int)).1 (momA ((q : Int) + 1) (r : Int)).2 w)) := Lib.hid (fun w => pMoment_any ((q : Int) + 1) (r : Int) (by unfold I64; omega) (i64_nat (by omega)) w)
    by_cases ha : r + 1 < 96
    · by_cases hb : q + 1 < 400
      · skip
        have hA : momA (q : Int) ((r : Int) + 1) = (((96 * q + (r + 1) : Nat) : Int), 0) := by
          have := momA_ok hq400 ha
          rwa [show ((r + 1 : Nat) : Int) = (r : Int) + 1 by omega] at this
        rw [hA] at cA
        obtain ⟨N1, hN1⟩ : ∃ N, N = 96 * q + (r + 1) := ⟨_, rfl⟩
        rw [← hN1] at cA
        obtain ⟨S1, hS1⟩ : ∃ s, s = sid N1 := ⟨_, rfl⟩
        have e1 : S1 = (S + 60) % 5760 := by rw [hS1, hN1, hS, hkq]; exact sid_slot ha
        have c1 := Lib.hid (fun w => pSidereal_any (N1 : Int) (i64_nat (by omega)) w)
        rw [sidA_ok (by omega), ← hS1] at c1
        have g1 : Int.tmod ((S : Int) + 60) 5760 = (S1 : Int) := by rw [Int.tmod_eq_emod_of_nonneg (by omega)]; omega
        have g2 : ((S : Int) + 60) % 5760 = (S1 : Int) := by omega
        have g3 : ((S1 : Int) != (S1 : Int)) = false := by simp
        clear hA hN1 hS1 e1
        have hB : momA ((q : Int) + 1) (r : Int) = (((96 * (q + 1) + r : Nat) : Int), 0) := by
          have := momA_ok hb hr96
          rwa [show ((q + 1 : Nat) : Int) = (q : Int) + 1 by omega] at this
        rw [hB] at cB
        obtain ⟨N2, hN2⟩ : ∃ N, N = 96 * (q + 1) + r := ⟨_, rfl⟩
        rw [← hN2] at cB
        obtain ⟨S2, hS2⟩ : ∃ s, s = sid N2 := ⟨_, rfl⟩
        have e2 : S2 = (S + 16) % 5760 := by rw [hS2, hN2, hS, hkq]; exact sid_night hr96
        have c2 := Lib.hid (fun w => pSidereal_any (N2 : Int) (i64_nat (by omega)) w)
        rw [sidA_ok (by omega), ← hS2] at c2
        have g4 : Int.tmod ((S : Int) + 16) 5760 = (S2 : Int) := by rw [Int.tmod_eq_emod_of_nonneg (by omega)]; omega
        have g5 : ((S : Int) + 16) % 5760 = (S2 : Int) := by omega
        have g6 : ((S2 : Int) != (S2 : Int)) = false := by simp
        clear hB hN2 hS2 e2
        clear ha hb hq hr hS hkq h
        have D0 := Lib.hid (Below.refl w.heap.size w)
        go_enter Tryd.func5, Tryd.ntmps5
        go_wp2_with fail
        refine (head_any _ (HE.out.below D0.out)).mono ?_
        rintro e w1 ⟨rfl, hb⟩
        have D1 := Lib.hid (D0.out.trans (hb.mono D0.out.size))
        clear hb D0
        go_wp2_with fail
        refine (cS.out _).mono ?_
        rintro e w2 ⟨rfl, hb⟩
        have D2 := Lib.hid (D1.out.trans (hb.mono D1.out.size))
        clear hb D1
        go_wp2_with fail
        refine (cI.out _).mono ?_
        rintro e w3 ⟨rfl, hb⟩
        have D3 := Lib.hid (D2.out.trans (hb.mono D2.out.size))
        clear hb D2
        go_wp2_with fail
        refine (cA.out _).mono ?_
        rintro e w4 ⟨rfl, hb⟩
        have D4 := Lib.hid (D3.out.trans (hb.mono D3.out.size))
        clear hb D3
        go_wp2_with fail
        refine (c1.out _).mono ?_
        rintro e w5 ⟨rfl, hb⟩
        have D5 := Lib.hid (D4.out.trans (hb.mono D4.out.size))
        clear hb D4
        go_wp2_with fail
        refine (cB.out _).mono ?_
        rintro e w6 ⟨rfl, hb⟩
        have D6 := Lib.hid (D5.out.trans (hb.mono D5.out.size))
        clear hb D5
        go_wp2_with fail
        refine (c2.out _).mono ?_
        rintro e w7 ⟨rfl, hb⟩
        have D7 := Lib.hid (D6.out.trans (hb.mono D6.out.size))
        clear hb D6
        go_wp2_with fail
        go_ret
        exact ⟨rfl, D7.out⟩
      · skip
        have hA : momA (q : Int) ((r : Int) + 1) = (((96 * q + (r + 1) : Nat) : Int), 0) := by
          have := momA_ok hq400 ha
          rwa [show ((r + 1 : Nat) : Int) = (r : Int) + 1 by omega] at this
        rw [hA] at cA
        obtain ⟨N1, hN1⟩ : ∃ N, N = 96 * q + (r + 1) := ⟨_, rfl⟩
        rw [← hN1] at cA
        obtain ⟨S1, hS1⟩ : ∃ s, s = sid N1 := ⟨_, rfl⟩
        have e1 : S1 = (S + 60) % 5760 := by rw [hS1, hN1, hS, hkq]; exact sid_slot ha
        have c1 := Lib.hid (fun w => pSidereal_any (N1 : Int) (i64_nat (by omega)) w)
        rw [sidA_ok (by omega), ← hS1] at c1
        have g1 : Int.tmod ((S : Int) + 60) 5760 = (S1 : Int) := by rw [Int.tmod_eq_emod_of_nonneg (by omega)]; omega
        have g2 : ((S : Int) + 60) % 5760 = (S1 : Int) := by omega
        have g3 : ((S1 : Int) != (S1 : Int)) = false := by simp
        clear hA hN1 hS1 e1
        have hB : momA ((q : Int) + 1) (r : Int) = (0, 1) := by unfold momA okNS; rw [if_neg (by simp; omega)]
        rw [hB] at cB
        clear hB
        clear ha hb hq hr hS hkq h
        have D0 := Lib.hid (Below.refl w.heap.size w)
        go_enter Tryd.func5, Tryd.ntmps5
        go_wp2_with fail
        refine (head_any _ (HE.out.below D0.out)).mono ?_
        rintro e w1 ⟨rfl, hb⟩
        have D1 := Lib.hid (D0.out.trans (hb.mono D0.out.size))
        clear hb D0
        go_wp2_with fail
        refine (cS.out _).mono ?_
        rintro e w2 ⟨rfl, hb⟩
        have D2 := Lib.hid (D1.out.trans (hb.mono D1.out.size))
        clear hb D1
        go_wp2_with fail
        refine (cI.out _).mono ?_
        rintro e w3 ⟨rfl, hb⟩
        have D3 := Lib.hid (D2.out.trans (hb.mono D2.out.size))
        clear hb D2
        go_wp2_with fail
        refine (cA.out _).mono ?_
        rintro e w4 ⟨rfl, hb⟩
        have D4 := Lib.hid (D3.out.trans (hb.mono D3.out.size))
        clear hb D3
        go_wp2_with fail
        refine (c1.out _).mono ?_
        rintro e w5 ⟨rfl, hb⟩
        have D5 := Lib.hid (D4.out.trans (hb.mono D4.out.size))
        clear hb D4
        go_wp2_with fail
        refine (cB.out _).mono ?_
        rintro e w6 ⟨rfl, hb⟩
        have D6 := Lib.hid (D5.out.trans (hb.mono D5.out.size))
        clear hb D5
        go_wp2_with fail
        go_ret
        exact ⟨rfl, D6.out⟩
    · by_cases hb : q + 1 < 400
      · skip
        have hA : momA (q : Int) ((r : Int) + 1) = (0, 1) := by unfold momA okNS; rw [if_neg (by simp; omega)]
        rw [hA] at cA
        clear hA
        have hB : momA ((q : Int) + 1) (r : Int) = (((96 * (q + 1) + r : Nat) : Int), 0) := by
          have := momA_ok hb hr96
          rwa [show ((q + 1 : Nat) : Int) = (q : Int) + 1 by omega] at this
        rw [hB] at cB
        obtain ⟨N2, hN2⟩ : ∃ N, N = 96 * (q + 1) + r := ⟨_, rfl⟩
        rw [← hN2] at cB
        obtain ⟨S2, hS2⟩ : ∃ s, s = sid N2 := ⟨_, rfl⟩
        have e2 : S2 = (S + 16) % 5760 := by rw [hS2, hN2, hS, hkq]; exact sid_night hr96
        have c2 := Lib.hid (fun w => pSidereal_any (N2 : Int) (i64_nat (by omega)) w)
        rw [sidA_ok (by omega), ← hS2] at c2
        have g4 : Int.tmod ((S : Int) + 16) 5760 = (S2 : Int) := by rw [Int.tmod_eq_emod_of_nonneg (by omega)]; omega
        have g5 : ((S : Int) + 16) % 5760 = (S2 : Int) := by omega
        have g6 : ((S2 : Int) != (S2 : Int)) = false := by simp
        clear hB hN2 hS2 e2
        clear ha hb hq hr hS hkq h
        have D0 := Lib.hid (Below.refl w.heap.size w)
        go_enter Tryd.func5, Tryd.ntmps5
        go_wp2_with fail
        refine (head_any _ (HE.out.below D0.out)).mono ?_
        rintro e w1 ⟨rfl, hb⟩
        have D1 := Lib.hid (D0.out.trans (hb.mono D0.out.size))
        clear hb D0
        go_wp2_with fail
        refine (cS.out _).mono ?_
        rintro e w2 ⟨rfl, hb⟩
        have D2 := Lib.hid (D1.out.trans (hb.mono D1.out.size))
        clear hb D1
        go_wp2_with fail
        refine (cI.out _).mono ?_
        rintro e w3 ⟨rfl, hb⟩
        have D3 := Lib.hid (D2.out.trans (hb.mono D2.out.size))
        clear hb D2
        go_wp2_with fail
        refine (cA.out _).mono ?_
        rintro e w4 ⟨rfl, hb⟩
        have D4 := Lib.hid (D3.out.trans (hb.mono D3.out.size))
        clear hb D3
        go_wp2_with fail
        refine (cB.out _).mono ?_
        rintro e w5 ⟨rfl, hb⟩
        have D5 := Lib.hid (D4.out.trans (hb.mono D4.out.size))
        clear hb D4
        go_wp2_with fail
        refine (c2.out _).mono ?_
        rintro e w6 ⟨rfl, hb⟩
        have D6 := Lib.hid (D5.out.trans (hb.mono D5.out.size))
        clear hb D5
        go_wp2_with fail
        go_ret
        exact ⟨rfl, D6.out⟩
      · skip
        have hA : momA (q : Int) ((r : Int) + 1) = (0, 1) := by unfold momA okNS; rw [if_neg (by simp; omega)]
        rw [hA] at cA
        clear hA
        have hB : momA ((q : Int) + 1) (r : Int) = (0, 1) := by unfold momA okNS; rw [if_neg (by simp; omega)]
        rw [hB] at cB
        clear hB
        clear ha hb hq hr hS hkq h
        have D0 := Lib.hid (Below.refl w.heap.size w)
        go_enter Tryd.func5, Tryd.ntmps5
        go_wp2_with fail
        refine (head_any _ (HE.out.below D0.out)).mono ?_
        rintro e w1 ⟨rfl, hb⟩
        have D1 := Lib.hid (D0.out.trans (hb.mono D0.out.size))
        clear hb D0
        go_wp2_with fail
        refine (cS.out _).mono ?_
        rintro e w2 ⟨rfl, hb⟩
        have D2 := Lib.hid (D1.out.trans (hb.mono D1.out.size))
        clear hb D1
        go_wp2_with fail
        refine (cI.out _).mono ?_
        rintro e w3 ⟨rfl, hb⟩
        have D3 := Lib.hid (D2.out.trans (hb.mono D2.out.size))
        clear hb D2
        go_wp2_with fail
        refine (cA.out _).mono ?_
        rintro e w4 ⟨rfl, hb⟩
        have D4 := Lib.hid (D3.out.trans (hb.mono D3.out.size))
        clear hb D3
        go_wp2_with fail
        refine (cB.out _).mono ?_
        rintro e w5 ⟨rfl, hb⟩
        have D5 := Lib.hid (D4.out.trans (hb.mono D4.out.size))
        clear hb D4
        go_wp2_with fail
        go_ret
        exact ⟨rfl, D5.out⟩
end Go.Proofs.YtkjflpkokeckgaaDoor
