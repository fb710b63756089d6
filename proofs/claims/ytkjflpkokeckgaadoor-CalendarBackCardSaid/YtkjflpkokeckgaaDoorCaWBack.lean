/-
  The law CalendarBack (layer 9): its walk.
-/
import Derived.Test.YtkjflpkokeckgaaDoorCaHead
set_option linter.unusedVariables false
set_option maxRecDepth 100000
namespace Go.Proofs.YtkjflpkokeckgaaDoor
open Go.RowKit
open Ca
set_option maxHeartbeats 4000000 in
theorem walkCalendarBack (m n s : Int) (t : ByteArray) (w : World) (henv : Env w) (hm : -9223372036854775808 ≤ m ∧ m ≤ 9223372036854775807) (hn : -9223372036854775808 ≤ n ∧ n ≤ 9223372036854775807) (hs : -9223372036854775808 ≤ s ∧ s ≤ 9223372036854775807) (ht : t.size ≤ maxLen) :
    Calls Tryd.prog 4 #[.int .i64 m, .int .i64 n, .int .i64 s, .string t] w fun e w' => e = .returned (.bool true) ∧ Below w.heap.size w w' := by
  have HE := Lib.hid henv
  clear henv
  by_cases g1 : 20 < t.size
  · skip
    have D0 := Lib.hid (Below.refl w.heap.size w)
    go_enter Tryd.func4, Tryd.ntmps4
    go_wp2_with fail
    refine (head_any _ (HE.out.below D0.out)).mono ?_
    rintro e w1 ⟨rfl, hb⟩
    have D1 := Lib.hid (D0.out.trans (hb.mono D0.out.size))
    clear hb D0
    go_wp2_with fail
    go_ret
    exact ⟨rfl, D1.out⟩
  · have hts : t.size ≤ 1000000 := by omega
    have cS := Lib.hid (fun w => pSplit_any m (i64_of hm) w)
    have cM := Lib.hid (fun w => pMoment_any n s (i64_of hn) (i64_of hs) w)
    have cP := Lib.hid (fun w he => pParse_any t hts w he)
    cases h : isM m with
    | false =>
      by_cases hok : 0 ≤ n ∧ n ≤ 399 ∧ 0 ≤ s ∧ s ≤ 95
      · cases hp : parseF (bl t) with
        | some y =>
          have hA : splA m = (0, 0, 1) := by unfold splA; rw [h]; rfl
          rw [hA] at cS
          clear h hA
          obtain ⟨q2, rfl⟩ : ∃ q2 : Nat, n = (q2 : Int) := ⟨n.toNat, by omega⟩
          obtain ⟨r2, rfl⟩ : ∃ r2 : Nat, s = (r2 : Int) := ⟨s.toNat, by omega⟩
          rw [momA_ok (by omega) (by omega)] at cM
          obtain ⟨Z, hZ⟩ : ∃ Z, Z = 96 * q2 + r2 := ⟨_, rfl⟩
          rw [← hZ] at cM
          have c4 := Lib.hid (fun w => pSplit_any (Z : Int) (i64_nat (by omega)) w)
          rw [splA_ok (by omega), show Z / 96 = q2 by omega, show Z % 96 = r2 by omega] at c4
          have x2 : ((q2 : Int) != (q2 : Int)) = false := by simp
          have x3 : ((r2 : Int) != (r2 : Int)) = false := by simp
          clear hZ hok
          obtain ⟨hy1, hy2⟩ := parseF_is hp
          rw [parA, hp, ansF] at cP
          have c5 := Lib.hid (fun w he => pText_any (y : Int) (i64_nat (by omega)) w he)
          rw [texA_ok hy1, hy2] at c5
          unfold GivesS at c5
          rw [ba_bl] at c5
          clear hy2 hp
          have D0 := Lib.hid (Below.refl w.heap.size w)
          go_enter Tryd.func4, Tryd.ntmps4
          go_wp2_with fail
          refine (head_any _ (HE.out.below D0.out)).mono ?_
          rintro e w1 ⟨rfl, hb⟩
          have D1 := Lib.hid (D0.out.trans (hb.mono D0.out.size))
          clear hb D0
          go_wp2_with fail
          refine (cS.out _).mono ?_
          rintro e w2 ⟨rfl, hb⟩
          have D2 := Lib.hid (D1.out.trans (hb.mono D1.out.size))
          clear hb D1
          go_wp2_with fail
          refine (cM.out _).mono ?_
          rintro e w3 ⟨rfl, hb⟩
          have D3 := Lib.hid (D2.out.trans (hb.mono D2.out.size))
          clear hb D2
          go_wp2_with fail
          refine (c4.out _).mono ?_
          rintro e w4 ⟨rfl, hb⟩
          have D4 := Lib.hid (D3.out.trans (hb.mono D3.out.size))
          clear hb D3
          go_wp2_with fail
          refine (cP.out _ (HE.out.below D4.out)).mono ?_
          rintro e w5 ⟨rfl, hb⟩
          have D5 := Lib.hid (D4.out.trans (hb.mono D4.out.size))
          clear hb D4
          go_wp2_with fail
          refine (c5.out _ (HE.out.below D5.out)).mono ?_
          rintro e w6 ⟨rfl, hb⟩
          have D6 := Lib.hid (D5.out.trans (hb.mono D5.out.size))
          clear hb D5
          go_wp2_with fail
          go_ret
          exact ⟨rfl, D6.out⟩
        | none =>
          have hA : splA m = (0, 0, 1) := by unfold splA; rw [h]; rfl
          rw [hA] at cS
          clear h hA
          obtain ⟨q2, rfl⟩ : ∃ q2 : Nat, n = (q2 : Int) := ⟨n.toNat, by omega⟩
          obtain ⟨r2, rfl⟩ : ∃ r2 : Nat, s = (r2 : Int) := ⟨s.toNat, by omega⟩
          rw [momA_ok (by omega) (by omega)] at cM
          obtain ⟨Z, hZ⟩ : ∃ Z, Z = 96 * q2 + r2 := ⟨_, rfl⟩
          rw [← hZ] at cM
          have c4 := Lib.hid (fun w => pSplit_any (Z : Int) (i64_nat (by omega)) w)
          rw [splA_ok (by omega), show Z / 96 = q2 by omega, show Z % 96 = r2 by omega] at c4
          have x2 : ((q2 : Int) != (q2 : Int)) = false := by simp
          have x3 : ((r2 : Int) != (r2 : Int)) = false := by simp
          clear hZ hok
          rw [parA, hp, ansF] at cP
          clear hp
          have D0 := Lib.hid (Below.refl w.heap.size w)
          go_enter Tryd.func4, Tryd.ntmps4
          go_wp2_with fail
          refine (head_any _ (HE.out.below D0.out)).mono ?_
          rintro e w1 ⟨rfl, hb⟩
          have D1 := Lib.hid (D0.out.trans (hb.mono D0.out.size))
          clear hb D0
          go_wp2_with fail
          refine (cS.out _).mono ?_
          rintro e w2 ⟨rfl, hb⟩
          have D2 := Lib.hid (D1.out.trans (hb.mono D1.out.size))
          clear hb D1
          go_wp2_with fail
          refine (cM.out _).mono ?_
          rintro e w3 ⟨rfl, hb⟩
          have D3 := Lib.hid (D2.out.trans (hb.mono D2.out.size))
          clear hb D2
          go_wp2_with fail
          refine (c4.out _).mono ?_
          rintro e w4 ⟨rfl, hb⟩
          have D4 := Lib.hid (D3.out.trans (hb.mono D3.out.size))
          clear hb D3
          go_wp2_with fail
          refine (cP.out _ (HE.out.below D4.out)).mono ?_
          rintro e w5 ⟨rfl, hb⟩
          have D5 := Lib.hid (D4.out.trans (hb.mono D4.out.size))
          clear hb D4
          go_wp2_with fail
          go_ret
          exact ⟨rfl, D5.out⟩
      · cases hp : parseF (bl t) with
        | some y =>
          have hA : splA m = (0, 0, 1) := by unfold splA; rw [h]; rfl
          rw [hA] at cS
          clear h hA
          have hB : momA n s = (0, 1) := by unfold momA okNS; rw [if_neg (by simpa using hok)]
          rw [hB] at cM
          clear hok hB
          obtain ⟨hy1, hy2⟩ := parseF_is hp
          rw [parA, hp, ansF] at cP
          have c5 := Lib.hid (fun w he => pText_any (y : Int) (i64_nat (by omega)) w he)
          rw [texA_ok hy1, hy2] at c5
          unfold GivesS at c5
          rw [ba_bl] at c5
          clear hy2 hp
          have D0 := Lib.hid (Below.refl w.heap.size w)
          go_enter Tryd.func4, Tryd.ntmps4
          go_wp2_with fail
          refine (head_any _ (HE.out.below D0.out)).mono ?_
          rintro e w1 ⟨rfl, hb⟩
          have D1 := Lib.hid (D0.out.trans (hb.mono D0.out.size))
          clear hb D0
          go_wp2_with fail
          refine (cS.out _).mono ?_
          rintro e w2 ⟨rfl, hb⟩
          have D2 := Lib.hid (D1.out.trans (hb.mono D1.out.size))
          clear hb D1
          go_wp2_with fail
          refine (cM.out _).mono ?_
          rintro e w3 ⟨rfl, hb⟩
          have D3 := Lib.hid (D2.out.trans (hb.mono D2.out.size))
          clear hb D2
          go_wp2_with fail
          refine (cP.out _ (HE.out.below D3.out)).mono ?_
          rintro e w4 ⟨rfl, hb⟩
          have D4 := Lib.hid (D3.out.trans (hb.mono D3.out.size))
          clear hb D3
          go_wp2_with fail
          refine (c5.out _ (HE.out.below D4.out)).mono ?_
          rintro e w5 ⟨rfl, hb⟩
          have D5 := Lib.hid (D4.out.trans (hb.mono D4.out.size))
          clear hb D4
          go_wp2_with fail
          go_ret
          exact ⟨rfl, D5.out⟩
        | none =>
          have hA : splA m = (0, 0, 1) := by unfold splA; rw [h]; rfl
          rw [hA] at cS
          clear h hA
          have hB : momA n s = (0, 1) := by unfold momA okNS; rw [if_neg (by simpa using hok)]
          rw [hB] at cM
          clear hok hB
          rw [parA, hp, ansF] at cP
          clear hp
          have D0 := Lib.hid (Below.refl w.heap.size w)
          go_enter Tryd.func4, Tryd.ntmps4
          go_wp2_with fail
          refine (head_any _ (HE.out.below D0.out)).mono ?_
          rintro e w1 ⟨rfl, hb⟩
          have D1 := Lib.hid (D0.out.trans (hb.mono D0.out.size))
          clear hb D0
          go_wp2_with fail
          refine (cS.out _).mono ?_
          rintro e w2 ⟨rfl, hb⟩
          have D2 := Lib.hid (D1.out.trans (hb.mono D1.out.size))
          clear hb D1
          go_wp2_with fail
          refine (cM.out _).mono ?_
          rintro e w3 ⟨rfl, hb⟩
          have D3 := Lib.hid (D2.out.trans (hb.mono D2.out.size))
          clear hb D2
          go_wp2_with fail
          refine (cP.out _ (HE.out.below D3.out)).mono ?_
          rintro e w4 ⟨rfl, hb⟩
          have D4 := Lib.hid (D3.out.trans (hb.mono D3.out.size))
          clear hb D3
          go_wp2_with fail
          go_ret
          exact ⟨rfl, D4.out⟩
    | true =>
      by_cases hok : 0 ≤ n ∧ n ≤ 399 ∧ 0 ≤ s ∧ s ≤ 95
      · cases hp : parseF (bl t) with
        | some y =>
          obtain ⟨k, rfl, hk⟩ := isM_yes h
          rw [splA_ok hk] at cS
          have c1 := Lib.hid (fun w => pMoment_any ((k / 96 : Nat) : Int) ((k % 96 : Nat) : Int) (i64_nat (by omega)) (i64_nat (by omega)) w)
          rw [momA_ok (n := k / 96) (s := k % 96) (by omega) (by omega), show 96 * (k / 96) + k % 96 = k by omega] at c1
          have c2 := Lib.hid (fun w he => pText_any (k : Int) (i64_of hm) w he)
          rw [texA_ok hk] at c2
          unfold GivesS at c2
          have c3 := Lib.hid (fun w he => pParse_any (ba (textL k)) (by rw [ba_size]; have := textL_len hk; omega) w he)
          rw [bl_ba, parA, parseF_text hk, ansF] at c3
          generalize k / 96 = q at cS c1
          generalize k % 96 = r at cS c1
          generalize ba (textL k) = X at c2 c3
          have x1 : ((k : Int) != (k : Int)) = false := by simp
          clear h
          obtain ⟨q2, rfl⟩ : ∃ q2 : Nat, n = (q2 : Int) := ⟨n.toNat, by omega⟩
          obtain ⟨r2, rfl⟩ : ∃ r2 : Nat, s = (r2 : Int) := ⟨s.toNat, by omega⟩
          rw [momA_ok (by omega) (by omega)] at cM
          obtain ⟨Z, hZ⟩ : ∃ Z, Z = 96 * q2 + r2 := ⟨_, rfl⟩
          rw [← hZ] at cM
          have c4 := Lib.hid (fun w => pSplit_any (Z : Int) (i64_nat (by omega)) w)
          rw [splA_ok (by omega), show Z / 96 = q2 by omega, show Z % 96 = r2 by omega] at c4
          have x2 : ((q2 : Int) != (q2 : Int)) = false := by simp
          have x3 : ((r2 : Int) != (r2 : Int)) = false := by simp
          clear hZ hok
          obtain ⟨hy1, hy2⟩ := parseF_is hp
          rw [parA, hp, ansF] at cP
          have c5 := Lib.hid (fun w he => pText_any (y : Int) (i64_nat (by omega)) w he)
          rw [texA_ok hy1, hy2] at c5
          unfold GivesS at c5
          rw [ba_bl] at c5
          clear hy2 hp
          have D0 := Lib.hid (Below.refl w.heap.size w)
          go_enter Tryd.func4, Tryd.ntmps4
          go_wp2_with fail
          refine (head_any _ (HE.out.below D0.out)).mono ?_
          rintro e w1 ⟨rfl, hb⟩
          have D1 := Lib.hid (D0.out.trans (hb.mono D0.out.size))
          clear hb D0
          go_wp2_with fail
          refine (cS.out _).mono ?_
          rintro e w2 ⟨rfl, hb⟩
          have D2 := Lib.hid (D1.out.trans (hb.mono D1.out.size))
          clear hb D1
          go_wp2_with fail
          refine (c1.out _).mono ?_
          rintro e w3 ⟨rfl, hb⟩
          have D3 := Lib.hid (D2.out.trans (hb.mono D2.out.size))
          clear hb D2
          go_wp2_with fail
          refine (c2.out _ (HE.out.below D3.out)).mono ?_
          rintro e w4 ⟨rfl, hb⟩
          have D4 := Lib.hid (D3.out.trans (hb.mono D3.out.size))
          clear hb D3
          go_wp2_with fail
          refine (c3.out _ (HE.out.below D4.out)).mono ?_
          rintro e w5 ⟨rfl, hb⟩
          have D5 := Lib.hid (D4.out.trans (hb.mono D4.out.size))
          clear hb D4
          go_wp2_with fail
          refine (cM.out _).mono ?_
          rintro e w6 ⟨rfl, hb⟩
          have D6 := Lib.hid (D5.out.trans (hb.mono D5.out.size))
          clear hb D5
          go_wp2_with fail
          refine (c4.out _).mono ?_
          rintro e w7 ⟨rfl, hb⟩
          have D7 := Lib.hid (D6.out.trans (hb.mono D6.out.size))
          clear hb D6
          go_wp2_with fail
          refine (cP.out _ (HE.out.below D7.out)).mono ?_
          rintro e w8 ⟨rfl, hb⟩
          have D8 := Lib.hid (D7.out.trans (hb.mono D7.out.size))
          clear hb D7
          go_wp2_with fail
          refine (c5.out _ (HE.out.below D8.out)).mono ?_
          rintro e w9 ⟨rfl, hb⟩
          have D9 := Lib.hid (D8.out.trans (hb.mono D8.out.size))
          clear hb D8
          go_wp2_with fail
          go_ret
          exact ⟨rfl, D9.out⟩
        | none =>
          obtain ⟨k, rfl, hk⟩ := isM_yes h
          rw [splA_ok hk] at cS
          have c1 := Lib.hid (fun w => pMoment_any ((k / 96 : Nat) : Int) ((k % 96 : Nat) : Int) (i64_nat (by omega)) (i64_nat (by omega)) w)
          rw [momA_ok (n := k / 96) (s := k % 96) (by omega) (by omega), show 96 * (k / 96) + k % 96 = k by omega] at c1
          have c2 := Lib.hid (fun w he => pText_any (k : Int) (i64_of hm) w he)
          rw [texA_ok hk] at c2
          unfold GivesS at c2
          have c3 := Lib.hid (fun w he => pParse_any (ba (textL k)) (by rw [ba_size]; have := textL_len hk; omega) w he)
          rw [bl_ba, parA, parseF_text hk, ansF] at c3
          generalize k / 96 = q at cS c1
          generalize k % 96 = r at cS c1
          generalize ba (textL k) = X at c2 c3
          have x1 : ((k : Int) != (k : Int)) = false := by simp
          clear h
          obtain ⟨q2, rfl⟩ : ∃ q2 : Nat, n = (q2 : Int) := ⟨n.toNat, by omega⟩
          obtain ⟨r2, rfl⟩ : ∃ r2 : Nat, s = (r2 : Int) := ⟨s.toNat, by omega⟩
          rw [momA_ok (by omega) (by omega)] at cM
          obtain ⟨Z, hZ⟩ : ∃ Z, Z = 96 * q2 + r2 := ⟨_, rfl⟩
          rw [← hZ] at cM
          have c4 := Lib.hid (fun w => pSplit_any (Z : Int) (i64_nat (by omega)) w)
          rw [splA_ok (by omega), show Z / 96 = q2 by omega, show Z % 96 = r2 by omega] at c4
          have x2 : ((q2 : Int) != (q2 : Int)) = false := by simp
          have x3 : ((r2 : Int) != (r2 : Int)) = false := by simp
          clear hZ hok
          rw [parA, hp, ansF] at cP
          clear hp
          have D0 := Lib.hid (Below.refl w.heap.size w)
          go_enter Tryd.func4, Tryd.ntmps4
          go_wp2_with fail
          refine (head_any _ (HE.out.below D0.out)).mono ?_
          rintro e w1 ⟨rfl, hb⟩
          have D1 := Lib.hid (D0.out.trans (hb.mono D0.out.size))
          clear hb D0
          go_wp2_with fail
          refine (cS.out _).mono ?_
          rintro e w2 ⟨rfl, hb⟩
          have D2 := Lib.hid (D1.out.trans (hb.mono D1.out.size))
          clear hb D1
          go_wp2_with fail
          refine (c1.out _).mono ?_
          rintro e w3 ⟨rfl, hb⟩
          have D3 := Lib.hid (D2.out.trans (hb.mono D2.out.size))
          clear hb D2
          go_wp2_with fail
          refine (c2.out _ (HE.out.below D3.out)).mono ?_
          rintro e w4 ⟨rfl, hb⟩
          have D4 := Lib.hid (D3.out.trans (hb.mono D3.out.size))
          clear hb D3
          go_wp2_with fail
          refine (c3.out _ (HE.out.below D4.out)).mono ?_
          rintro e w5 ⟨rfl, hb⟩
          have D5 := Lib.hid (D4.out.trans (hb.mono D4.out.size))
          clear hb D4
          go_wp2_with fail
          refine (cM.out _).mono ?_
          rintro e w6 ⟨rfl, hb⟩
          have D6 := Lib.hid (D5.out.trans (hb.mono D5.out.size))
          clear hb D5
          go_wp2_with fail
          refine (c4.out _).mono ?_
          rintro e w7 ⟨rfl, hb⟩
          have D7 := Lib.hid (D6.out.trans (hb.mono D6.out.size))
          clear hb D6
          go_wp2_with fail
          refine (cP.out _ (HE.out.below D7.out)).mono ?_
          rintro e w8 ⟨rfl, hb⟩
          have D8 := Lib.hid (D7.out.trans (hb.mono D7.out.size))
          clear hb D7
          go_wp2_with fail
          go_ret
          exact ⟨rfl, D8.out⟩
      · cases hp : parseF (bl t) with
        | some y =>
          obtain ⟨k, rfl, hk⟩ := isM_yes h
          rw [splA_ok hk] at cS
          have c1 := Lib.hid (fun w => pMoment_any ((k / 96 : Nat) : Int) ((k % 96 : Nat) : Int) (i64_nat (by omega)) (i64_nat (by omega)) w)
          rw [momA_ok (n := k / 96) (s := k % 96) (by omega) (by omega), show 96 * (k / 96) + k % 96 = k by omega] at c1
          have c2 := Lib.hid (fun w he => pText_any (k : Int) (i64_of hm) w he)
          rw [texA_ok hk] at c2
          unfold GivesS at c2
          have c3 := Lib.hid (fun w he => pParse_any (ba (textL k)) (by rw [ba_size]; have := textL_len hk; omega) w he)
          rw [bl_ba, parA, parseF_text hk, ansF] at c3
          generalize k / 96 = q at cS c1
          generalize k % 96 = r at cS c1
          generalize ba (textL k) = X at c2 c3
          have x1 : ((k : Int) != (k : Int)) = false := by simp
          clear h
          have hB : momA n s = (0, 1) := by unfold momA okNS; rw [if_neg (by simpa using hok)]
          rw [hB] at cM
          clear hok hB
          obtain ⟨hy1, hy2⟩ := parseF_is hp
          rw [parA, hp, ansF] at cP
          have c5 := Lib.hid (fun w he => pText_any (y : Int) (i64_nat (by omega)) w he)
          rw [texA_ok hy1, hy2] at c5
          unfold GivesS at c5
          rw [ba_bl] at c5
          clear hy2 hp
          have D0 := Lib.hid (Below.refl w.heap.size w)
          go_enter Tryd.func4, Tryd.ntmps4
          go_wp2_with fail
          refine (head_any _ (HE.out.below D0.out)).mono ?_
          rintro e w1 ⟨rfl, hb⟩
          have D1 := Lib.hid (D0.out.trans (hb.mono D0.out.size))
          clear hb D0
          go_wp2_with fail
          refine (cS.out _).mono ?_
          rintro e w2 ⟨rfl, hb⟩
          have D2 := Lib.hid (D1.out.trans (hb.mono D1.out.size))
          clear hb D1
          go_wp2_with fail
          refine (c1.out _).mono ?_
          rintro e w3 ⟨rfl, hb⟩
          have D3 := Lib.hid (D2.out.trans (hb.mono D2.out.size))
          clear hb D2
          go_wp2_with fail
          refine (c2.out _ (HE.out.below D3.out)).mono ?_
          rintro e w4 ⟨rfl, hb⟩
          have D4 := Lib.hid (D3.out.trans (hb.mono D3.out.size))
          clear hb D3
          go_wp2_with fail
          refine (c3.out _ (HE.out.below D4.out)).mono ?_
          rintro e w5 ⟨rfl, hb⟩
          have D5 := Lib.hid (D4.out.trans (hb.mono D4.out.size))
          clear hb D4
          go_wp2_with fail
          refine (cM.out _).mono ?_
          rintro e w6 ⟨rfl, hb⟩
          have D6 := Lib.hid (D5.out.trans (hb.mono D5.out.size))
          clear hb D5
          go_wp2_with fail
          refine (cP.out _ (HE.out.below D6.out)).mono ?_
          rintro e w7 ⟨rfl, hb⟩
          have D7 := Lib.hid (D6.out.trans (hb.mono D6.out.size))
          clear hb D6
          go_wp2_with fail
          refine (c5.out _ (HE.out.below D7.out)).mono ?_
          rintro e w8 ⟨rfl, hb⟩
          have D8 := Lib.hid (D7.out.trans (hb.mono D7.out.size))
          clear hb D7
          go_wp2_with fail
          go_ret
          exact ⟨rfl, D8.out⟩
        | none =>
          obtain ⟨k, rfl, hk⟩ := isM_yes h
          rw [splA_ok hk] at cS
          have c1 := Lib.hid (fun w => pMoment_any ((k / 96 : Nat) : Int) ((k % 96 : Nat) : Int) (i64_nat (by omega)) (i64_nat (by omega)) w)
          rw [momA_ok (n := k / 96) (s := k % 96) (by omega) (by omega), show 96 * (k / 96) + k % 96 = k by omega] at c1
          have c2 := Lib.hid (fun w he => pText_any (k : Int) (i64_of hm) w he)
          rw [texA_ok hk] at c2
          unfold GivesS at c2
          have c3 := Lib.hid (fun w he => pParse_any (ba (textL k)) (by rw [ba_size]; have := textL_len hk; omega) w he)
          rw [bl_ba, parA, parseF_text hk, ansF] at c3
          generalize k / 96 = q at cS c1
          generalize k % 96 = r at cS c1
          generalize ba (textL k) = X at c2 c3
          have x1 : ((k : Int) != (k : Int)) = false := by simp
          clear h
          have hB : momA n s = (0, 1) := by unfold momA okNS; rw [if_neg (by simpa using hok)]
          rw [hB] at cM
          clear hok hB
          rw [parA, hp, ansF] at cP
          clear hp
          have D0 := Lib.hid (Below.refl w.heap.size w)
          go_enter Tryd.func4, Tryd.ntmps4
          go_wp2_with fail
          refine (head_any _ (HE.out.below D0.out)).mono ?_
          rintro e w1 ⟨rfl, hb⟩
          have D1 := Lib.hid (D0.out.trans (hb.mono D0.out.size))
          clear hb D0
          go_wp2_with fail
          refine (cS.out _).mono ?_
          rintro e w2 ⟨rfl, hb⟩
          have D2 := Lib.hid (D1.out.trans (hb.mono D1.out.size))
          clear hb D1
          go_wp2_with fail
          refine (c1.out _).mono ?_
          rintro e w3 ⟨rfl, hb⟩
          have D3 := Lib.hid (D2.out.trans (hb.mono D2.out.size))
          clear hb D2
          go_wp2_with fail
          refine (c2.out _ (HE.out.below D3.out)).mono ?_
          rintro e w4 ⟨rfl, hb⟩
          have D4 := Lib.hid (D3.out.trans (hb.mono D3.out.size))
          clear hb D3
          go_wp2_with fail
          refine (c3.out _ (HE.out.below D4.out)).mono ?_
          rintro e w5 ⟨rfl, hb⟩
          have D5 := Lib.hid (D4.out.trans (hb.mono D4.out.size))
          clear hb D4
          go_wp2_with fail
          refine (cM.out _).mono ?_
          rintro e w6 ⟨rfl, hb⟩
          have D6 := Lib.hid (D5.out.trans (hb.mono D5.out.size))
          clear hb D5
          go_wp2_with fail
          refine (cP.out _ (HE.out.below D6.out)).mono ?_
          rintro e w7 ⟨rfl, hb⟩
          have D7 := Lib.hid (D6.out.trans (hb.mono D6.out.size))
          clear hb D6
          go_wp2_with fail
          go_ret
          exact ⟨rfl, D7.out⟩
end Go.Proofs.YtkjflpkokeckgaaDoor
