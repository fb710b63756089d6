/-
  The law CalendarOnce (layer 9): its walk.
-/
import Derived.Test.YtkjflpkokeckgaaDoorCaHead
set_option linter.unusedVariables false
set_option maxRecDepth 100000
namespace Go.Proofs.YtkjflpkokeckgaaDoor
open Go.RowKit
open Ca
def Law9 (w : World) (n m a : Int) : Prop := Calls Tryd.prog 6 #[.int .i64 n, .int .i64 m, .int .i64 a] w fun e w' => e = .returned (.bool true) ∧ Below w.heap.size w w'
set_option maxHeartbeats 4000000 in
theorem once_lo_in (q b : Nat) (w : World) (henv : Env w) (hq : q < 400) (hb5 : b < 5760) (m : Int) (hm : -9223372036854775808 ≤ m ∧ m ≤ 9223372036854775807) (h1 : m < 0) : Law9 w (q : Int) m (b : Int) := by
  have HE := Lib.hid henv
  clear henv
  unfold Law9
  have cN := Lib.hid (fun w => pNext_any m (b : Int) (i64_of hm) (i64_nat (by omega)) w)
  have u1 : decide ((b : Int) < 0) = false := decide_eq_false (by omega)
  have u2 : decide ((5760 : Int) ≤ (b : Int)) = false := decide_eq_false (by omega)
  have v1 : decide ((0 : Int) ≤ (q : Int)) = true := decide_eq_true (by omega)
  have v2 : decide ((q : Int) < 400) = true := decide_eq_true (by omega)
  have t5 : decide (m < 0) = true := decide_eq_true h1
  have hA : nexA m (b : Int) = (0, 1) := by unfold nexA okMA isM; rw [if_neg (by simp; omega)]
  rw [hA] at cN
  clear hA
  have D0 := Lib.hid (Below.refl w.heap.size w)
  go_enter Tryd.func6, Tryd.ntmps6
  go_wp2_with fail
  refine (head_any _ (HE.out.below D0.out)).mono ?_
  rintro e w1 ⟨rfl, hb⟩
  have D1 := Lib.hid (D0.out.trans (hb.mono D0.out.size))
  clear hb
  go_wp2_with fail
  go_loopw [10, 11] (fun vc vs wr => ∃ j : Nat, j ≤ 96 ∧ vs = .int .i64 (j : Int) ∧ vc = .int .i64 (cntF q b j : Nat) ∧ Hid (Below w.heap.size w wr)) (fun _ vs _ => 96 - (intOf vs).toNat)
  case atStart => exact ⟨0, by omega, rfl, rfl, D1⟩
  case round =>
    obtain ⟨j, hj, rfl, rfl, hB⟩ := hrel
    by_cases hlt : j < 96
    · have s1 : decide ((j : Int) < 96) = true := decide_eq_true (by omega)
      have cM := Lib.hid (fun w => pMoment_any (q : Int) (j : Int) (i64_nat (by omega)) (i64_nat (by omega)) w)
      rw [momA_ok hq hlt] at cM
      have hcs := cntF_succ q b j
      have hcl := cntF_le q b j
      obtain ⟨N, hN⟩ : ∃ N, N = 96 * q + j := ⟨_, rfl⟩
      rw [← hN] at cM hcs
      have cR := Lib.hid (fun w => reaches_any N b w (by omega) hb5)
      obtain ⟨C, hC⟩ : ∃ C, C = cntF q b j := ⟨_, rfl⟩
      rw [← hC] at hcs hcl ⊢
      have f1 : IntKind.i64.wrap ((j : Int) + 1) = (j : Int) + 1 := IntWalk.i64_in _ (by omega)
      have f2 : IntKind.i64.wrap ((C : Int) + 1) = (C : Int) + 1 := IntWalk.i64_in _ (by omega)
      cases hr : hits N b with
      | true =>
        rw [hr] at cR
        have HC : Hid (cntF q b (j + 1) = C + 1) := Lib.hid (by rw [hcs, hr]; rfl)
        clear hr hcs hC hN
        go_wp2_with fail
        refine (cM.out _).mono ?_
        rintro e wm ⟨rfl, hb⟩
        have DM := Lib.hid (hB.out.trans (hb.mono hB.out.size))
        clear hb
        go_wp2_with fail
        refine (cR.out _).mono ?_
        rintro e wq ⟨rfl, hb⟩
        have DR := Lib.hid (DM.out.trans (hb.mono DM.out.size))
        clear hb
        go_wp2_with fail
        go_roundw
        case rel => exact ⟨j + 1, by omega, by go_num, by rw [HC.out]; go_num, DR⟩
        case measure => simp [intOf]; omega
      | false =>
        rw [hr] at cR
        have HC : Hid (cntF q b (j + 1) = C) := Lib.hid (by rw [hcs, hr]; rfl)
        clear hr hcs hC hN
        go_wp2_with fail
        refine (cM.out _).mono ?_
        rintro e wm ⟨rfl, hb⟩
        have DM := Lib.hid (hB.out.trans (hb.mono hB.out.size))
        clear hb
        go_wp2_with fail
        refine (cR.out _).mono ?_
        rintro e wq ⟨rfl, hb⟩
        have DR := Lib.hid (DM.out.trans (hb.mono DM.out.size))
        clear hb
        go_wp2_with fail
        go_roundw
        case rel => exact ⟨j + 1, by omega, by go_num, by rw [HC.out], DR⟩
        case measure => simp [intOf]; omega
    · have s1 : decide ((j : Int) < 96) = false := decide_eq_false (by omega)
      have hj96 : j = 96 := by omega
      have hone : cntF q b j = 1 := by rw [hj96]; exact cntF_one q b hb5
      rw [hone]
      clear hone
      go_wp2_with fail
      refine (cN.out _).mono ?_
      rintro e wn ⟨rfl, hb⟩
      have DN := Lib.hid (hB.out.trans (hb.mono hB.out.size))
      clear hb
      go_wp2_with fail
      go_ret
      exact ⟨rfl, DN.out⟩
set_option maxHeartbeats 4000000 in
theorem once_lo_out (n : Int) (b : Nat) (w : World) (henv : Env w) (hq : ¬ (0 ≤ n ∧ n < 400)) (hb5 : b < 5760) (m : Int) (hm : -9223372036854775808 ≤ m ∧ m ≤ 9223372036854775807) (h1 : m < 0) : Law9 w n m (b : Int) := by
  have HE := Lib.hid henv
  clear henv
  unfold Law9
  have cN := Lib.hid (fun w => pNext_any m (b : Int) (i64_of hm) (i64_nat (by omega)) w)
  have u1 : decide ((b : Int) < 0) = false := decide_eq_false (by omega)
  have u2 : decide ((5760 : Int) ≤ (b : Int)) = false := decide_eq_false (by omega)
  by_cases hn0 : 0 ≤ n
  · have v1 : decide (0 ≤ n) = true := decide_eq_true hn0
    have v2 : decide (n < 400) = false := decide_eq_false (by omega)
    have t5 : decide (m < 0) = true := decide_eq_true h1
    have hA : nexA m (b : Int) = (0, 1) := by unfold nexA okMA isM; rw [if_neg (by simp; omega)]
    rw [hA] at cN
    clear hA
    have D0 := Lib.hid (Below.refl w.heap.size w)
    go_enter Tryd.func6, Tryd.ntmps6
    go_wp2_with fail
    refine (head_any _ (HE.out.below D0.out)).mono ?_
    rintro e w1 ⟨rfl, hb⟩
    have D1 := Lib.hid (D0.out.trans (hb.mono D0.out.size))
    clear hb
    go_wp2_with fail
    refine (cN.out _).mono ?_
    rintro e wn ⟨rfl, hb⟩
    have DN := Lib.hid (D1.out.trans (hb.mono D1.out.size))
    clear hb
    go_wp2_with fail
    go_ret
    exact ⟨rfl, DN.out⟩
  · have v1 : decide (0 ≤ n) = false := decide_eq_false hn0
    have t5 : decide (m < 0) = true := decide_eq_true h1
    have hA : nexA m (b : Int) = (0, 1) := by unfold nexA okMA isM; rw [if_neg (by simp; omega)]
    rw [hA] at cN
    clear hA
    have D0 := Lib.hid (Below.refl w.heap.size w)
    go_enter Tryd.func6, Tryd.ntmps6
    go_wp2_with fail
    refine (head_any _ (HE.out.below D0.out)).mono ?_
    rintro e w1 ⟨rfl, hb⟩
    have D1 := Lib.hid (D0.out.trans (hb.mono D0.out.size))
    clear hb
    go_wp2_with fail
    refine (cN.out _).mono ?_
    rintro e wn ⟨rfl, hb⟩
    have DN := Lib.hid (D1.out.trans (hb.mono D1.out.size))
    clear hb
    go_wp2_with fail
    go_ret
    exact ⟨rfl, DN.out⟩
set_option maxHeartbeats 4000000 in
theorem once_hi_in (q b : Nat) (w : World) (henv : Env w) (hq : q < 400) (hb5 : b < 5760) (m : Int) (hm : -9223372036854775808 ≤ m ∧ m ≤ 9223372036854775807) (h1 : 38399 < m) : Law9 w (q : Int) m (b : Int) := by
  have HE := Lib.hid henv
  clear henv
  unfold Law9
  have cN := Lib.hid (fun w => pNext_any m (b : Int) (i64_of hm) (i64_nat (by omega)) w)
  have u1 : decide ((b : Int) < 0) = false := decide_eq_false (by omega)
  have u2 : decide ((5760 : Int) ≤ (b : Int)) = false := decide_eq_false (by omega)
  have v1 : decide ((0 : Int) ≤ (q : Int)) = true := decide_eq_true (by omega)
  have v2 : decide ((q : Int) < 400) = true := decide_eq_true (by omega)
  have t5 : decide (m < 0) = false := decide_eq_false (by omega)
  have t6 : decide (38399 < m) = true := decide_eq_true (by omega)
  have hA : nexA m (b : Int) = (0, 1) := by unfold nexA okMA isM; rw [if_neg (by simp; omega)]
  rw [hA] at cN
  clear hA
  have D0 := Lib.hid (Below.refl w.heap.size w)
  go_enter Tryd.func6, Tryd.ntmps6
  go_wp2_with fail
  refine (head_any _ (HE.out.below D0.out)).mono ?_
  rintro e w1 ⟨rfl, hb⟩
  have D1 := Lib.hid (D0.out.trans (hb.mono D0.out.size))
  clear hb
  go_wp2_with fail
  go_loopw [10, 11] (fun vc vs wr => ∃ j : Nat, j ≤ 96 ∧ vs = .int .i64 (j : Int) ∧ vc = .int .i64 (cntF q b j : Nat) ∧ Hid (Below w.heap.size w wr)) (fun _ vs _ => 96 - (intOf vs).toNat)
  case atStart => exact ⟨0, by omega, rfl, rfl, D1⟩
  case round =>
    obtain ⟨j, hj, rfl, rfl, hB⟩ := hrel
    by_cases hlt : j < 96
    · have s1 : decide ((j : Int) < 96) = true := decide_eq_true (by omega)
      have cM := Lib.hid (fun w => pMoment_any (q : Int) (j : Int) (i64_nat (by omega)) (i64_nat (by omega)) w)
      rw [momA_ok hq hlt] at cM
      have hcs := cntF_succ q b j
      have hcl := cntF_le q b j
      obtain ⟨N, hN⟩ : ∃ N, N = 96 * q + j := ⟨_, rfl⟩
      rw [← hN] at cM hcs
      have cR := Lib.hid (fun w => reaches_any N b w (by omega) hb5)
      obtain ⟨C, hC⟩ : ∃ C, C = cntF q b j := ⟨_, rfl⟩
      rw [← hC] at hcs hcl ⊢
      have f1 : IntKind.i64.wrap ((j : Int) + 1) = (j : Int) + 1 := IntWalk.i64_in _ (by omega)
      have f2 : IntKind.i64.wrap ((C : Int) + 1) = (C : Int) + 1 := IntWalk.i64_in _ (by omega)
      cases hr : hits N b with
      | true =>
        rw [hr] at cR
        have HC : Hid (cntF q b (j + 1) = C + 1) := Lib.hid (by rw [hcs, hr]; rfl)
        clear hr hcs hC hN
        go_wp2_with fail
        refine (cM.out _).mono ?_
        rintro e wm ⟨rfl, hb⟩
        have DM := Lib.hid (hB.out.trans (hb.mono hB.out.size))
        clear hb
        go_wp2_with fail
        refine (cR.out _).mono ?_
        rintro e wq ⟨rfl, hb⟩
        have DR := Lib.hid (DM.out.trans (hb.mono DM.out.size))
        clear hb
        go_wp2_with fail
        go_roundw
        case rel => exact ⟨j + 1, by omega, by go_num, by rw [HC.out]; go_num, DR⟩
        case measure => simp [intOf]; omega
      | false =>
        rw [hr] at cR
        have HC : Hid (cntF q b (j + 1) = C) := Lib.hid (by rw [hcs, hr]; rfl)
        clear hr hcs hC hN
        go_wp2_with fail
        refine (cM.out _).mono ?_
        rintro e wm ⟨rfl, hb⟩
        have DM := Lib.hid (hB.out.trans (hb.mono hB.out.size))
        clear hb
        go_wp2_with fail
        refine (cR.out _).mono ?_
        rintro e wq ⟨rfl, hb⟩
        have DR := Lib.hid (DM.out.trans (hb.mono DM.out.size))
        clear hb
        go_wp2_with fail
        go_roundw
        case rel => exact ⟨j + 1, by omega, by go_num, by rw [HC.out], DR⟩
        case measure => simp [intOf]; omega
    · have s1 : decide ((j : Int) < 96) = false := decide_eq_false (by omega)
      have hj96 : j = 96 := by omega
      have hone : cntF q b j = 1 := by rw [hj96]; exact cntF_one q b hb5
      rw [hone]
      clear hone
      go_wp2_with fail
      refine (cN.out _).mono ?_
      rintro e wn ⟨rfl, hb⟩
      have DN := Lib.hid (hB.out.trans (hb.mono hB.out.size))
      clear hb
      go_wp2_with fail
      go_ret
      exact ⟨rfl, DN.out⟩
set_option maxHeartbeats 4000000 in
theorem once_hi_out (n : Int) (b : Nat) (w : World) (henv : Env w) (hq : ¬ (0 ≤ n ∧ n < 400)) (hb5 : b < 5760) (m : Int) (hm : -9223372036854775808 ≤ m ∧ m ≤ 9223372036854775807) (h1 : 38399 < m) : Law9 w n m (b : Int) := by
  have HE := Lib.hid henv
  clear henv
  unfold Law9
  have cN := Lib.hid (fun w => pNext_any m (b : Int) (i64_of hm) (i64_nat (by omega)) w)
  have u1 : decide ((b : Int) < 0) = false := decide_eq_false (by omega)
  have u2 : decide ((5760 : Int) ≤ (b : Int)) = false := decide_eq_false (by omega)
  by_cases hn0 : 0 ≤ n
  · have v1 : decide (0 ≤ n) = true := decide_eq_true hn0
    have v2 : decide (n < 400) = false := decide_eq_false (by omega)
    have t5 : decide (m < 0) = false := decide_eq_false (by omega)
    have t6 : decide (38399 < m) = true := decide_eq_true (by omega)
    have hA : nexA m (b : Int) = (0, 1) := by unfold nexA okMA isM; rw [if_neg (by simp; omega)]
    rw [hA] at cN
    clear hA
    have D0 := Lib.hid (Below.refl w.heap.size w)
    go_enter Tryd.func6, Tryd.ntmps6
    go_wp2_with fail
    refine (head_any _ (HE.out.below D0.out)).mono ?_
    rintro e w1 ⟨rfl, hb⟩
    have D1 := Lib.hid (D0.out.trans (hb.mono D0.out.size))
    clear hb
    go_wp2_with fail
    refine (cN.out _).mono ?_
    rintro e wn ⟨rfl, hb⟩
    have DN := Lib.hid (D1.out.trans (hb.mono D1.out.size))
    clear hb
    go_wp2_with fail
    go_ret
    exact ⟨rfl, DN.out⟩
  · have v1 : decide (0 ≤ n) = false := decide_eq_false hn0
    have t5 : decide (m < 0) = false := decide_eq_false (by omega)
    have t6 : decide (38399 < m) = true := decide_eq_true (by omega)
    have hA : nexA m (b : Int) = (0, 1) := by unfold nexA okMA isM; rw [if_neg (by simp; omega)]
    rw [hA] at cN
    clear hA
    have D0 := Lib.hid (Below.refl w.heap.size w)
    go_enter Tryd.func6, Tryd.ntmps6
    go_wp2_with fail
    refine (head_any _ (HE.out.below D0.out)).mono ?_
    rintro e w1 ⟨rfl, hb⟩
    have D1 := Lib.hid (D0.out.trans (hb.mono D0.out.size))
    clear hb
    go_wp2_with fail
    refine (cN.out _).mono ?_
    rintro e wn ⟨rfl, hb⟩
    have DN := Lib.hid (D1.out.trans (hb.mono D1.out.size))
    clear hb
    go_wp2_with fail
    go_ret
    exact ⟨rfl, DN.out⟩
set_option maxHeartbeats 4000000 in
theorem once_some_in (q b : Nat) (w : World) (henv : Env w) (hq : q < 400) (hb5 : b < 5760) (k x : Nat) (hk : k < 38400) (hnx : nextF k b = some x) : Law9 w (q : Int) (k : Int) (b : Int) := by
  have HE := Lib.hid henv
  clear henv
  unfold Law9
  have cN := Lib.hid (fun w => pNext_any (k : Int) (b : Int) (i64_nat (by omega)) (i64_nat (by omega)) w)
  have u1 : decide ((b : Int) < 0) = false := decide_eq_false (by omega)
  have u2 : decide ((5760 : Int) ≤ (b : Int)) = false := decide_eq_false (by omega)
  have v1 : decide ((0 : Int) ≤ (q : Int)) = true := decide_eq_true (by omega)
  have v2 : decide ((q : Int) < 400) = true := decide_eq_true (by omega)
  have t5 : decide ((k : Int) < 0) = false := decide_eq_false (by omega)
  have t6 : decide (38399 < (k : Int)) = false := decide_eq_false (by omega)
  rw [nexA_ok hk hb5, hnx] at cN
  obtain ⟨x1, x2, x3, x4⟩ := nextF_is hnx
  have x5 := nextF_near hb5 hnx
  have HY : Hid (∀ y, k ≤ y → y < x → hits y b = false) := Lib.hid x4
  have cX := Lib.hid (fun w => reaches_any x b w x2 hb5)
  rw [x3] at cX
  have f6 : IntKind.i64.wrap ((k : Int) + 190) = (k : Int) + 190 := IntWalk.i64_in _ (by omega)
  have t7 : decide ((x : Int) < (k : Int)) = false := decide_eq_false (by omega)
  have t7n : ¬ x < k := by omega
  have t9 : decide ((k : Int) + 190 < (x : Int)) = false := decide_eq_false (by omega)
  clear x3 x4 hnx
  have D0 := Lib.hid (Below.refl w.heap.size w)
  go_enter Tryd.func6, Tryd.ntmps6
  go_wp2_with fail
  refine (head_any _ (HE.out.below D0.out)).mono ?_
  rintro e w1 ⟨rfl, hb⟩
  have D1 := Lib.hid (D0.out.trans (hb.mono D0.out.size))
  clear hb
  go_wp2_with fail
  go_loopw [10, 11] (fun vc vs wr => ∃ j : Nat, j ≤ 96 ∧ vs = .int .i64 (j : Int) ∧ vc = .int .i64 (cntF q b j : Nat) ∧ Hid (Below w.heap.size w wr)) (fun _ vs _ => 96 - (intOf vs).toNat)
  case atStart => exact ⟨0, by omega, rfl, rfl, D1⟩
  case round =>
    obtain ⟨j, hj, rfl, rfl, hB⟩ := hrel
    by_cases hlt : j < 96
    · have s1 : decide ((j : Int) < 96) = true := decide_eq_true (by omega)
      have cM := Lib.hid (fun w => pMoment_any (q : Int) (j : Int) (i64_nat (by omega)) (i64_nat (by omega)) w)
      rw [momA_ok hq hlt] at cM
      have hcs := cntF_succ q b j
      have hcl := cntF_le q b j
      obtain ⟨N, hN⟩ : ∃ N, N = 96 * q + j := ⟨_, rfl⟩
      rw [← hN] at cM hcs
      have cR := Lib.hid (fun w => reaches_any N b w (by omega) hb5)
      obtain ⟨C, hC⟩ : ∃ C, C = cntF q b j := ⟨_, rfl⟩
      rw [← hC] at hcs hcl ⊢
      have f1 : IntKind.i64.wrap ((j : Int) + 1) = (j : Int) + 1 := IntWalk.i64_in _ (by omega)
      have f2 : IntKind.i64.wrap ((C : Int) + 1) = (C : Int) + 1 := IntWalk.i64_in _ (by omega)
      cases hr : hits N b with
      | true =>
        rw [hr] at cR
        have HC : Hid (cntF q b (j + 1) = C + 1) := Lib.hid (by rw [hcs, hr]; rfl)
        clear hr hcs hC hN
        go_wp2_with fail
        refine (cM.out _).mono ?_
        rintro e wm ⟨rfl, hb⟩
        have DM := Lib.hid (hB.out.trans (hb.mono hB.out.size))
        clear hb
        go_wp2_with fail
        refine (cR.out _).mono ?_
        rintro e wq ⟨rfl, hb⟩
        have DR := Lib.hid (DM.out.trans (hb.mono DM.out.size))
        clear hb
        go_wp2_with fail
        go_roundw
        case rel => exact ⟨j + 1, by omega, by go_num, by rw [HC.out]; go_num, DR⟩
        case measure => simp [intOf]; omega
      | false =>
        rw [hr] at cR
        have HC : Hid (cntF q b (j + 1) = C) := Lib.hid (by rw [hcs, hr]; rfl)
        clear hr hcs hC hN
        go_wp2_with fail
        refine (cM.out _).mono ?_
        rintro e wm ⟨rfl, hb⟩
        have DM := Lib.hid (hB.out.trans (hb.mono hB.out.size))
        clear hb
        go_wp2_with fail
        refine (cR.out _).mono ?_
        rintro e wq ⟨rfl, hb⟩
        have DR := Lib.hid (DM.out.trans (hb.mono DM.out.size))
        clear hb
        go_wp2_with fail
        go_roundw
        case rel => exact ⟨j + 1, by omega, by go_num, by rw [HC.out], DR⟩
        case measure => simp [intOf]; omega
    · have s1 : decide ((j : Int) < 96) = false := decide_eq_false (by omega)
      have hj96 : j = 96 := by omega
      have hone : cntF q b j = 1 := by rw [hj96]; exact cntF_one q b hb5
      rw [hone]
      clear hone
      go_wp2_with fail
      refine (cN.out _).mono ?_
      rintro e wn ⟨rfl, hb⟩
      have DN := Lib.hid (hB.out.trans (hb.mono hB.out.size))
      clear hb
      go_wp2_with fail
      refine (cX.out _).mono ?_
      rintro e wx ⟨rfl, hb⟩
      have DX := Lib.hid (DN.out.trans (hb.mono DN.out.size))
      clear hb
      go_wp2_with fail
      go_loopw [17] (fun vx wr2 => ∃ y : Nat, k ≤ y ∧ y ≤ x ∧ vx = .int .i64 (y : Int) ∧ Hid (Below w.heap.size w wr2)) (fun vx _ => x - (intOf vx).toNat)
      case atStart => exact ⟨k, by omega, by omega, rfl, DX⟩
      case round =>
        obtain ⟨y, hy1, hy2, rfl, hE⟩ := hrel
        by_cases hye : y < x
        · have t8 : decide ((y : Int) < (x : Int)) = true := decide_eq_true (by omega)
          have cY := Lib.hid (fun w => reaches_any y b w (by omega) hb5)
          rw [HY.out y hy1 hye] at cY
          have f8 : IntKind.i64.wrap ((y : Int) + 1) = (y : Int) + 1 := IntWalk.i64_in _ (by omega)
          go_wp2_with fail
          refine (cY.out _).mono ?_
          rintro e wz ⟨rfl, hb⟩
          have DZ := Lib.hid (hE.out.trans (hb.mono hE.out.size))
          clear hb
          go_wp2_with fail
          go_roundw
          case rel => exact ⟨y + 1, by omega, by omega, by go_num, DZ⟩
          case measure => simp [intOf]; omega
        · have t8 : decide ((y : Int) < (x : Int)) = false := decide_eq_false (by omega)
          go_wp2_with fail
          go_ret
          exact ⟨rfl, hE.out⟩
set_option maxHeartbeats 4000000 in
theorem once_some_out (n : Int) (b : Nat) (w : World) (henv : Env w) (hq : ¬ (0 ≤ n ∧ n < 400)) (hb5 : b < 5760) (k x : Nat) (hk : k < 38400) (hnx : nextF k b = some x) : Law9 w n (k : Int) (b : Int) := by
  have HE := Lib.hid henv
  clear henv
  unfold Law9
  have cN := Lib.hid (fun w => pNext_any (k : Int) (b : Int) (i64_nat (by omega)) (i64_nat (by omega)) w)
  have u1 : decide ((b : Int) < 0) = false := decide_eq_false (by omega)
  have u2 : decide ((5760 : Int) ≤ (b : Int)) = false := decide_eq_false (by omega)
  by_cases hn0 : 0 ≤ n
  · have v1 : decide (0 ≤ n) = true := decide_eq_true hn0
    have v2 : decide (n < 400) = false := decide_eq_false (by omega)
    have t5 : decide ((k : Int) < 0) = false := decide_eq_false (by omega)
    have t6 : decide (38399 < (k : Int)) = false := decide_eq_false (by omega)
    rw [nexA_ok hk hb5, hnx] at cN
    obtain ⟨x1, x2, x3, x4⟩ := nextF_is hnx
    have x5 := nextF_near hb5 hnx
    have HY : Hid (∀ y, k ≤ y → y < x → hits y b = false) := Lib.hid x4
    have cX := Lib.hid (fun w => reaches_any x b w x2 hb5)
    rw [x3] at cX
    have f6 : IntKind.i64.wrap ((k : Int) + 190) = (k : Int) + 190 := IntWalk.i64_in _ (by omega)
    have t7 : decide ((x : Int) < (k : Int)) = false := decide_eq_false (by omega)
    have t7n : ¬ x < k := by omega
    have t9 : decide ((k : Int) + 190 < (x : Int)) = false := decide_eq_false (by omega)
    clear x3 x4 hnx
    have D0 := Lib.hid (Below.refl w.heap.size w)
    go_enter Tryd.func6, Tryd.ntmps6
    go_wp2_with fail
    refine (head_any _ (HE.out.below D0.out)).mono ?_
    rintro e w1 ⟨rfl, hb⟩
    have D1 := Lib.hid (D0.out.trans (hb.mono D0.out.size))
    clear hb
    go_wp2_with fail
    refine (cN.out _).mono ?_
    rintro e wn ⟨rfl, hb⟩
    have DN := Lib.hid (D1.out.trans (hb.mono D1.out.size))
    clear hb
    go_wp2_with fail
    refine (cX.out _).mono ?_
    rintro e wx ⟨rfl, hb⟩
    have DX := Lib.hid (DN.out.trans (hb.mono DN.out.size))
    clear hb
    go_wp2_with fail
    go_loopw [17] (fun vx wr2 => ∃ y : Nat, k ≤ y ∧ y ≤ x ∧ vx = .int .i64 (y : Int) ∧ Hid (Below w.heap.size w wr2)) (fun vx _ => x - (intOf vx).toNat)
    case atStart => exact ⟨k, by omega, by omega, rfl, DX⟩
    case round =>
      obtain ⟨y, hy1, hy2, rfl, hE⟩ := hrel
      by_cases hye : y < x
      · have t8 : decide ((y : Int) < (x : Int)) = true := decide_eq_true (by omega)
        have cY := Lib.hid (fun w => reaches_any y b w (by omega) hb5)
        rw [HY.out y hy1 hye] at cY
        have f8 : IntKind.i64.wrap ((y : Int) + 1) = (y : Int) + 1 := IntWalk.i64_in _ (by omega)
        go_wp2_with fail
        refine (cY.out _).mono ?_
        rintro e wz ⟨rfl, hb⟩
        have DZ := Lib.hid (hE.out.trans (hb.mono hE.out.size))
        clear hb
        go_wp2_with fail
        go_roundw
        case rel => exact ⟨y + 1, by omega, by omega, by go_num, DZ⟩
        case measure => simp [intOf]; omega
      · have t8 : decide ((y : Int) < (x : Int)) = false := decide_eq_false (by omega)
        go_wp2_with fail
        go_ret
        exact ⟨rfl, hE.out⟩
  · have v1 : decide (0 ≤ n) = false := decide_eq_false hn0
    have t5 : decide ((k : Int) < 0) = false := decide_eq_false (by omega)
    have t6 : decide (38399 < (k : Int)) = false := decide_eq_false (by omega)
    rw [nexA_ok hk hb5, hnx] at cN
    obtain ⟨x1, x2, x3, x4⟩ := nextF_is hnx
    have x5 := nextF_near hb5 hnx
    have HY : Hid (∀ y, k ≤ y → y < x → hits y b = false) := Lib.hid x4
    have cX := Lib.hid (fun w => reaches_any x b w x2 hb5)
    rw [x3] at cX
    have f6 : IntKind.i64.wrap ((k : Int) + 190) = (k : Int) + 190 := IntWalk.i64_in _ (by omega)
    have t7 : decide ((x : Int) < (k : Int)) = false := decide_eq_false (by omega)
    have t7n : ¬ x < k := by omega
    have t9 : decide ((k : Int) + 190 < (x : Int)) = false := decide_eq_false (by omega)
    clear x3 x4 hnx
    have D0 := Lib.hid (Below.refl w.heap.size w)
    go_enter Tryd.func6, Tryd.ntmps6
    go_wp2_with fail
    refine (head_any _ (HE.out.below D0.out)).mono ?_
    rintro e w1 ⟨rfl, hb⟩
    have D1 := Lib.hid (D0.out.trans (hb.mono D0.out.size))
    clear hb
    go_wp2_with fail
    refine (cN.out _).mono ?_
    rintro e wn ⟨rfl, hb⟩
    have DN := Lib.hid (D1.out.trans (hb.mono D1.out.size))
    clear hb
    go_wp2_with fail
    refine (cX.out _).mono ?_
    rintro e wx ⟨rfl, hb⟩
    have DX := Lib.hid (DN.out.trans (hb.mono DN.out.size))
    clear hb
    go_wp2_with fail
    go_loopw [17] (fun vx wr2 => ∃ y : Nat, k ≤ y ∧ y ≤ x ∧ vx = .int .i64 (y : Int) ∧ Hid (Below w.heap.size w wr2)) (fun vx _ => x - (intOf vx).toNat)
    case atStart => exact ⟨k, by omega, by omega, rfl, DX⟩
    case round =>
      obtain ⟨y, hy1, hy2, rfl, hE⟩ := hrel
      by_cases hye : y < x
      · have t8 : decide ((y : Int) < (x : Int)) = true := decide_eq_true (by omega)
        have cY := Lib.hid (fun w => reaches_any y b w (by omega) hb5)
        rw [HY.out y hy1 hye] at cY
        have f8 : IntKind.i64.wrap ((y : Int) + 1) = (y : Int) + 1 := IntWalk.i64_in _ (by omega)
        go_wp2_with fail
        refine (cY.out _).mono ?_
        rintro e wz ⟨rfl, hb⟩
        have DZ := Lib.hid (hE.out.trans (hb.mono hE.out.size))
        clear hb
        go_wp2_with fail
        go_roundw
        case rel => exact ⟨y + 1, by omega, by omega, by go_num, DZ⟩
        case measure => simp [intOf]; omega
      · have t8 : decide ((y : Int) < (x : Int)) = false := decide_eq_false (by omega)
        go_wp2_with fail
        go_ret
        exact ⟨rfl, hE.out⟩
set_option maxHeartbeats 4000000 in
theorem once_none_in (q b : Nat) (w : World) (henv : Env w) (hq : q < 400) (hb5 : b < 5760) (k : Nat) (hk : k < 38400) (hnx : nextF k b = none) : Law9 w (q : Int) (k : Int) (b : Int) := by
  have HE := Lib.hid henv
  clear henv
  unfold Law9
  have cN := Lib.hid (fun w => pNext_any (k : Int) (b : Int) (i64_nat (by omega)) (i64_nat (by omega)) w)
  have u1 : decide ((b : Int) < 0) = false := decide_eq_false (by omega)
  have u2 : decide ((5760 : Int) ≤ (b : Int)) = false := decide_eq_false (by omega)
  have v1 : decide ((0 : Int) ≤ (q : Int)) = true := decide_eq_true (by omega)
  have v2 : decide ((q : Int) < 400) = true := decide_eq_true (by omega)
  have t5 : decide ((k : Int) < 0) = false := decide_eq_false (by omega)
  have t6 : decide (38399 < (k : Int)) = false := decide_eq_false (by omega)
  rw [nexA_ok hk hb5, hnx] at cN
  have x5 := nextF_far hb5 hnx
  have HY : Hid (∀ y, k ≤ y → y < 38400 → hits y b = false) := Lib.hid (nextF_no hnx)
  have f6 : IntKind.i64.wrap ((k : Int) + 190) = (k : Int) + 190 := IntWalk.i64_in _ (by omega)
  have t7 : decide ((k : Int) + 190 < 38399) = false := decide_eq_false (by omega)
  clear hnx
  have D0 := Lib.hid (Below.refl w.heap.size w)
  go_enter Tryd.func6, Tryd.ntmps6
  go_wp2_with fail
  refine (head_any _ (HE.out.below D0.out)).mono ?_
  rintro e w1 ⟨rfl, hb⟩
  have D1 := Lib.hid (D0.out.trans (hb.mono D0.out.size))
  clear hb
  go_wp2_with fail
  go_loopw [10, 11] (fun vc vs wr => ∃ j : Nat, j ≤ 96 ∧ vs = .int .i64 (j : Int) ∧ vc = .int .i64 (cntF q b j : Nat) ∧ Hid (Below w.heap.size w wr)) (fun _ vs _ => 96 - (intOf vs).toNat)
  case atStart => exact ⟨0, by omega, rfl, rfl, D1⟩
  case round =>
    obtain ⟨j, hj, rfl, rfl, hB⟩ := hrel
    by_cases hlt : j < 96
    · have s1 : decide ((j : Int) < 96) = true := decide_eq_true (by omega)
      have cM := Lib.hid (fun w => pMoment_any (q : Int) (j : Int) (i64_nat (by omega)) (i64_nat (by omega)) w)
      rw [momA_ok hq hlt] at cM
      have hcs := cntF_succ q b j
      have hcl := cntF_le q b j
      obtain ⟨N, hN⟩ : ∃ N, N = 96 * q + j := ⟨_, rfl⟩
      rw [← hN] at cM hcs
      have cR := Lib.hid (fun w => reaches_any N b w (by omega) hb5)
      obtain ⟨C, hC⟩ : ∃ C, C = cntF q b j := ⟨_, rfl⟩
      rw [← hC] at hcs hcl ⊢
      have f1 : IntKind.i64.wrap ((j : Int) + 1) = (j : Int) + 1 := IntWalk.i64_in _ (by omega)
      have f2 : IntKind.i64.wrap ((C : Int) + 1) = (C : Int) + 1 := IntWalk.i64_in _ (by omega)
      cases hr : hits N b with
      | true =>
        rw [hr] at cR
        have HC : Hid (cntF q b (j + 1) = C + 1) := Lib.hid (by rw [hcs, hr]; rfl)
        clear hr hcs hC hN
        go_wp2_with fail
        refine (cM.out _).mono ?_
        rintro e wm ⟨rfl, hb⟩
        have DM := Lib.hid (hB.out.trans (hb.mono hB.out.size))
        clear hb
        go_wp2_with fail
        refine (cR.out _).mono ?_
        rintro e wq ⟨rfl, hb⟩
        have DR := Lib.hid (DM.out.trans (hb.mono DM.out.size))
        clear hb
        go_wp2_with fail
        go_roundw
        case rel => exact ⟨j + 1, by omega, by go_num, by rw [HC.out]; go_num, DR⟩
        case measure => simp [intOf]; omega
      | false =>
        rw [hr] at cR
        have HC : Hid (cntF q b (j + 1) = C) := Lib.hid (by rw [hcs, hr]; rfl)
        clear hr hcs hC hN
        go_wp2_with fail
        refine (cM.out _).mono ?_
        rintro e wm ⟨rfl, hb⟩
        have DM := Lib.hid (hB.out.trans (hb.mono hB.out.size))
        clear hb
        go_wp2_with fail
        refine (cR.out _).mono ?_
        rintro e wq ⟨rfl, hb⟩
        have DR := Lib.hid (DM.out.trans (hb.mono DM.out.size))
        clear hb
        go_wp2_with fail
        go_roundw
        case rel => exact ⟨j + 1, by omega, by go_num, by rw [HC.out], DR⟩
        case measure => simp [intOf]; omega
    · have s1 : decide ((j : Int) < 96) = false := decide_eq_false (by omega)
      have hj96 : j = 96 := by omega
      have hone : cntF q b j = 1 := by rw [hj96]; exact cntF_one q b hb5
      rw [hone]
      clear hone
      go_wp2_with fail
      refine (cN.out _).mono ?_
      rintro e wn ⟨rfl, hb⟩
      have DN := Lib.hid (hB.out.trans (hb.mono hB.out.size))
      clear hb
      go_wp2_with fail
      go_loopw [17] (fun vx wr2 => ∃ y : Nat, k ≤ y ∧ y ≤ 38400 ∧ vx = .int .i64 (y : Int) ∧ Hid (Below w.heap.size w wr2)) (fun vx _ => 38400 - (intOf vx).toNat)
      case atStart => exact ⟨k, by omega, by omega, rfl, DN⟩
      case round =>
        obtain ⟨y, hy1, hy2, rfl, hE⟩ := hrel
        by_cases hye : y < 38400
        · have t8 : decide ((y : Int) < 38400) = true := decide_eq_true (by omega)
          have cY := Lib.hid (fun w => reaches_any y b w (by omega) hb5)
          rw [HY.out y hy1 hye] at cY
          have f8 : IntKind.i64.wrap ((y : Int) + 1) = (y : Int) + 1 := IntWalk.i64_in _ (by omega)
          go_wp2_with fail
          refine (cY.out _).mono ?_
          rintro e wz ⟨rfl, hb⟩
          have DZ := Lib.hid (hE.out.trans (hb.mono hE.out.size))
          clear hb
          go_wp2_with fail
          go_roundw
          case rel => exact ⟨y + 1, by omega, by omega, by go_num, DZ⟩
          case measure => simp [intOf]; omega
        · have t8 : decide ((y : Int) < 38400) = false := decide_eq_false (by omega)
          go_wp2_with fail
          go_ret
          exact ⟨rfl, hE.out⟩
set_option maxHeartbeats 4000000 in
theorem once_none_out (n : Int) (b : Nat) (w : World) (henv : Env w) (hq : ¬ (0 ≤ n ∧ n < 400)) (hb5 : b < 5760) (k : Nat) (hk : k < 38400) (hnx : nextF k b = none) : Law9 w n (k : Int) (b : Int) := by
  have HE := Lib.hid henv
  clear henv
  unfold Law9
  have cN := Lib.hid (fun w => pNext_any (k : Int) (b : Int) (i64_nat (by omega)) (i64_nat (by omega)) w)
  have u1 : decide ((b : Int) < 0) = false := decide_eq_false (by omega)
  have u2 : decide ((5760 : Int) ≤ (b : Int)) = false := decide_eq_false (by omega)
  by_cases hn0 : 0 ≤ n
  · have v1 : decide (0 ≤ n) = true := decide_eq_true hn0
    have v2 : decide (n < 400) = false := decide_eq_false (by omega)
    have t5 : decide ((k : Int) < 0) = false := decide_eq_false (by omega)
    have t6 : decide (38399 < (k : Int)) = false := decide_eq_false (by omega)
    rw [nexA_ok hk hb5, hnx] at cN
    have x5 := nextF_far hb5 hnx
    have HY : Hid (∀ y, k ≤ y → y < 38400 → hits y b = false) := Lib.hid (nextF_no hnx)
    have f6 : IntKind.i64.wrap ((k : Int) + 190) = (k : Int) + 190 := IntWalk.i64_in _ (by omega)
    have t7 : decide ((k : Int) + 190 < 38399) = false := decide_eq_false (by omega)
    clear hnx
    have D0 := Lib.hid (Below.refl w.heap.size w)
    go_enter Tryd.func6, Tryd.ntmps6
    go_wp2_with fail
    refine (head_any _ (HE.out.below D0.out)).mono ?_
    rintro e w1 ⟨rfl, hb⟩
    have D1 := Lib.hid (D0.out.trans (hb.mono D0.out.size))
    clear hb
    go_wp2_with fail
    refine (cN.out _).mono ?_
    rintro e wn ⟨rfl, hb⟩
    have DN := Lib.hid (D1.out.trans (hb.mono D1.out.size))
    clear hb
    go_wp2_with fail
    go_loopw [17] (fun vx wr2 => ∃ y : Nat, k ≤ y ∧ y ≤ 38400 ∧ vx = .int .i64 (y : Int) ∧ Hid (Below w.heap.size w wr2)) (fun vx _ => 38400 - (intOf vx).toNat)
    case atStart => exact ⟨k, by omega, by omega, rfl, DN⟩
    case round =>
      obtain ⟨y, hy1, hy2, rfl, hE⟩ := hrel
      by_cases hye : y < 38400
      · have t8 : decide ((y : Int) < 38400) = true := decide_eq_true (by omega)
        have cY := Lib.hid (fun w => reaches_any y b w (by omega) hb5)
        rw [HY.out y hy1 hye] at cY
        have f8 : IntKind.i64.wrap ((y : Int) + 1) = (y : Int) + 1 := IntWalk.i64_in _ (by omega)
        go_wp2_with fail
        refine (cY.out _).mono ?_
        rintro e wz ⟨rfl, hb⟩
        have DZ := Lib.hid (hE.out.trans (hb.mono hE.out.size))
        clear hb
        go_wp2_with fail
        go_roundw
        case rel => exact ⟨y + 1, by omega, by omega, by go_num, DZ⟩
        case measure => simp [intOf]; omega
      · have t8 : decide ((y : Int) < 38400) = false := decide_eq_false (by omega)
        go_wp2_with fail
        go_ret
        exact ⟨rfl, hE.out⟩
  · have v1 : decide (0 ≤ n) = false := decide_eq_false hn0
    have t5 : decide ((k : Int) < 0) = false := decide_eq_false (by omega)
    have t6 : decide (38399 < (k : Int)) = false := decide_eq_false (by omega)
    rw [nexA_ok hk hb5, hnx] at cN
    have x5 := nextF_far hb5 hnx
    have HY : Hid (∀ y, k ≤ y → y < 38400 → hits y b = false) := Lib.hid (nextF_no hnx)
    have f6 : IntKind.i64.wrap ((k : Int) + 190) = (k : Int) + 190 := IntWalk.i64_in _ (by omega)
    have t7 : decide ((k : Int) + 190 < 38399) = false := decide_eq_false (by omega)
    clear hnx
    have D0 := Lib.hid (Below.refl w.heap.size w)
    go_enter Tryd.func6, Tryd.ntmps6
    go_wp2_with fail
    refine (head_any _ (HE.out.below D0.out)).mono ?_
    rintro e w1 ⟨rfl, hb⟩
    have D1 := Lib.hid (D0.out.trans (hb.mono D0.out.size))
    clear hb
    go_wp2_with fail
    refine (cN.out _).mono ?_
    rintro e wn ⟨rfl, hb⟩
    have DN := Lib.hid (D1.out.trans (hb.mono D1.out.size))
    clear hb
    go_wp2_with fail
    go_loopw [17] (fun vx wr2 => ∃ y : Nat, k ≤ y ∧ y ≤ 38400 ∧ vx = .int .i64 (y : Int) ∧ Hid (Below w.heap.size w wr2)) (fun vx _ => 38400 - (intOf vx).toNat)
    case atStart => exact ⟨k, by omega, by omega, rfl, DN⟩
    case round =>
      obtain ⟨y, hy1, hy2, rfl, hE⟩ := hrel
      by_cases hye : y < 38400
      · have t8 : decide ((y : Int) < 38400) = true := decide_eq_true (by omega)
        have cY := Lib.hid (fun w => reaches_any y b w (by omega) hb5)
        rw [HY.out y hy1 hye] at cY
        have f8 : IntKind.i64.wrap ((y : Int) + 1) = (y : Int) + 1 := IntWalk.i64_in _ (by omega)
        go_wp2_with fail
        refine (cY.out _).mono ?_
        rintro e wz ⟨rfl, hb⟩
        have DZ := Lib.hid (hE.out.trans (hb.mono hE.out.size))
        clear hb
        go_wp2_with fail
        go_roundw
        case rel => exact ⟨y + 1, by omega, by omega, by go_num, DZ⟩
        case measure => simp [intOf]; omega
      · have t8 : decide ((y : Int) < 38400) = false := decide_eq_false (by omega)
        go_wp2_with fail
        go_ret
        exact ⟨rfl, hE.out⟩
set_option maxHeartbeats 2000000 in
theorem once_bad (n m a : Int) (w : World) (henv : Env w) (hm : -9223372036854775808 ≤ m ∧ m ≤ 9223372036854775807) (haa : -9223372036854775808 ≤ a ∧ a ≤ 9223372036854775807) (ha : a < 0 ∨ 5760 ≤ a) : Law9 w n m a := by
  have HE := Lib.hid henv
  clear henv
  unfold Law9
  have cN := Lib.hid (fun w => pNext_any m a (i64_of hm) (i64_of haa) w)
  have hA : nexA m a = (0, 1) := by unfold nexA okMA; rw [if_neg (by simp; omega)]
  rw [hA] at cN
  clear hA
  by_cases h0 : a < 0
  · have u1 : decide (a < 0) = true := decide_eq_true h0
    have D0 := Lib.hid (Below.refl w.heap.size w)
    go_enter Tryd.func6, Tryd.ntmps6
    go_wp2_with fail
    refine (head_any _ (HE.out.below D0.out)).mono ?_
    rintro e w1 ⟨rfl, hb⟩
    have D1 := Lib.hid (D0.out.trans (hb.mono D0.out.size))
    clear hb D0
    go_wp2_with fail
    refine (cN.out _).mono ?_
    rintro e w2 ⟨rfl, hb⟩
    have D2 := Lib.hid (D1.out.trans (hb.mono D1.out.size))
    clear hb D1
    go_wp2_with fail
    go_ret
    exact ⟨rfl, D2.out⟩
  · have u1 : decide (a < 0) = false := decide_eq_false h0
    have u2 : decide (5760 ≤ a) = true := decide_eq_true (by omega)
    have D0 := Lib.hid (Below.refl w.heap.size w)
    go_enter Tryd.func6, Tryd.ntmps6
    go_wp2_with fail
    refine (head_any _ (HE.out.below D0.out)).mono ?_
    rintro e w1 ⟨rfl, hb⟩
    have D1 := Lib.hid (D0.out.trans (hb.mono D0.out.size))
    clear hb D0
    go_wp2_with fail
    refine (cN.out _).mono ?_
    rintro e w2 ⟨rfl, hb⟩
    have D2 := Lib.hid (D1.out.trans (hb.mono D1.out.size))
    clear hb D1
    go_wp2_with fail
    go_ret
    exact ⟨rfl, D2.out⟩
theorem walkCalendarOnce (n m a : Int) (w : World) (henv : Env w) (hn : -9223372036854775808 ≤ n ∧ n ≤ 9223372036854775807) (hm : -9223372036854775808 ≤ m ∧ m ≤ 9223372036854775807) (ha : -9223372036854775808 ≤ a ∧ a ≤ 9223372036854775807) :
    Calls Tryd.prog 6 #[.int .i64 n, .int .i64 m, .int .i64 a] w fun e w' => e = .returned (.bool true) ∧ Below w.heap.size w w' := by
  by_cases h : a < 0 ∨ 5760 ≤ a
  · exact once_bad n m a w henv hm ha h
  · obtain ⟨b, rfl⟩ : ∃ b : Nat, a = (b : Int) := ⟨a.toNat, by omega⟩
    have hb5 : b < 5760 := by omega
    by_cases hq : 0 ≤ n ∧ n < 400
    · obtain ⟨q, rfl⟩ : ∃ q : Nat, n = (q : Int) := ⟨n.toNat, by omega⟩
      have hq4 : q < 400 := by omega
      by_cases h1 : m < 0
      · exact once_lo_in q b w henv hq4 hb5 m hm h1
      · by_cases h2 : 38399 < m
        · exact once_hi_in q b w henv hq4 hb5 m hm h2
        · obtain ⟨k, rfl⟩ : ∃ k : Nat, m = (k : Int) := ⟨m.toNat, by omega⟩
          cases hnx : nextF k b with
          | some x => exact once_some_in q b w henv hq4 hb5 k x (by omega) hnx
          | none => exact once_none_in q b w henv hq4 hb5 k (by omega) hnx
    · by_cases h1 : m < 0
      · exact once_lo_out n b w henv hq hb5 m hm h1
      · by_cases h2 : 38399 < m
        · exact once_hi_out n b w henv hq hb5 m hm h2
        · obtain ⟨k, rfl⟩ : ∃ k : Nat, m = (k : Int) := ⟨m.toNat, by omega⟩
          cases hnx : nextF k b with
          | some x => exact once_some_out n b w henv hq hb5 k x (by omega) hnx
          | none => exact once_none_out n b w henv hq hb5 k (by omega) hnx
end Go.Proofs.YtkjflpkokeckgaaDoor
