/-
  The program's Valid and Compare of layer 3.
-/
import Derived.Test.YtbcoblpnihdhgaaDoorNatB
set_option linter.unusedVariables false
set_option maxRecDepth 100000
namespace Go.Proofs.YtbcoblpnihdhgaaDoor
open Go.RowKit
set_option maxHeartbeats 400000 in
theorem pvalid_empty (s : ByteArray) (w : World) (h : s.size = 0) :
    Calls Tryd.prog 56 #[.string s] w fun e w' => e = .returned (.bool false) ∧ w = w' := by
  go_enter Tryd.func56, Tryd.ntmps56
  go_wp2_with fail
  go_ret
  exact ⟨rfl, rfl⟩
set_option maxHeartbeats 400000 in
theorem pvalid_long (s : ByteArray) (w : World) (h : 1000 < s.size) :
    Calls Tryd.prog 56 #[.string s] w fun e w' => e = .returned (.bool false) ∧ w = w' := by
  have t1 : ((s.size : Int) == 0) = false := beq_eq_false_iff_ne.2 (by omega)
  have t2 : ¬ s.size = 0 := by omega
  go_enter Tryd.func56, Tryd.ntmps56
  go_wp2_with fail
  go_ret
  exact ⟨rfl, rfl⟩
set_option maxHeartbeats 400000 in
theorem pvalid_zero (s : ByteArray) (w : World) (h1 : 1 < s.size) (h2 : s.size ≤ 1000) (hz : s[0]'(by omega) = 48) (e2 : (s.toList == [48]) = false) :
    Calls Tryd.prog 56 #[.string s] w fun e w' => e = .returned (.bool false) ∧ w = w' := by
  have t1 : ((s.size : Int) == 0) = false := beq_eq_false_iff_ne.2 (by omega)
  have t2 : ¬ s.size = 0 := by omega
  have h0 : 0 < s.size := by omega
  have e1 : ((s[0].toNat : Int) == 48) = true := by rw [hz]; rfl
  clear hz
  go_enter Tryd.func56, Tryd.ntmps56
  go_wp2_with fail
  go_ret
  exact ⟨rfl, rfl⟩
set_option maxHeartbeats 1000000 in
theorem pvalid_loop (s : ByteArray) (w : World) (h0 : 0 < s.size) (h2 : s.size ≤ 1000) (e1 : ((s[0].toNat : Int) == 48) = false) :
    Calls Tryd.prog 56 #[.string s] w fun e w' => e = .returned (.bool ((tl s).all Dec.isD)) ∧ w = w' := by
  have t1 : ((s.size : Int) == 0) = false := beq_eq_false_iff_ne.2 (by omega)
  have t2 : ¬ s.size = 0 := by omega
  go_enter Tryd.func56, Tryd.ntmps56
  go_wp2_with fail
  go_loop [23] (fun i => ∃ k : Nat, k ≤ s.size ∧ i = .int .i64 k ∧ Hid (∀ b ∈ (tl s).take k, Dec.isD b = true)) (fun i => s.size - (intOf i).toNat)
  case atStart => exact ⟨0, by omega, rfl, Lib.hid (by rw [List.take_zero]; intro b hb; cases hb)⟩
  case round =>
    obtain ⟨k, hk, rfl, hx⟩ := hrel
    by_cases hlt : k < s.size
    · have htk : (tl s).take (k + 1) = (tl s).take k ++ [s[k]] := by
        rw [List.take_succ_eq_append_getElem (by rw [tl_length]; exact hlt), tl_get s k hlt]
      have hmem : s[k] ∈ tl s := by rw [← tl_get s k hlt]; exact List.getElem_mem _
      have HTK := Lib.hid htk
      have HM := Lib.hid hmem
      clear htk hmem
      have w4 : IntKind.i64.wrap ((k : Int) + 1) = (k : Int) + 1 := IntWalk.i64_in _ (by omega)
      by_cases c1 : s[k].toNat < 48
      · have g1 : decide ((s[k].toNat : Int) < 48) = true := decide_eq_true (by omega)
        have g2 : decide (s[k].toNat < 48) = true := decide_eq_true c1
        have hb : (tl s).all Dec.isD = false := by
          rw [List.all_eq_false]
          exact ⟨_, HM.out, by rw [(nd_iff _).2 (.inl c1)]; simp⟩
        have HB := Lib.hid hb
        clear hb
        go_wp2_with fail
        go_ret
        exact ⟨by rw [HB.out]; rfl, rfl⟩
      · by_cases c2 : 57 < s[k].toNat
        · have g1 : decide ((s[k].toNat : Int) < 48) = false := decide_eq_false (by omega)
          have g2 : decide (s[k].toNat < 48) = false := decide_eq_false c1
          have g3 : decide ((57 : Int) < (s[k].toNat : Int)) = true := decide_eq_true (by omega)
          have g4 : decide (57 < s[k].toNat) = true := decide_eq_true c2
          have hb : (tl s).all Dec.isD = false := by
            rw [List.all_eq_false]
            exact ⟨_, HM.out, by rw [(nd_iff _).2 (.inr c2)]; simp⟩
          have HB := Lib.hid hb
          clear hb
          go_wp2_with fail
          go_ret
          exact ⟨by rw [HB.out]; rfl, rfl⟩
        · have g1 : decide ((s[k].toNat : Int) < 48) = false := decide_eq_false (by omega)
          have g2 : decide (s[k].toNat < 48) = false := decide_eq_false c1
          have g3 : decide ((57 : Int) < (s[k].toNat : Int)) = false := decide_eq_false (by omega)
          have g4 : decide (57 < s[k].toNat) = false := decide_eq_false c2
          have hd : Dec.isD s[k] = true := (Dec.isD_iff _).2 ⟨by omega, by omega⟩
          have HDD := Lib.hid hd
          clear hd
          go_wp2_with fail
          go_round
          case rel =>
            refine ⟨k + 1, by omega, by go_num, Lib.hid (fun b hb => ?_)⟩
            rw [HTK.out] at hb
            rcases List.mem_append.1 hb with hb | hb
            · exact hx.out b hb
            · simp only [List.mem_singleton] at hb; subst hb; exact HDD.out
          case measure => simp [intOf]; omega
    · obtain rfl : k = s.size := by omega
      have hb : (tl s).all Dec.isD = true := by
        rw [List.all_eq_true]
        have := hx.out
        rwa [List.take_of_length_le (by rw [tl_length]; exact Nat.le_refl _)] at this
      have HB := Lib.hid hb
      clear hb
      go_wp2_with fail
      go_ret
      exact ⟨by rw [HB.out]; rfl, rfl⟩
set_option maxHeartbeats 1000000 in
theorem pvalid_one (s : ByteArray) (w : World) (h0 : 0 < s.size) (h2 : s.size ≤ 1000) (e1 : ((s[0].toNat : Int) == 48) = true) (e2 : (s.toList == [48]) = true) :
    Calls Tryd.prog 56 #[.string s] w fun e w' => e = .returned (.bool ((tl s).all Dec.isD)) ∧ w = w' := by
  have t1 : ((s.size : Int) == 0) = false := beq_eq_false_iff_ne.2 (by omega)
  have t2 : ¬ s.size = 0 := by omega
  go_enter Tryd.func56, Tryd.ntmps56
  go_wp2_with fail
  go_loop [23] (fun i => ∃ k : Nat, k ≤ s.size ∧ i = .int .i64 k ∧ Hid (∀ b ∈ (tl s).take k, Dec.isD b = true)) (fun i => s.size - (intOf i).toNat)
  case atStart => exact ⟨0, by omega, rfl, Lib.hid (by rw [List.take_zero]; intro b hb; cases hb)⟩
  case round =>
    obtain ⟨k, hk, rfl, hx⟩ := hrel
    by_cases hlt : k < s.size
    · have htk : (tl s).take (k + 1) = (tl s).take k ++ [s[k]] := by
        rw [List.take_succ_eq_append_getElem (by rw [tl_length]; exact hlt), tl_get s k hlt]
      have hmem : s[k] ∈ tl s := by rw [← tl_get s k hlt]; exact List.getElem_mem _
      have HTK := Lib.hid htk
      have HM := Lib.hid hmem
      clear htk hmem
      have w4 : IntKind.i64.wrap ((k : Int) + 1) = (k : Int) + 1 := IntWalk.i64_in _ (by omega)
      by_cases c1 : s[k].toNat < 48
      · have g1 : decide ((s[k].toNat : Int) < 48) = true := decide_eq_true (by omega)
        have g2 : decide (s[k].toNat < 48) = true := decide_eq_true c1
        have hb : (tl s).all Dec.isD = false := by
          rw [List.all_eq_false]
          exact ⟨_, HM.out, by rw [(nd_iff _).2 (.inl c1)]; simp⟩
        have HB := Lib.hid hb
        clear hb
        go_wp2_with fail
        go_ret
        exact ⟨by rw [HB.out]; rfl, rfl⟩
      · by_cases c2 : 57 < s[k].toNat
        · have g1 : decide ((s[k].toNat : Int) < 48) = false := decide_eq_false (by omega)
          have g2 : decide (s[k].toNat < 48) = false := decide_eq_false c1
          have g3 : decide ((57 : Int) < (s[k].toNat : Int)) = true := decide_eq_true (by omega)
          have g4 : decide (57 < s[k].toNat) = true := decide_eq_true c2
          have hb : (tl s).all Dec.isD = false := by
            rw [List.all_eq_false]
            exact ⟨_, HM.out, by rw [(nd_iff _).2 (.inr c2)]; simp⟩
          have HB := Lib.hid hb
          clear hb
          go_wp2_with fail
          go_ret
          exact ⟨by rw [HB.out]; rfl, rfl⟩
        · have g1 : decide ((s[k].toNat : Int) < 48) = false := decide_eq_false (by omega)
          have g2 : decide (s[k].toNat < 48) = false := decide_eq_false c1
          have g3 : decide ((57 : Int) < (s[k].toNat : Int)) = false := decide_eq_false (by omega)
          have g4 : decide (57 < s[k].toNat) = false := decide_eq_false c2
          have hd : Dec.isD s[k] = true := (Dec.isD_iff _).2 ⟨by omega, by omega⟩
          have HDD := Lib.hid hd
          clear hd
          go_wp2_with fail
          go_round
          case rel =>
            refine ⟨k + 1, by omega, by go_num, Lib.hid (fun b hb => ?_)⟩
            rw [HTK.out] at hb
            rcases List.mem_append.1 hb with hb | hb
            · exact hx.out b hb
            · simp only [List.mem_singleton] at hb; subst hb; exact HDD.out
          case measure => simp [intOf]; omega
    · obtain rfl : k = s.size := by omega
      have hb : (tl s).all Dec.isD = true := by
        rw [List.all_eq_true]
        have := hx.out
        rwa [List.take_of_length_le (by rw [tl_length]; exact Nat.le_refl _)] at this
      have HB := Lib.hid hb
      clear hb
      go_wp2_with fail
      go_ret
      exact ⟨by rw [HB.out]; rfl, rfl⟩
theorem pvalid_any (s : ByteArray) (w : World) : Calls Tryd.prog 56 #[.string s] w fun e w' => e = .returned (.bool (validB s)) ∧ w = w' := by
  by_cases h0 : s.size = 0
  · rw [show validB s = false by rw [validB, validL, tl_length, h0]; rfl]; exact pvalid_empty s w h0
  · by_cases h1 : 1000 < s.size
    · rw [show validB s = false by rw [validB, validL, tl_length, decide_eq_false (by omega : ¬ s.size ≤ 1000)]; simp]; exact pvalid_long s w h1
    · have hp : 0 < s.size := by omega
      have hhd : (tl s).head? = some s[0] := by
        rw [List.head?_eq_getElem?, List.getElem?_eq_getElem (by rw [tl_length]; exact hp), tl_get s 0 hp]
      by_cases hz : s[0] = 48
      · have e1 : ((s[0].toNat : Int) == 48) = true := by rw [hz]; rfl
        by_cases h2 : 1 < s.size
        · rw [show validB s = false by rw [validB, validL, hhd, hz, tl_length, decide_eq_false (by omega : ¬ s.size ≤ 1)]; simp]
          refine pvalid_zero s w h2 (by omega) hz ?_
          rw [zero_list, str_beq]
          refine decide_eq_false (fun e => ?_)
          rw [e] at h2
          exact absurd h2 (by decide)
        · have e0 : (tl s).length = 1 := by rw [tl_length]; omega
          have e2 : (s.toList == [48]) = true := by
            rw [zero_list, str_beq]
            refine decide_eq_true (tl_inj ?_)
            obtain ⟨b, hb⟩ := List.length_eq_one_iff.1 e0
            rw [hb] at hhd ⊢
            simp only [List.head?_cons, Option.some.injEq] at hhd
            rw [hhd, hz]; rfl
          rw [show validB s = (tl s).all Dec.isD by rw [validB, validL, e0]; simp]
          exact pvalid_one s w hp (by omega) e1 e2
      · rw [show validB s = (tl s).all Dec.isD by
          rw [validB, validL, hhd, tl_length, decide_eq_true (by omega : 1 ≤ s.size), decide_eq_true (by omega : s.size ≤ 1000), decide_eq_true (show some s[0] ≠ some 48 from fun e => hz (Option.some.inj e))]
          simp]
        refine pvalid_loop s w hp (by omega) (beq_eq_false_iff_ne.2 (fun h => hz ?_))
        apply UInt8.toNat_inj.1
        show s[0].toNat = 48
        omega
theorem isNaN_int (n : Int) (w : World) : Calls Tryd.prog 72 #[.int .i64 n] w fun e w' => e = .returned (.bool false) ∧ w = w' := by
  go_enter Tryd.func72, Tryd.ntmps72
  go_wp2_with fail
  go_ret
  exact ⟨rfl, rfl⟩
theorem isNaN_nat (a : ByteArray) (w : World) : Calls Tryd.prog 73 #[.string a] w fun e w' => e = .returned (.bool false) ∧ w = w' := by
  go_enter Tryd.func73, Tryd.ntmps73
  go_wp2_with fail
  go_ret
  exact ⟨rfl, rfl⟩
set_option maxHeartbeats 400000 in
theorem cmpInt_lt (n m : Nat) (w : World) (h : n < m) :
    Calls Tryd.prog 57 #[.int .i64 (n : Int), .int .i64 (m : Int)] w fun e w' => e = .returned (.int .i64 (-1)) ∧ w = w' := by
  go_enter Tryd.func57, Tryd.ntmps57
  go_wp2_with fail
  refine (isNaN_int _ _).mono ?_
  rintro e w1 ⟨rfl, rfl⟩
  go_wp2_with fail
  refine (isNaN_int _ _).mono ?_
  rintro e w1 ⟨rfl, rfl⟩
  go_wp2_with fail
  go_ret
  exact ⟨rfl, rfl⟩
set_option maxHeartbeats 400000 in
theorem cmpInt_gt (n m : Nat) (w : World) (h : m < n) :
    Calls Tryd.prog 57 #[.int .i64 (n : Int), .int .i64 (m : Int)] w fun e w' => e = .returned (.int .i64 1) ∧ w = w' := by
  go_enter Tryd.func57, Tryd.ntmps57
  go_wp2_with fail
  refine (isNaN_int _ _).mono ?_
  rintro e w1 ⟨rfl, rfl⟩
  go_wp2_with fail
  refine (isNaN_int _ _).mono ?_
  rintro e w1 ⟨rfl, rfl⟩
  go_wp2_with fail
  go_ret
  exact ⟨rfl, rfl⟩
set_option maxHeartbeats 400000 in
theorem cmpNat_lt (a b : ByteArray) (w : World) (h : Op.bytesLess a.toList b.toList = true) :
    Calls Tryd.prog 58 #[.string a, .string b] w fun e w' => e = .returned (.int .i64 (-1)) ∧ w = w' := by
  go_enter Tryd.func58, Tryd.ntmps58
  go_wp2_with fail
  refine (isNaN_nat _ _).mono ?_
  rintro e w1 ⟨rfl, rfl⟩
  go_wp2_with fail
  refine (isNaN_nat _ _).mono ?_
  rintro e w1 ⟨rfl, rfl⟩
  go_wp2_with fail
  go_ret
  exact ⟨rfl, rfl⟩
set_option maxHeartbeats 400000 in
theorem cmpNat_gt (a b : ByteArray) (w : World) (h : Op.bytesLess a.toList b.toList = false) (h2 : Op.bytesLess b.toList a.toList = true) (h3 : (a.toList == b.toList) = false) :
    Calls Tryd.prog 58 #[.string a, .string b] w fun e w' => e = .returned (.int .i64 1) ∧ w = w' := by
  go_enter Tryd.func58, Tryd.ntmps58
  go_wp2_with fail
  refine (isNaN_nat _ _).mono ?_
  rintro e w1 ⟨rfl, rfl⟩
  go_wp2_with fail
  refine (isNaN_nat _ _).mono ?_
  rintro e w1 ⟨rfl, rfl⟩
  go_wp2_with fail
  go_ret
  exact ⟨rfl, rfl⟩
set_option maxHeartbeats 400000 in
theorem cmpNat_eq (a b : ByteArray) (w : World) (h : Op.bytesLess a.toList b.toList = false) (h2 : Op.bytesLess b.toList a.toList = false) (h3 : (a.toList == b.toList) = true) :
    Calls Tryd.prog 58 #[.string a, .string b] w fun e w' => e = .returned (.int .i64 0) ∧ w = w' := by
  go_enter Tryd.func58, Tryd.ntmps58
  go_wp2_with fail
  refine (isNaN_nat _ _).mono ?_
  rintro e w1 ⟨rfl, rfl⟩
  go_wp2_with fail
  refine (isNaN_nat _ _).mono ?_
  rintro e w1 ⟨rfl, rfl⟩
  go_wp2_with fail
  go_ret
  exact ⟨rfl, rfl⟩
set_option maxHeartbeats 400000 in
theorem pCompare_short (a b : ByteArray) (w : World) (ha : validB a = true) (hb : validB b = true) (h : a.size < b.size) :
    Calls Tryd.prog 45 #[.string a, .string b] w fun e w' => e = .returned (.int .i64 (-1)) ∧ w = w' := by
  have HA := Lib.hid ha
  have HB := Lib.hid hb
  have t1 : ((a.size : Int) == (b.size : Int)) = false := beq_eq_false_iff_ne.2 (by omega)
  have t1 : ((a.size : Int) != (b.size : Int)) = true := by simp; omega
  clear ha hb
  go_enter Tryd.func45, Tryd.ntmps45
  go_wp2_with fail
  refine (pvalid_any a _).mono ?_
  rintro e w1 ⟨rfl, rfl⟩
  rw [HA.out]
  go_wp2_with fail
  refine (pvalid_any b _).mono ?_
  rintro e w1 ⟨rfl, rfl⟩
  rw [HB.out]
  go_wp2_with fail
  refine (cmpInt_lt a.size b.size _ h).mono ?_
  rintro e w1 ⟨rfl, rfl⟩
  go_wp2_with fail
  go_ret
  exact ⟨rfl, rfl⟩
set_option maxHeartbeats 400000 in
theorem pCompare_long (a b : ByteArray) (w : World) (ha : validB a = true) (hb : validB b = true) (h : b.size < a.size) :
    Calls Tryd.prog 45 #[.string a, .string b] w fun e w' => e = .returned (.int .i64 1) ∧ w = w' := by
  have HA := Lib.hid ha
  have HB := Lib.hid hb
  have t1 : ((a.size : Int) == (b.size : Int)) = false := beq_eq_false_iff_ne.2 (by omega)
  have t1 : ((a.size : Int) != (b.size : Int)) = true := by simp; omega
  clear ha hb
  go_enter Tryd.func45, Tryd.ntmps45
  go_wp2_with fail
  refine (pvalid_any a _).mono ?_
  rintro e w1 ⟨rfl, rfl⟩
  rw [HA.out]
  go_wp2_with fail
  refine (pvalid_any b _).mono ?_
  rintro e w1 ⟨rfl, rfl⟩
  rw [HB.out]
  go_wp2_with fail
  refine (cmpInt_gt a.size b.size _ h).mono ?_
  rintro e w1 ⟨rfl, rfl⟩
  go_wp2_with fail
  go_ret
  exact ⟨rfl, rfl⟩
set_option maxHeartbeats 400000 in
theorem pCompare_lt (a b : ByteArray) (w : World) (ha : validB a = true) (hb : validB b = true) (hz : a.size = b.size) (h : Op.bytesLess a.toList b.toList = true) :
    Calls Tryd.prog 45 #[.string a, .string b] w fun e w' => e = .returned (.int .i64 (-1)) ∧ w = w' := by
  have HA := Lib.hid ha
  have HB := Lib.hid hb
  have t1 : ((a.size : Int) != (b.size : Int)) = false := by simp; omega
  have HH := Lib.hid h
  have HZ := Lib.hid hz
  clear h hz
  clear ha hb
  go_enter Tryd.func45, Tryd.ntmps45
  go_wp2_with fail
  refine (pvalid_any a _).mono ?_
  rintro e w1 ⟨rfl, rfl⟩
  rw [HA.out]
  go_wp2_with fail
  refine (pvalid_any b _).mono ?_
  rintro e w1 ⟨rfl, rfl⟩
  rw [HB.out]
  go_wp2_with fail
  refine (cmpNat_lt a b _ HH.out).mono ?_
  rintro e w1 ⟨rfl, rfl⟩
  go_wp2_with fail
  go_ret
  exact ⟨rfl, rfl⟩
set_option maxHeartbeats 400000 in
theorem pCompare_gt (a b : ByteArray) (w : World) (ha : validB a = true) (hb : validB b = true) (hz : a.size = b.size) (h : Op.bytesLess a.toList b.toList = false) (h2 : Op.bytesLess b.toList a.toList = true) (h3 : (a.toList == b.toList) = false) :
    Calls Tryd.prog 45 #[.string a, .string b] w fun e w' => e = .returned (.int .i64 1) ∧ w = w' := by
  have HA := Lib.hid ha
  have HB := Lib.hid hb
  have t1 : ((a.size : Int) != (b.size : Int)) = false := by simp; omega
  have HH := Lib.hid h
  have HZ := Lib.hid hz
  clear h hz
  have H2 := Lib.hid h2
  have H3 := Lib.hid h3
  clear h2 h3
  clear ha hb
  go_enter Tryd.func45, Tryd.ntmps45
  go_wp2_with fail
  refine (pvalid_any a _).mono ?_
  rintro e w1 ⟨rfl, rfl⟩
  rw [HA.out]
  go_wp2_with fail
  refine (pvalid_any b _).mono ?_
  rintro e w1 ⟨rfl, rfl⟩
  rw [HB.out]
  go_wp2_with fail
  refine (cmpNat_gt a b _ HH.out H2.out H3.out).mono ?_
  rintro e w1 ⟨rfl, rfl⟩
  go_wp2_with fail
  go_ret
  exact ⟨rfl, rfl⟩
set_option maxHeartbeats 400000 in
theorem pCompare_eq (a b : ByteArray) (w : World) (ha : validB a = true) (hb : validB b = true) (hz : a.size = b.size) (h : Op.bytesLess a.toList b.toList = false) (h2 : Op.bytesLess b.toList a.toList = false) (h3 : (a.toList == b.toList) = true) :
    Calls Tryd.prog 45 #[.string a, .string b] w fun e w' => e = .returned (.int .i64 0) ∧ w = w' := by
  have HA := Lib.hid ha
  have HB := Lib.hid hb
  have t1 : ((a.size : Int) != (b.size : Int)) = false := by simp; omega
  have HH := Lib.hid h
  have HZ := Lib.hid hz
  clear h hz
  have H2 := Lib.hid h2
  have H3 := Lib.hid h3
  clear h2 h3
  clear ha hb
  go_enter Tryd.func45, Tryd.ntmps45
  go_wp2_with fail
  refine (pvalid_any a _).mono ?_
  rintro e w1 ⟨rfl, rfl⟩
  rw [HA.out]
  go_wp2_with fail
  refine (pvalid_any b _).mono ?_
  rintro e w1 ⟨rfl, rfl⟩
  rw [HB.out]
  go_wp2_with fail
  refine (cmpNat_eq a b _ HH.out H2.out H3.out).mono ?_
  rintro e w1 ⟨rfl, rfl⟩
  go_wp2_with fail
  go_ret
  exact ⟨rfl, rfl⟩
theorem pCompare_bad1 (a b : ByteArray) (w : World) (ha : validB a = false) :
    Calls Tryd.prog 45 #[.string a, .string b] w fun e w' => e = .returned (.int .i64 0) ∧ w = w' := by
  have HA := Lib.hid ha
  clear ha
  go_enter Tryd.func45, Tryd.ntmps45
  go_wp2_with fail
  refine (pvalid_any a _).mono ?_
  rintro e w1 ⟨rfl, rfl⟩
  rw [HA.out]
  go_wp2_with fail
  go_ret
  exact ⟨rfl, rfl⟩
theorem pCompare_bad2 (a b : ByteArray) (w : World) (ha : validB a = true) (hb : validB b = false) :
    Calls Tryd.prog 45 #[.string a, .string b] w fun e w' => e = .returned (.int .i64 0) ∧ w = w' := by
  have HA := Lib.hid ha
  clear ha
  have HB := Lib.hid hb
  clear hb
  go_enter Tryd.func45, Tryd.ntmps45
  go_wp2_with fail
  refine (pvalid_any a _).mono ?_
  rintro e w1 ⟨rfl, rfl⟩
  rw [HA.out]
  go_wp2_with fail
  refine (pvalid_any b _).mono ?_
  rintro e w1 ⟨rfl, rfl⟩
  rw [HB.out]
  go_wp2_with fail
  go_ret
  exact ⟨rfl, rfl⟩
theorem bytesLess_str {a b : ByteArray} (ha : validB a = true) (hb : validB b = true) (h : a.size = b.size) : Op.bytesLess a.toList b.toList = decide (Dec.val (tl a) < Dec.val (tl b)) := by
  rw [Lib.toList_data, Lib.toList_data]
  exact Dec.less_val (tl a) (tl b) (valid_norm ha).all (valid_norm hb).all (by rw [tl_length, tl_length, h])
theorem pcompare_any (a b : ByteArray) (w : World) :
    Calls Tryd.prog 45 #[.string a, .string b] w fun e w' => e = .returned (.int .i64 (cmpR a b)) ∧ w = w' := by
  by_cases ha : validB a = true
  · by_cases hb : validB b = true
    · have hl1 := tl_length a
      have hl2 := tl_length b
      rcases Nat.lt_trichotomy a.size b.size with q | q | q
      · have hv := Dec.short_less (valid_norm ha) (valid_norm hb) (by omega)
        have e : cmpR a b = -1 := by unfold cmpR; rw [ha, hb, if_pos (by rfl), if_pos hv]
        rw [e]; exact pCompare_short a b w ha hb q
      · have l1 := bytesLess_str ha hb q
        have l2 := bytesLess_str hb ha q.symm
        rcases Nat.lt_trichotomy (Dec.val (tl a)) (Dec.val (tl b)) with h | h | h
        · have e : cmpR a b = -1 := by unfold cmpR; rw [ha, hb, if_pos (by rfl), if_pos h]
          rw [e]; exact pCompare_lt a b w ha hb q (by rw [l1]; exact decide_eq_true h)
        · have e : cmpR a b = 0 := by unfold cmpR; rw [ha, hb, if_pos (by rfl), if_neg (by omega), if_neg (by omega)]
          rw [e]; exact pCompare_eq a b w ha hb q (by rw [l1]; exact decide_eq_false (by omega)) (by rw [l2]; exact decide_eq_false (by omega)) (by rw [str_beq]; exact decide_eq_true (valid_inj ha hb h))
        · have e : cmpR a b = 1 := by unfold cmpR; rw [ha, hb, if_pos (by rfl), if_neg (by omega), if_pos (by omega)]
          rw [e]; exact pCompare_gt a b w ha hb q (by rw [l1]; exact decide_eq_false (by omega)) (by rw [l2]; exact decide_eq_true h) (by rw [str_beq]; exact decide_eq_false (fun e => by rw [e] at h; omega))
      · have hv := Dec.short_less (valid_norm hb) (valid_norm ha) (by omega)
        have e : cmpR a b = 1 := by unfold cmpR; rw [ha, hb, if_pos (by rfl), if_neg (by omega), if_pos (by omega)]
        rw [e]; exact pCompare_long a b w ha hb q
    · have e : cmpR a b = 0 := by unfold cmpR; rw [two_not (fun h => hb h.2)]; rfl
      rw [e]; exact pCompare_bad2 a b w ha (by simpa using hb)
  · have e : cmpR a b = 0 := by unfold cmpR; rw [two_not (fun h => ha h.1)]; rfl
    rw [e]; exact pCompare_bad1 a b w (by simpa using ha)
end Go.Proofs.YtbcoblpnihdhgaaDoor
