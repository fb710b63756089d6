/-
  The program's compute, Add, Sub and Mul of layer 3.
-/
import Derived.Test.YtbcoblpnihdhgaaDoorLmValid
import Derived.Test.YtbcoblpnihdhgaaDoorLmLimbs
import Derived.Test.YtbcoblpnihdhgaaDoorLmMinus
import Derived.Test.YtbcoblpnihdhgaaDoorLmTimes
import Derived.Test.YtbcoblpnihdhgaaDoorNatB
set_option linter.unusedVariables false
set_option maxRecDepth 100000
namespace Go.Proofs.YtbcoblpnihdhgaaDoor
open Go.RowKit
theorem valid_lt {a : ByteArray} (h : validB a = true) (k : Nat) (hk : k = 1000) : Dec.val (tl a) < 10 ^ k := val_bound (valid_norm h).all (by rw [hk]; exact valid_size h)
theorem nl_small {n k : Nat} (h : n < 10 ^ k) (hk : k ≤ 800000) : Lim.nl n ≤ 100000 := by
  have : Lim.nl n ≤ k / 9 + 1 := by
    refine Lim.nl_le.2 (Nat.lt_of_lt_of_le h ?_)
    rw [Lim.B_ten]
    exact Nat.pow_le_pow_right (by omega) (by omega)
  omega
theorem mul_lt_pow {a b x y : Nat} (h1 : a < x) (h2 : b < y) : a * b < x * y := Nat.mul_lt_mul'' h1 h2
theorem compute_plus_bad1 (a b : ByteArray) (w : World) (ha : validB a = false) :
    Calls Tryd.prog 49 #[.func (.func 55) #[] #[], .string a, .string b] w fun e w' => e = .returned (.tuple #[.string ⟨#[]⟩, .int .i64 1]) ∧ w = w' := by
  have HA := Lib.hid ha
  clear ha
  go_enter Tryd.func49, Tryd.ntmps49
  go_wp2_with fail
  refine (pvalid_any a _).mono ?_
  rintro e w1 ⟨rfl, rfl⟩
  rw [HA.out]
  go_wp2_with fail
  go_ret2
  exact ⟨rfl, rfl⟩
theorem compute_plus_bad2 (a b : ByteArray) (w : World) (ha : validB a = true) (hb : validB b = false) :
    Calls Tryd.prog 49 #[.func (.func 55) #[] #[], .string a, .string b] w fun e w' => e = .returned (.tuple #[.string ⟨#[]⟩, .int .i64 1]) ∧ w = w' := by
  have HA := Lib.hid ha
  clear ha
  have HB := Lib.hid hb
  clear hb
  go_enter Tryd.func49, Tryd.ntmps49
  go_wp2_with fail
  refine (pvalid_any a _).mono ?_
  rintro e w1 ⟨rfl, rfl⟩
  rw [HA.out]
  go_wp2_with fail
  refine (pvalid_any b _).mono ?_
  rintro e w1 ⟨rfl, rfl⟩
  rw [HB.out]
  go_wp2_with fail
  go_ret2
  exact ⟨rfl, rfl⟩
set_option maxHeartbeats 1000000 in
theorem compute_plus_ok (a b : ByteArray) (w : World) (ha : validB a = true) (hb : validB b = true)  :
    Calls Tryd.prog 49 #[.func (.func 55) #[] #[], .string a, .string b] w (Gives2 (within (Dec.val (tl a) + Dec.val (tl b))) w) := by
  obtain ⟨x, hx⟩ : ∃ x, x = Dec.val (tl a) := ⟨_, rfl⟩
  obtain ⟨y, hy⟩ : ∃ y, y = Dec.val (tl b) := ⟨_, rfl⟩
  obtain ⟨k, hk⟩ : ∃ k, k = 1000 := ⟨_, rfl⟩
  have hxl := valid_lt ha k hk
  have hyl := valid_lt hb k hk
  rw [← hx] at hxl ⊢
  rw [← hy] at hyl ⊢
  obtain ⟨n, hn⟩ : ∃ n, n = x + y := ⟨_, rfl⟩
  have hnl : Hid (Lim.nl n ≤ 100000) := Lib.hid (by rw [hn]; exact nl_small (k := k + 1) (by rw [Nat.pow_succ]; omega) (by omega))
  have hxs : Hid (Lim.nl x ≤ 100000) := Lib.hid (nl_small hxl (by omega))
  have hys : Hid (Lim.nl y ≤ 100000) := Lib.hid (nl_small hyl (by omega))
  rw [← hn]
  have HXY := Lib.hid hn
  have HX := Lib.hid hx
  have HY := Lib.hid hy
  have HA := Lib.hid ha
  have HB := Lib.hid hb
  clear ha hb hx hy hn hxl hyl hk
  go_enter Tryd.func49, Tryd.ntmps49
  go_wp2_with fail
  refine (pvalid_any a _).mono ?_
  rintro e w1 ⟨rfl, rfl⟩
  rw [HA.out]
  go_wp2_with fail
  refine (pvalid_any b _).mono ?_
  rintro e w1 ⟨rfl, rfl⟩
  rw [HB.out]
  go_wp2_with fail
  refine (limbsOf_any a _ (valid_norm HA.out).all (by have := valid_size HA.out; omega)).mono ?_
  rintro e w1 ⟨va, rfl, hva, hb1⟩
  rw [← HX.out] at hva
  have HVA := Lib.hid hva
  have HB1 := Lib.hid hb1
  clear hva hb1
  go_wp2_with fail
  refine (limbsOf_any b _ (valid_norm HB.out).all (by have := valid_size HB.out; omega)).mono ?_
  rintro e w2 ⟨vb, rfl, hvb, hb2⟩
  rw [← HY.out] at hvb
  have HVA2 := Lib.hid ((HVA.out.below hb2).weaken (q := fun _ => True) (fun _ _ _ => trivial))
  have HVB := Lib.hid (hvb.weaken (q := fun _ => True) (fun _ _ _ => trivial))
  have HB2 := Lib.hid (HB1.out.trans (hb2.mono HB1.out.size))
  clear hvb hb2 HVA HB1
  go_wp2_with fail
  refine (plus_any x y va vb _ HVA2.out HVB.out hxs.out hys.out).mono ?_
  rintro e w3 ⟨v3, rfl, hv3, hb3⟩
  rw [← HXY.out] at hv3
  have HV3 := Lib.hid hv3
  have HB3 := Lib.hid (HB2.out.trans (hb3.mono HB2.out.size))
  clear hv3 hb3 HB2
  go_wp2_with fail
  refine (digits_any _ n _ _ HV3.out hnl.out).mono ?_
  rintro e w4 ⟨rfl, hb4⟩
  have HB4 := Lib.hid (HB3.out.trans (hb4.mono HB3.out.size))
  clear hb4 HB3
  obtain ⟨R, hR⟩ : ∃ R, R = nS n := ⟨_, rfl⟩
  rw [show bx (Dec.digs n) = R from hR.symm]
  by_cases hs : R.size ≤ 1000
  · have hw : within n = (R, 0) := by unfold within; rw [← hR, if_pos hs]
    have t1 : ¬ 1000 < R.size := by omega
    have HW := Lib.hid hw
    clear hw hR
    go_wp2_with fail
    go_ret2
    exact ⟨by rw [HW.out]; rfl, HB4.out⟩
  · have hw : within n = (⟨#[]⟩, 2) := by unfold within; rw [← hR, if_neg hs]
    have t1 : 1000 < R.size := by omega
    have HW := Lib.hid hw
    clear hw hR
    go_wp2_with fail
    go_ret2
    exact ⟨by rw [HW.out]; rfl, HB4.out⟩
theorem pAdd_call (a b : ByteArray) (w : World) (r : ByteArray × Int) (h : Calls Tryd.prog 49 #[.func (.func 55) #[] #[], .string a, .string b] w (Gives2 r w)) :
    Calls Tryd.prog 44 #[.string a, .string b] w (Gives2 r w) := by
  have H := Lib.hid h
  clear h
  go_enter Tryd.func44, Tryd.ntmps44
  go_wp2_with fail
  refine H.out.mono ?_
  rintro e w1 ⟨rfl, hb⟩
  have HB := Lib.hid hb
  clear hb
  go_wp2_with fail
  go_ret2
  exact ⟨rfl, HB.out⟩
theorem pAdd_any (a b : ByteArray) (w : World) : Calls Tryd.prog 44 #[.string a, .string b] w (Gives2 (addR a b) w) := by
  refine pAdd_call a b w _ ?_
  by_cases ha : validB a = true
  · by_cases hb : validB b = true
    · rw [show addR a b = within (Dec.val (tl a) + Dec.val (tl b)) by unfold addR; rw [ha, hb, if_pos (by rfl)]]
      exact compute_plus_ok a b w ha hb
    · rw [show addR a b = (⟨#[]⟩, 1) by unfold addR; rw [two_not (fun h => hb h.2)]; rfl]
      refine (compute_plus_bad2 a b w ha (by simpa using hb)).mono ?_
      rintro e w' ⟨rfl, rfl⟩
      exact ⟨rfl, Below.refl _ _⟩
  · rw [show addR a b = (⟨#[]⟩, 1) by unfold addR; rw [two_not (fun h => ha h.1)]; rfl]
    refine (compute_plus_bad1 a b w (by simpa using ha)).mono ?_
    rintro e w' ⟨rfl, rfl⟩
    exact ⟨rfl, Below.refl _ _⟩
theorem compute_times_bad1 (a b : ByteArray) (w : World) (ha : validB a = false) :
    Calls Tryd.prog 49 #[.func (.func 52) #[] #[], .string a, .string b] w fun e w' => e = .returned (.tuple #[.string ⟨#[]⟩, .int .i64 1]) ∧ w = w' := by
  have HA := Lib.hid ha
  clear ha
  go_enter Tryd.func49, Tryd.ntmps49
  go_wp2_with fail
  refine (pvalid_any a _).mono ?_
  rintro e w1 ⟨rfl, rfl⟩
  rw [HA.out]
  go_wp2_with fail
  go_ret2
  exact ⟨rfl, rfl⟩
theorem compute_times_bad2 (a b : ByteArray) (w : World) (ha : validB a = true) (hb : validB b = false) :
    Calls Tryd.prog 49 #[.func (.func 52) #[] #[], .string a, .string b] w fun e w' => e = .returned (.tuple #[.string ⟨#[]⟩, .int .i64 1]) ∧ w = w' := by
  have HA := Lib.hid ha
  clear ha
  have HB := Lib.hid hb
  clear hb
  go_enter Tryd.func49, Tryd.ntmps49
  go_wp2_with fail
  refine (pvalid_any a _).mono ?_
  rintro e w1 ⟨rfl, rfl⟩
  rw [HA.out]
  go_wp2_with fail
  refine (pvalid_any b _).mono ?_
  rintro e w1 ⟨rfl, rfl⟩
  rw [HB.out]
  go_wp2_with fail
  go_ret2
  exact ⟨rfl, rfl⟩
set_option maxHeartbeats 1000000 in
theorem compute_times_ok (a b : ByteArray) (w : World) (ha : validB a = true) (hb : validB b = true)  :
    Calls Tryd.prog 49 #[.func (.func 52) #[] #[], .string a, .string b] w (Gives2 (within (Dec.val (tl a) * Dec.val (tl b))) w) := by
  obtain ⟨x, hx⟩ : ∃ x, x = Dec.val (tl a) := ⟨_, rfl⟩
  obtain ⟨y, hy⟩ : ∃ y, y = Dec.val (tl b) := ⟨_, rfl⟩
  obtain ⟨k, hk⟩ : ∃ k, k = 1000 := ⟨_, rfl⟩
  have hxl := valid_lt ha k hk
  have hyl := valid_lt hb k hk
  rw [← hx] at hxl ⊢
  rw [← hy] at hyl ⊢
  obtain ⟨n, hn⟩ : ∃ n, n = x * y := ⟨_, rfl⟩
  have hnl : Hid (Lim.nl n ≤ 100000) := Lib.hid (by rw [hn]; exact nl_small (k := k + k) (by rw [Nat.pow_add]; exact mul_lt_pow hxl hyl) (by omega))
  have hxs : Hid (Lim.nl x ≤ 100000) := Lib.hid (nl_small hxl (by omega))
  have hys : Hid (Lim.nl y ≤ 100000) := Lib.hid (nl_small hyl (by omega))
  rw [← hn]
  have HXY := Lib.hid hn
  have HX := Lib.hid hx
  have HY := Lib.hid hy
  have HA := Lib.hid ha
  have HB := Lib.hid hb
  clear ha hb hx hy hn hxl hyl hk
  go_enter Tryd.func49, Tryd.ntmps49
  go_wp2_with fail
  refine (pvalid_any a _).mono ?_
  rintro e w1 ⟨rfl, rfl⟩
  rw [HA.out]
  go_wp2_with fail
  refine (pvalid_any b _).mono ?_
  rintro e w1 ⟨rfl, rfl⟩
  rw [HB.out]
  go_wp2_with fail
  refine (limbsOf_any a _ (valid_norm HA.out).all (by have := valid_size HA.out; omega)).mono ?_
  rintro e w1 ⟨va, rfl, hva, hb1⟩
  rw [← HX.out] at hva
  have HVA := Lib.hid hva
  have HB1 := Lib.hid hb1
  clear hva hb1
  go_wp2_with fail
  refine (limbsOf_any b _ (valid_norm HB.out).all (by have := valid_size HB.out; omega)).mono ?_
  rintro e w2 ⟨vb, rfl, hvb, hb2⟩
  rw [← HY.out] at hvb
  have HVA2 := Lib.hid ((HVA.out.below hb2).weaken (q := fun _ => True) (fun _ _ _ => trivial))
  have HVB := Lib.hid (hvb.weaken (q := fun _ => True) (fun _ _ _ => trivial))
  have HB2 := Lib.hid (HB1.out.trans (hb2.mono HB1.out.size))
  clear hvb hb2 HVA HB1
  go_wp2_with fail
  refine (times_any x y va vb _ HVA2.out HVB.out hxs.out hys.out).mono ?_
  rintro e w3 ⟨v3, rfl, hv3, hb3⟩
  rw [← HXY.out] at hv3
  have HV3 := Lib.hid hv3
  have HB3 := Lib.hid (HB2.out.trans (hb3.mono HB2.out.size))
  clear hv3 hb3 HB2
  go_wp2_with fail
  refine (digits_any _ n _ _ HV3.out hnl.out).mono ?_
  rintro e w4 ⟨rfl, hb4⟩
  have HB4 := Lib.hid (HB3.out.trans (hb4.mono HB3.out.size))
  clear hb4 HB3
  obtain ⟨R, hR⟩ : ∃ R, R = nS n := ⟨_, rfl⟩
  rw [show bx (Dec.digs n) = R from hR.symm]
  by_cases hs : R.size ≤ 1000
  · have hw : within n = (R, 0) := by unfold within; rw [← hR, if_pos hs]
    have t1 : ¬ 1000 < R.size := by omega
    have HW := Lib.hid hw
    clear hw hR
    go_wp2_with fail
    go_ret2
    exact ⟨by rw [HW.out]; rfl, HB4.out⟩
  · have hw : within n = (⟨#[]⟩, 2) := by unfold within; rw [← hR, if_neg hs]
    have t1 : 1000 < R.size := by omega
    have HW := Lib.hid hw
    clear hw hR
    go_wp2_with fail
    go_ret2
    exact ⟨by rw [HW.out]; rfl, HB4.out⟩
theorem pMul_call (a b : ByteArray) (w : World) (r : ByteArray × Int) (h : Calls Tryd.prog 49 #[.func (.func 52) #[] #[], .string a, .string b] w (Gives2 r w)) :
    Calls Tryd.prog 41 #[.string a, .string b] w (Gives2 r w) := by
  have H := Lib.hid h
  clear h
  go_enter Tryd.func41, Tryd.ntmps41
  go_wp2_with fail
  refine H.out.mono ?_
  rintro e w1 ⟨rfl, hb⟩
  have HB := Lib.hid hb
  clear hb
  go_wp2_with fail
  go_ret2
  exact ⟨rfl, HB.out⟩
theorem pMul_any (a b : ByteArray) (w : World) : Calls Tryd.prog 41 #[.string a, .string b] w (Gives2 (mulR a b) w) := by
  refine pMul_call a b w _ ?_
  by_cases ha : validB a = true
  · by_cases hb : validB b = true
    · rw [show mulR a b = within (Dec.val (tl a) * Dec.val (tl b)) by unfold mulR; rw [ha, hb, if_pos (by rfl)]]
      exact compute_times_ok a b w ha hb
    · rw [show mulR a b = (⟨#[]⟩, 1) by unfold mulR; rw [two_not (fun h => hb h.2)]; rfl]
      refine (compute_times_bad2 a b w ha (by simpa using hb)).mono ?_
      rintro e w' ⟨rfl, rfl⟩
      exact ⟨rfl, Below.refl _ _⟩
  · rw [show mulR a b = (⟨#[]⟩, 1) by unfold mulR; rw [two_not (fun h => ha h.1)]; rfl]
    refine (compute_times_bad1 a b w (by simpa using ha)).mono ?_
    rintro e w' ⟨rfl, rfl⟩
    exact ⟨rfl, Below.refl _ _⟩
theorem compute_minus_bad1 (a b : ByteArray) (w : World) (ha : validB a = false) :
    Calls Tryd.prog 49 #[.func (.func 59) #[] #[], .string a, .string b] w fun e w' => e = .returned (.tuple #[.string ⟨#[]⟩, .int .i64 1]) ∧ w = w' := by
  have HA := Lib.hid ha
  clear ha
  go_enter Tryd.func49, Tryd.ntmps49
  go_wp2_with fail
  refine (pvalid_any a _).mono ?_
  rintro e w1 ⟨rfl, rfl⟩
  rw [HA.out]
  go_wp2_with fail
  go_ret2
  exact ⟨rfl, rfl⟩
theorem compute_minus_bad2 (a b : ByteArray) (w : World) (ha : validB a = true) (hb : validB b = false) :
    Calls Tryd.prog 49 #[.func (.func 59) #[] #[], .string a, .string b] w fun e w' => e = .returned (.tuple #[.string ⟨#[]⟩, .int .i64 1]) ∧ w = w' := by
  have HA := Lib.hid ha
  clear ha
  have HB := Lib.hid hb
  clear hb
  go_enter Tryd.func49, Tryd.ntmps49
  go_wp2_with fail
  refine (pvalid_any a _).mono ?_
  rintro e w1 ⟨rfl, rfl⟩
  rw [HA.out]
  go_wp2_with fail
  refine (pvalid_any b _).mono ?_
  rintro e w1 ⟨rfl, rfl⟩
  rw [HB.out]
  go_wp2_with fail
  go_ret2
  exact ⟨rfl, rfl⟩
set_option maxHeartbeats 1000000 in
theorem compute_minus_ok (a b : ByteArray) (w : World) (ha : validB a = true) (hb : validB b = true) (hle : Dec.val (tl b) ≤ Dec.val (tl a)) :
    Calls Tryd.prog 49 #[.func (.func 59) #[] #[], .string a, .string b] w (Gives2 (within (Dec.val (tl a) - Dec.val (tl b))) w) := by
  obtain ⟨x, hx⟩ : ∃ x, x = Dec.val (tl a) := ⟨_, rfl⟩
  obtain ⟨y, hy⟩ : ∃ y, y = Dec.val (tl b) := ⟨_, rfl⟩
  obtain ⟨k, hk⟩ : ∃ k, k = 1000 := ⟨_, rfl⟩
  have hxl := valid_lt ha k hk
  have hyl := valid_lt hb k hk
  rw [← hx, ← hy] at hle
  rw [← hx] at hxl ⊢
  rw [← hy] at hyl ⊢
  obtain ⟨n, hn⟩ : ∃ n, n = x - y := ⟨_, rfl⟩
  have hnl : Hid (Lim.nl n ≤ 100000) := Lib.hid (by rw [hn]; exact nl_small (k := k) (Nat.lt_of_le_of_lt (Nat.sub_le _ _) hxl) (by omega))
  have hxs : Hid (Lim.nl x ≤ 100000) := Lib.hid (nl_small hxl (by omega))
  have hys : Hid (Lim.nl y ≤ 100000) := Lib.hid (nl_small hyl (by omega))
  rw [← hn]
  have HXY := Lib.hid hn
  have HX := Lib.hid hx
  have HY := Lib.hid hy
  have HA := Lib.hid ha
  have HB := Lib.hid hb
  have HLE := Lib.hid hle
  clear hle
  clear ha hb hx hy hn hxl hyl hk
  go_enter Tryd.func49, Tryd.ntmps49
  go_wp2_with fail
  refine (pvalid_any a _).mono ?_
  rintro e w1 ⟨rfl, rfl⟩
  rw [HA.out]
  go_wp2_with fail
  refine (pvalid_any b _).mono ?_
  rintro e w1 ⟨rfl, rfl⟩
  rw [HB.out]
  go_wp2_with fail
  refine (limbsOf_any a _ (valid_norm HA.out).all (by have := valid_size HA.out; omega)).mono ?_
  rintro e w1 ⟨va, rfl, hva, hb1⟩
  rw [← HX.out] at hva
  have HVA := Lib.hid hva
  have HB1 := Lib.hid hb1
  clear hva hb1
  go_wp2_with fail
  refine (limbsOf_any b _ (valid_norm HB.out).all (by have := valid_size HB.out; omega)).mono ?_
  rintro e w2 ⟨vb, rfl, hvb, hb2⟩
  rw [← HY.out] at hvb
  have HVA2 := Lib.hid ((HVA.out.below hb2).weaken (q := fun _ => True) (fun _ _ _ => trivial))
  have HVB := Lib.hid (hvb.weaken (q := fun _ => True) (fun _ _ _ => trivial))
  have HB2 := Lib.hid (HB1.out.trans (hb2.mono HB1.out.size))
  clear hvb hb2 HVA HB1
  go_wp2_with fail
  refine (minus_any x y va vb _ HVA2.out HVB.out hxs.out HLE.out).mono ?_
  rintro e w3 ⟨v3, rfl, hv3, hb3⟩
  rw [← HXY.out] at hv3
  have HV3 := Lib.hid hv3
  have HB3 := Lib.hid (HB2.out.trans (hb3.mono HB2.out.size))
  clear hv3 hb3 HB2
  go_wp2_with fail
  refine (digits_any _ n _ _ HV3.out hnl.out).mono ?_
  rintro e w4 ⟨rfl, hb4⟩
  have HB4 := Lib.hid (HB3.out.trans (hb4.mono HB3.out.size))
  clear hb4 HB3
  obtain ⟨R, hR⟩ : ∃ R, R = nS n := ⟨_, rfl⟩
  rw [show bx (Dec.digs n) = R from hR.symm]
  by_cases hs : R.size ≤ 1000
  · have hw : within n = (R, 0) := by unfold within; rw [← hR, if_pos hs]
    have t1 : ¬ 1000 < R.size := by omega
    have HW := Lib.hid hw
    clear hw hR
    go_wp2_with fail
    go_ret2
    exact ⟨by rw [HW.out]; rfl, HB4.out⟩
  · have hw : within n = (⟨#[]⟩, 2) := by unfold within; rw [← hR, if_neg hs]
    have t1 : 1000 < R.size := by omega
    have HW := Lib.hid hw
    clear hw hR
    go_wp2_with fail
    go_ret2
    exact ⟨by rw [HW.out]; rfl, HB4.out⟩
theorem pSub_less (a b : ByteArray) (w : World) (hcc : cmpR a b < 0) :
    Calls Tryd.prog 46 #[.string a, .string b] w (Gives2 (⟨#[]⟩, 9) w) := by
  go_enter Tryd.func46, Tryd.ntmps46
  go_wp2_with fail
  refine (pcompare_any a b _).mono ?_
  rintro e w1 ⟨rfl, rfl⟩
  obtain ⟨c, hc⟩ : ∃ c, c = cmpR a b := ⟨_, rfl⟩
  rw [← hc]
  rw [← hc] at hcc
  clear hc
  go_wp2_with fail
  go_ret2
  exact ⟨rfl, Below.refl _ _⟩
theorem pSub_call (a b : ByteArray) (w : World) (r : ByteArray × Int) (hcc : ¬ cmpR a b < 0) (h : Calls Tryd.prog 49 #[.func (.func 59) #[] #[], .string a, .string b] w (Gives2 r w)) :
    Calls Tryd.prog 46 #[.string a, .string b] w (Gives2 r w) := by
  have H := Lib.hid h
  clear h
  go_enter Tryd.func46, Tryd.ntmps46
  go_wp2_with fail
  refine (pcompare_any a b _).mono ?_
  rintro e w1 ⟨rfl, rfl⟩
  obtain ⟨c, hc⟩ : ∃ c, c = cmpR a b := ⟨_, rfl⟩
  rw [← hc]
  rw [← hc] at hcc
  clear hc
  go_wp2_with fail
  refine H.out.mono ?_
  rintro e w1 ⟨rfl, hb⟩
  have HB := Lib.hid hb
  clear hb
  go_wp2_with fail
  go_ret2
  exact ⟨rfl, HB.out⟩
theorem within_valid {n : Nat} (k : Nat) (hk : k = 1000) (h : n < 10 ^ k) : within n = (nS n, 0) := by
  unfold within
  rw [if_pos (by have := (nS_size (n := n) (k := k) (by omega)).2 h; omega)]
theorem pSub_any (a b : ByteArray) (w : World) : Calls Tryd.prog 46 #[.string a, .string b] w (Gives2 (subR a b) w) := by
  obtain ⟨k, hk⟩ : ∃ k, k = 1000 := ⟨_, rfl⟩
  by_cases ha : validB a = true
  · by_cases hb : validB b = true
    · by_cases hlt : Dec.val (tl a) < Dec.val (tl b)
      · rw [show subR a b = (⟨#[]⟩, 9) by unfold subR; rw [ha, hb, if_pos (by rfl), if_pos hlt]]
        exact pSub_less a b w (by unfold cmpR; rw [ha, hb, if_pos (by rfl), if_pos hlt]; decide)
      · rw [show subR a b = within (Dec.val (tl a) - Dec.val (tl b)) by unfold subR; rw [ha, hb, if_pos (by rfl), if_neg hlt, within_valid k hk (Nat.lt_of_le_of_lt (Nat.sub_le _ _) (valid_lt ha k hk))]]
        refine pSub_call a b w _ ?_ (compute_minus_ok a b w ha hb (by omega))
        unfold cmpR; rw [ha, hb, if_pos (by rfl), if_neg hlt]; split <;> decide
    · rw [show subR a b = (⟨#[]⟩, 1) by unfold subR; rw [two_not (fun h => hb h.2)]; rfl]
      refine pSub_call a b w _ (by unfold cmpR; rw [two_not (fun h => hb h.2)]; simp) ((compute_minus_bad2 a b w ha (by simpa using hb)).mono ?_)
      rintro e w' ⟨rfl, rfl⟩
      exact ⟨rfl, Below.refl _ _⟩
  · rw [show subR a b = (⟨#[]⟩, 1) by unfold subR; rw [two_not (fun h => ha h.1)]; rfl]
    refine pSub_call a b w _ (by unfold cmpR; rw [two_not (fun h => ha h.1)]; simp) ((compute_minus_bad1 a b w (by simpa using ha)).mono ?_)
    rintro e w' ⟨rfl, rfl⟩
    exact ⟨rfl, Below.refl _ _⟩
end Go.Proofs.YtbcoblpnihdhgaaDoor
