/-
  The program's Gcd of layer 3.
-/
import Derived.Test.YtbcoblpnihdhgaaDoorLmFns
import Derived.Test.YtbcoblpnihdhgaaDoorLmGcd
set_option linter.unusedVariables false
set_option maxRecDepth 100000
namespace Go.Proofs.YtbcoblpnihdhgaaDoor
open Go.RowKit
theorem gcdBound {x y k : Nat} (h1 : x < 10 ^ k) (h2 : y < 10 ^ k) : Nat.gcd x y < 10 ^ k := by
  rcases Nat.eq_zero_or_pos x with q | q
  · subst q; rw [Nat.gcd_zero_left]; exact h2
  · exact Nat.lt_of_le_of_lt (Nat.gcd_le_left y q) h1
theorem gcd_within {a b : ByteArray} (ha : validB a = true) (hb : validB b = true) : within (Nat.gcd (Dec.val (tl a)) (Dec.val (tl b))) = (nS (Nat.gcd (Dec.val (tl a)) (Dec.val (tl b))), 0) := by
  obtain ⟨k, hk⟩ : ∃ k, k = 1000 := ⟨_, rfl⟩
  exact within_valid k hk (gcdBound (valid_lt ha k hk) (valid_lt hb k hk))
theorem compute_gcd_bad1 (a b : ByteArray) (w : World) (ha : validB a = false) :
    Calls Tryd.prog 49 #[.func (.func 50) #[] #[], .string a, .string b] w fun e w' => e = .returned (.tuple #[.string ⟨#[]⟩, .int .i64 1]) ∧ w = w' := by
  have HA := Lib.hid ha
  clear ha
  go_enter Tryd.func49, Tryd.ntmps49
  go_wp2_with fail
  refine (pvalid_any a _).mono ?_
  rintro e w1 ⟨rfl, rfl⟩
  rw [HA.out]
  go_wp2_with fail
  go_ret2
  exact ⟨rfl, rfl⟩
theorem compute_gcd_bad2 (a b : ByteArray) (w : World) (ha : validB a = true) (hb : validB b = false) :
    Calls Tryd.prog 49 #[.func (.func 50) #[] #[], .string a, .string b] w fun e w' => e = .returned (.tuple #[.string ⟨#[]⟩, .int .i64 1]) ∧ w = w' := by
  have HA := Lib.hid ha
  clear ha
  have HB := Lib.hid hb
  clear hb
  go_enter Tryd.func49, Tryd.ntmps49
  go_wp2_with fail
  refine (pvalid_any a _).mono ?_
  rintro e w1 ⟨rfl, rfl⟩
  rw [HA.out]
  go_wp2_with fail
  refine (pvalid_any b _).mono ?_
  rintro e w1 ⟨rfl, rfl⟩
  rw [HB.out]
  go_wp2_with fail
  go_ret2
  exact ⟨rfl, rfl⟩
set_option maxHeartbeats 1000000 in
theorem compute_gcd_ok (a b : ByteArray) (w : World) (ha : validB a = true) (hb : validB b = true)  :
    Calls Tryd.prog 49 #[.func (.func 50) #[] #[], .string a, .string b] w (Gives2 (within (Nat.gcd (Dec.val (tl a)) (Dec.val (tl b)))) w) := by
  obtain ⟨x, hx⟩ : ∃ x, x = Dec.val (tl a) := ⟨_, rfl⟩
  obtain ⟨y, hy⟩ : ∃ y, y = Dec.val (tl b) := ⟨_, rfl⟩
  obtain ⟨k, hk⟩ : ∃ k, k = 1000 := ⟨_, rfl⟩
  have hxl := valid_lt ha k hk
  have hyl := valid_lt hb k hk
  rw [← hx] at hxl ⊢
  rw [← hy] at hyl ⊢
  obtain ⟨n, hn⟩ : ∃ n, n = Nat.gcd (x) (y) := ⟨_, rfl⟩
  have hnl : Hid (Lim.nl n ≤ 100000) := Lib.hid (by rw [hn]; exact nl_small (k := k) (gcdBound hxl hyl) (by omega))
  have hxs : Hid (Lim.nl x ≤ 100000) := Lib.hid (nl_small hxl (by omega))
  have hys : Hid (Lim.nl y ≤ 100000) := Lib.hid (nl_small hyl (by omega))
  rw [← hn]
  have HXY := Lib.hid hn
  have HX := Lib.hid hx
  have HY := Lib.hid hy
  have HA := Lib.hid ha
  have HB := Lib.hid hb
  clear ha hb hx hy hn hxl hyl hk
  go_enter Tryd.func49, Tryd.ntmps49
  go_wp2_with fail
  refine (pvalid_any a _).mono ?_
  rintro e w1 ⟨rfl, rfl⟩
  rw [HA.out]
  go_wp2_with fail
  refine (pvalid_any b _).mono ?_
  rintro e w1 ⟨rfl, rfl⟩
  rw [HB.out]
  go_wp2_with fail
  refine (limbsOf_any a _ (valid_norm HA.out).all (by have := valid_size HA.out; omega)).mono ?_
  rintro e w1 ⟨va, rfl, hva, hb1⟩
  rw [← HX.out] at hva
  have HVA := Lib.hid hva
  have HB1 := Lib.hid hb1
  clear hva hb1
  go_wp2_with fail
  refine (limbsOf_any b _ (valid_norm HB.out).all (by have := valid_size HB.out; omega)).mono ?_
  rintro e w2 ⟨vb, rfl, hvb, hb2⟩
  rw [← HY.out] at hvb
  have HVA2 := Lib.hid ((HVA.out.below hb2).weaken (q := fun _ => True) (fun _ _ _ => trivial))
  have HVB := Lib.hid (hvb.weaken (q := fun _ => True) (fun _ _ _ => trivial))
  have HB2 := Lib.hid (HB1.out.trans (hb2.mono HB1.out.size))
  clear hvb hb2 HVA HB1
  go_wp2_with fail
  refine (commonDivisor_any x y va vb _ HVA2.out HVB.out hxs.out hys.out).mono ?_
  rintro e w3 ⟨v3, rfl, hv3, hb3⟩
  rw [← HXY.out] at hv3
  have HV3 := Lib.hid hv3
  have HB3 := Lib.hid (HB2.out.trans (hb3.mono HB2.out.size))
  clear hv3 hb3 HB2
  go_wp2_with fail
  refine (digits_any _ n _ _ HV3.out hnl.out).mono ?_
  rintro e w4 ⟨rfl, hb4⟩
  have HB4 := Lib.hid (HB3.out.trans (hb4.mono HB3.out.size))
  clear hb4 HB3
  obtain ⟨R, hR⟩ : ∃ R, R = nS n := ⟨_, rfl⟩
  rw [show bx (Dec.digs n) = R from hR.symm]
  by_cases hs : R.size ≤ 1000
  · have hw : within n = (R, 0) := by unfold within; rw [← hR, if_pos hs]
    have t1 : ¬ 1000 < R.size := by omega
    have HW := Lib.hid hw
    clear hw hR
    go_wp2_with fail
    go_ret2
    exact ⟨by rw [HW.out]; rfl, HB4.out⟩
  · have hw : within n = (⟨#[]⟩, 2) := by unfold within; rw [← hR, if_neg hs]
    have t1 : 1000 < R.size := by omega
    have HW := Lib.hid hw
    clear hw hR
    go_wp2_with fail
    go_ret2
    exact ⟨by rw [HW.out]; rfl, HB4.out⟩
theorem pGcd_call (a b : ByteArray) (w : World) (r : ByteArray × Int) (h : Calls Tryd.prog 49 #[.func (.func 50) #[] #[], .string a, .string b] w (Gives2 r w)) :
    Calls Tryd.prog 35 #[.string a, .string b] w (Gives2 r w) := by
  have H := Lib.hid h
  clear h
  go_enter Tryd.func35, Tryd.ntmps35
  go_wp2_with fail
  refine H.out.mono ?_
  rintro e w1 ⟨rfl, hb⟩
  have HB := Lib.hid hb
  clear hb
  go_wp2_with fail
  go_ret2
  exact ⟨rfl, HB.out⟩
theorem pGcd_any (a b : ByteArray) (w : World) : Calls Tryd.prog 35 #[.string a, .string b] w (Gives2 (gcdR a b) w) := by
  refine pGcd_call a b w _ ?_
  by_cases ha : validB a = true
  · by_cases hb : validB b = true
    · rw [show gcdR a b = within (Nat.gcd (Dec.val (tl a)) (Dec.val (tl b))) by unfold gcdR; rw [ha, hb, if_pos (by rfl)]; exact (gcd_within ha hb).symm]
      exact compute_gcd_ok a b w ha hb
    · rw [show gcdR a b = (⟨#[]⟩, 1) by unfold gcdR; rw [two_not (fun h => hb h.2)]; rfl]
      refine (compute_gcd_bad2 a b w ha (by simpa using hb)).mono ?_
      rintro e w' ⟨rfl, rfl⟩
      exact ⟨rfl, Below.refl _ _⟩
  · rw [show gcdR a b = (⟨#[]⟩, 1) by unfold gcdR; rw [two_not (fun h => ha h.1)]; rfl]
    refine (compute_gcd_bad1 a b w (by simpa using ha)).mono ?_
    rintro e w' ⟨rfl, rfl⟩
    exact ⟨rfl, Below.refl _ _⟩
end Go.Proofs.YtbcoblpnihdhgaaDoor
