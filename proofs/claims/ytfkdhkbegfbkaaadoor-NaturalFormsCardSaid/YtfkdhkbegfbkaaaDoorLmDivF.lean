/-
  The program's Div of layer 3.
-/
import Derived.Test.YtfkdhkbegfbkaaaDoorLmFns
import Derived.Test.YtfkdhkbegfbkaaaDoorLmDivM
set_option linter.unusedVariables false
set_option maxRecDepth 100000
namespace Go.Proofs.YtfkdhkbegfbkaaaDoor
open Go.RowKit
theorem pDiv_bad1 (a b : ByteArray) (w : World) (ha : validB a = false) :
    Calls Tryd.prog 19 #[.string a, .string b] w fun e w' => e = .returned (.tuple #[.string ⟨#[]⟩, .string ⟨#[]⟩, .int .i64 1]) ∧ w = w' := by
  have HA := Lib.hid ha
  clear ha
  go_enter Tryd.func19, Tryd.ntmps19
  go_wp2_with fail
  refine (pvalid_any a _).mono ?_
  rintro e w1 ⟨rfl, rfl⟩
  rw [HA.out]
  go_wp2_with fail
  go_ret3
  exact ⟨rfl, rfl⟩
theorem pDiv_bad2 (a b : ByteArray) (w : World) (ha : validB a = true) (hb : validB b = false) :
    Calls Tryd.prog 19 #[.string a, .string b] w fun e w' => e = .returned (.tuple #[.string ⟨#[]⟩, .string ⟨#[]⟩, .int .i64 1]) ∧ w = w' := by
  have HA := Lib.hid ha
  clear ha
  have HB := Lib.hid hb
  clear hb
  go_enter Tryd.func19, Tryd.ntmps19
  go_wp2_with fail
  refine (pvalid_any a _).mono ?_
  rintro e w1 ⟨rfl, rfl⟩
  rw [HA.out]
  go_wp2_with fail
  refine (pvalid_any b _).mono ?_
  rintro e w1 ⟨rfl, rfl⟩
  rw [HB.out]
  go_wp2_with fail
  go_ret3
  exact ⟨rfl, rfl⟩
set_option maxHeartbeats 1000000 in
theorem pDiv_zero (a b : ByteArray) (w : World) (ha : validB a = true) (hb : validB b = true) (h : Dec.val (tl b) = 0) (q : (b.toList == [48]) = true) :
    Calls Tryd.prog 19 #[.string a, .string b] w fun e w' => e = .returned (.tuple #[.string ⟨#[]⟩, .string ⟨#[]⟩, .int .i64 14]) ∧ Below w.heap.size w w' := by
  have HA := Lib.hid ha
  have HB := Lib.hid hb
  have SA := valid_size ha
  have SB := valid_size hb
  have PA := valid_pos ha
  have PB := valid_pos hb
  have NA := Lib.hid (valid_norm ha)
  have NB := Lib.hid (valid_norm hb)
  clear ha hb
  clear h
  go_enter Tryd.func19, Tryd.ntmps19
  go_wp2_with fail
  refine (pvalid_any a _).mono ?_
  rintro e w1 ⟨rfl, rfl⟩
  rw [HA.out]
  go_wp2_with fail
  refine (pvalid_any b _).mono ?_
  rintro e w1 ⟨rfl, rfl⟩
  rw [HB.out]
  go_wp2_with fail
  go_ret3
  exact ⟨rfl, Below.refl _ _⟩
theorem dividedBy_any (m n : Nat) (va vb : Value) (w : World) (hm : IntsIn (fun _ => True) w va (Lim.ls m)) (hn : IntsIn (fun _ => True) w vb (Lim.ls n)) (hml : Lim.nl m ≤ 100000) (hnl : Lim.nl n ≤ 100000) (hn0 : n ≠ 0) :
    Calls Tryd.prog 42 #[va, vb] w (Divided m n w) := by
  have h1 := Lim.nl_pos.2 hn0
  by_cases c : Lim.nl n = 1
  · exact dividedBy_one m n va vb w hm hn hml c
  · by_cases c2 : Lim.nl m < Lim.nl n
    · exact dividedBy_short m n va vb w hm hn hml hnl c c2
    · exact dividedBy_long m n (Lim.nl n - 2) va vb w hm hn hml (by omega) (by omega)
set_option maxHeartbeats 1000000 in
theorem pDiv_ok (a b : ByteArray) (w : World) (ha : validB a = true) (hb : validB b = true) (h : Dec.val (tl b) ≠ 0) (q : (b.toList == [48]) = false) :
    Calls Tryd.prog 19 #[.string a, .string b] w fun e w' => e = .returned (.tuple #[.string (nS (Dec.val (tl a) / Dec.val (tl b))), .string (nS (Dec.val (tl a) % Dec.val (tl b))), .int .i64 0]) ∧ Below w.heap.size w w' := by
  obtain ⟨x, hx⟩ : ∃ x, x = Dec.val (tl a) := ⟨_, rfl⟩
  obtain ⟨y, hy⟩ : ∃ y, y = Dec.val (tl b) := ⟨_, rfl⟩
  obtain ⟨k, hk⟩ : ∃ k, k = 1000 := ⟨_, rfl⟩
  have hxl := valid_lt ha k hk
  have hyl := valid_lt hb k hk
  rw [← hx] at hxl ⊢
  rw [← hy] at hyl h ⊢
  have hxs : Hid (Lim.nl x ≤ 100000) := Lib.hid (nl_small hxl (by omega))
  have hys : Hid (Lim.nl y ≤ 100000) := Lib.hid (nl_small hyl (by omega))
  have hqs : Hid (Lim.nl (x / y) ≤ 100000) := Lib.hid (Nat.le_trans (Lim.nl_mono (Nat.div_le_self _ _)) hxs.out)
  have hrs : Hid (Lim.nl (x % y) ≤ 100000) := Lib.hid (Nat.le_trans (Lim.nl_mono (Nat.mod_le _ _)) hxs.out)
  have HX := Lib.hid hx
  have HY := Lib.hid hy
  have HA := Lib.hid ha
  have HB := Lib.hid hb
  have HN := Lib.hid h
  clear ha hb hx hy hxl hyl h hk
  go_enter Tryd.func19, Tryd.ntmps19
  go_wp2_with fail
  refine (pvalid_any a _).mono ?_
  rintro e w1 ⟨rfl, rfl⟩
  rw [HA.out]
  go_wp2_with fail
  refine (pvalid_any b _).mono ?_
  rintro e w1 ⟨rfl, rfl⟩
  rw [HB.out]
  go_wp2_with fail
  refine (limbsOf_any a _ (valid_norm HA.out).all (by have := valid_size HA.out; omega)).mono ?_
  rintro e w1 ⟨va, rfl, hva, hb1⟩
  rw [← HX.out] at hva
  have HVA := Lib.hid hva
  have HB1 := Lib.hid hb1
  clear hva hb1
  go_wp2_with fail
  refine (limbsOf_any b _ (valid_norm HB.out).all (by have := valid_size HB.out; omega)).mono ?_
  rintro e w2 ⟨vb, rfl, hvb, hb2⟩
  rw [← HY.out] at hvb
  have HVA2 := Lib.hid ((HVA.out.below hb2).weaken (q := fun _ => True) (fun _ _ _ => trivial))
  have HVB := Lib.hid (hvb.weaken (q := fun _ => True) (fun _ _ _ => trivial))
  have HB2 := Lib.hid (HB1.out.trans (hb2.mono HB1.out.size))
  clear hvb hb2 HVA HB1
  go_wp2_with fail
  refine (dividedBy_any x y va vb _ HVA2.out HVB.out hxs.out hys.out HN.out).mono ?_
  rintro e w3 ⟨v1, v2, rfl, hv1, hv2, hb3⟩
  have HV1 := Lib.hid hv1
  have HV2 := Lib.hid hv2
  have HB3 := Lib.hid (HB2.out.trans (hb3.mono HB2.out.size))
  clear hv1 hv2 hb3 HB2
  go_wp2_with fail
  refine (digits_any _ (x / y) _ _ HV1.out hqs.out).mono ?_
  rintro e w4 ⟨rfl, hb4⟩
  have HV3 := Lib.hid (HV2.out.below hb4)
  have HB4 := Lib.hid (HB3.out.trans (hb4.mono HB3.out.size))
  clear hb4 HB3
  obtain ⟨R1, hR1⟩ : ∃ R1, R1 = nS (x / y) := ⟨_, rfl⟩
  rw [show bx (Dec.digs (x / y)) = R1 from hR1.symm]
  have HR1 := Lib.hid hR1
  clear hR1
  go_wp2_with fail
  refine (digits_any _ (x % y) _ _ HV3.out hrs.out).mono ?_
  rintro e w5 ⟨rfl, hb5⟩
  have HB5 := Lib.hid (HB4.out.trans (hb5.mono HB4.out.size))
  clear hb5 HB4
  obtain ⟨R2, hR2⟩ : ∃ R2, R2 = nS (x % y) := ⟨_, rfl⟩
  rw [show bx (Dec.digs (x % y)) = R2 from hR2.symm]
  have HR2 := Lib.hid hR2
  clear hR2
  go_wp2_with fail
  go_ret3
  exact ⟨by rw [← HR1.out, ← HR2.out]; rfl, HB5.out⟩
theorem pDiv_any (a b : ByteArray) (w : World) : Calls Tryd.prog 19 #[.string a, .string b] w (Gives3 (divR a b) w) := by
  by_cases ha : validB a = true
  · by_cases hb : validB b = true
    · by_cases h : Dec.val (tl b) = 0
      · have e : divR a b = (⟨#[]⟩, ⟨#[]⟩, 14) := by unfold divR; rw [ha, hb, if_pos (by rfl), if_pos h]
        rw [e]; exact pDiv_zero a b w ha hb h (by rw [zero_str hb]; exact decide_eq_true h)
      · have e : divR a b = (nS (Dec.val (tl a) / Dec.val (tl b)), nS (Dec.val (tl a) % Dec.val (tl b)), 0) := by unfold divR; rw [ha, hb, if_pos (by rfl), if_neg h]
        rw [e]; exact pDiv_ok a b w ha hb h (by rw [zero_str hb]; exact decide_eq_false h)
    · have e : divR a b = (⟨#[]⟩, ⟨#[]⟩, 1) := by unfold divR; rw [two_not (fun h => hb h.2)]; rfl
      rw [e]
      refine (pDiv_bad2 a b w ha (by simpa using hb)).mono ?_
      rintro e w' ⟨rfl, rfl⟩
      exact ⟨rfl, Below.refl _ _⟩
  · have e : divR a b = (⟨#[]⟩, ⟨#[]⟩, 1) := by unfold divR; rw [two_not (fun h => ha h.1)]; rfl
    rw [e]
    refine (pDiv_bad1 a b w (by simpa using ha)).mono ?_
    rintro e w' ⟨rfl, rfl⟩
    exact ⟨rfl, Below.refl _ _⟩
end Go.Proofs.YtfkdhkbegfbkaaaDoor
