/-
  The walk of NaturalField.
-/
import Derived.Test.YtfkdhkbegfbkaaaDoorNatLaw
set_option linter.unusedVariables false
set_option maxRecDepth 100000
namespace Go.Proofs.YtfkdhkbegfbkaaaDoor
open Go.RowKit
theorem prod_lt {x y i j : Nat} (hx : x < 10 ^ i) (hy : y < 10 ^ j) : x * y < 10 ^ (i + j) := by
  rw [Nat.pow_add]; exact Nat.mul_lt_mul'' hx hy
theorem sum_lt {x y i : Nat} (hx : x < 10 ^ i) (hy : y < 10 ^ i) : x + y < 10 ^ (i + 1) := by
  rw [Nat.pow_succ]; omega
theorem lt_more {x i j : Nat} (hx : x < 10 ^ i) (h : i ≤ j) : x < 10 ^ j := Nat.lt_of_lt_of_le hx (Nat.pow_le_pow_right (by omega) h)
theorem nS_one : nS 1 = ⟨#[49]⟩ := by
  have h := nS_val (c := ⟨#[49]⟩) (by decide +kernel)
  rw [show Dec.val (tl ⟨#[49]⟩) = 1 by decide +kernel] at h
  exact h
theorem small_zero : Small 0 := small_of (k := 1) (by omega) (by omega) (by omega)
theorem small_one : Small 1 := small_of (k := 1) (by omega) (by omega) (by omega)
theorem cAdd0 {x : Nat} (w : World) (hx : Small x) : Calls Tryd.prog 13 #[.string (nS x), .string ⟨#[48]⟩] w fun e w' => e = .returned (.tuple #[.string (nS x), .int .i64 0]) ∧ Below w.heap.size w w' := by
  have h := cAdd w hx small_zero hx (Nat.add_zero x)
  rw [nS_zero] at h; exact h
theorem cMul1 {x : Nat} (w : World) (hx : Small x) : Calls Tryd.prog 17 #[.string (nS x), .string ⟨#[49]⟩] w fun e w' => e = .returned (.tuple #[.string (nS x), .int .i64 0]) ∧ Below w.heap.size w w' := by
  have h := cMul w hx small_one hx (Nat.mul_one x)
  rw [nS_one] at h; exact h
set_option maxRecDepth 100000 in
set_option maxHeartbeats 4000000 in
theorem NaturalField_out0 (a b c : ByteArray) (w : World) (henv : Env w) (ha : a.size ≤ maxLen) (hb : b.size ≤ maxLen) (hc : c.size ≤ maxLen) (f : few80 [a, b, c] = false) :
    Calls Tryd.prog 5 #[.string a, .string b, .string c] w fun e w' => e = .returned (.bool true) ∧ Below w.heap.size w w' := by
  have HENV := Lib.hid henv
  clear henv
  have Ha := Lib.hid ha
  have Hb := Lib.hid hb
  have Hc := Lib.hid hc
  have F := Lib.hid f
  clear ha hb hc f 
  have D0 : Below w.heap.size w w := Below.refl _ _
  go_enter Tryd.func5, Tryd.ntmps5
  go_wp2_with fail
  refine (head_any _ HENV.out).mono ?_
  rintro e w1 ⟨rfl, hb⟩
  have D1 := D0.trans (hb.mono D0.size)
  clear hb D0
  go_wp2_with fail
  refine (few_lit3 _ a b c Ha.out Hb.out Hc.out).mono ?_
  rintro e w2 ⟨rfl, hb⟩
  have D2 := D1.trans (hb.mono D1.size)
  clear hb D1
  simp only [F.out]
  go_wp2_with fail
  go_ret
  exact ⟨rfl, D2⟩
set_option maxRecDepth 100000 in
set_option maxHeartbeats 4000000 in
theorem NaturalField_out1 (a b c : ByteArray) (w : World) (henv : Env w) (ha : a.size ≤ maxLen) (hb : b.size ≤ maxLen) (hc : c.size ≤ maxLen) (f : few80 [a, b, c] = true) (va : validB a = false) :
    Calls Tryd.prog 5 #[.string a, .string b, .string c] w fun e w' => e = .returned (.bool true) ∧ Below w.heap.size w w' := by
  have HENV := Lib.hid henv
  clear henv
  have Ha := Lib.hid ha
  have Hb := Lib.hid hb
  have Hc := Lib.hid hc
  have F := Lib.hid f
  have Va := Lib.hid va
  clear ha hb hc f va
  have D0 : Below w.heap.size w w := Below.refl _ _
  go_enter Tryd.func5, Tryd.ntmps5
  go_wp2_with fail
  refine (head_any _ HENV.out).mono ?_
  rintro e w1 ⟨rfl, hb⟩
  have D1 := D0.trans (hb.mono D0.size)
  clear hb D0
  go_wp2_with fail
  refine (few_lit3 _ a b c Ha.out Hb.out Hc.out).mono ?_
  rintro e w2 ⟨rfl, hb⟩
  have D2 := D1.trans (hb.mono D1.size)
  clear hb D1
  simp only [F.out]
  go_wp2_with fail
  refine (cVal _ Va.out).mono ?_
  rintro e w3 ⟨rfl, hb⟩
  have D3 := D2.trans (hb.mono D2.size)
  clear hb D2
  go_wp2_with fail
  go_ret
  exact ⟨rfl, D3⟩
set_option maxRecDepth 100000 in
set_option maxHeartbeats 4000000 in
theorem NaturalField_out2 (a b c : ByteArray) (w : World) (henv : Env w) (ha : a.size ≤ maxLen) (hb : b.size ≤ maxLen) (hc : c.size ≤ maxLen) (f : few80 [a, b, c] = true) (va : validB a = true) (vb : validB b = false) :
    Calls Tryd.prog 5 #[.string a, .string b, .string c] w fun e w' => e = .returned (.bool true) ∧ Below w.heap.size w w' := by
  have HENV := Lib.hid henv
  clear henv
  have Ha := Lib.hid ha
  have Hb := Lib.hid hb
  have Hc := Lib.hid hc
  have F := Lib.hid f
  have Va := Lib.hid va
  have Vb := Lib.hid vb
  clear ha hb hc f va vb
  have D0 : Below w.heap.size w w := Below.refl _ _
  go_enter Tryd.func5, Tryd.ntmps5
  go_wp2_with fail
  refine (head_any _ HENV.out).mono ?_
  rintro e w1 ⟨rfl, hb⟩
  have D1 := D0.trans (hb.mono D0.size)
  clear hb D0
  go_wp2_with fail
  refine (few_lit3 _ a b c Ha.out Hb.out Hc.out).mono ?_
  rintro e w2 ⟨rfl, hb⟩
  have D2 := D1.trans (hb.mono D1.size)
  clear hb D1
  simp only [F.out]
  go_wp2_with fail
  refine (cVal _ Va.out).mono ?_
  rintro e w3 ⟨rfl, hb⟩
  have D3 := D2.trans (hb.mono D2.size)
  clear hb D2
  go_wp2_with fail
  refine (cVal _ Vb.out).mono ?_
  rintro e w4 ⟨rfl, hb⟩
  have D4 := D3.trans (hb.mono D3.size)
  clear hb D3
  go_wp2_with fail
  go_ret
  exact ⟨rfl, D4⟩
set_option maxRecDepth 100000 in
set_option maxHeartbeats 4000000 in
theorem NaturalField_out3 (a b c : ByteArray) (w : World) (henv : Env w) (ha : a.size ≤ maxLen) (hb : b.size ≤ maxLen) (hc : c.size ≤ maxLen) (f : few80 [a, b, c] = true) (va : validB a = true) (vb : validB b = true) (vc : validB c = false) :
    Calls Tryd.prog 5 #[.string a, .string b, .string c] w fun e w' => e = .returned (.bool true) ∧ Below w.heap.size w w' := by
  have HENV := Lib.hid henv
  clear henv
  have Ha := Lib.hid ha
  have Hb := Lib.hid hb
  have Hc := Lib.hid hc
  have F := Lib.hid f
  have Va := Lib.hid va
  have Vb := Lib.hid vb
  have Vc := Lib.hid vc
  clear ha hb hc f va vb vc
  have D0 : Below w.heap.size w w := Below.refl _ _
  go_enter Tryd.func5, Tryd.ntmps5
  go_wp2_with fail
  refine (head_any _ HENV.out).mono ?_
  rintro e w1 ⟨rfl, hb⟩
  have D1 := D0.trans (hb.mono D0.size)
  clear hb D0
  go_wp2_with fail
  refine (few_lit3 _ a b c Ha.out Hb.out Hc.out).mono ?_
  rintro e w2 ⟨rfl, hb⟩
  have D2 := D1.trans (hb.mono D1.size)
  clear hb D1
  simp only [F.out]
  go_wp2_with fail
  refine (cVal _ Va.out).mono ?_
  rintro e w3 ⟨rfl, hb⟩
  have D3 := D2.trans (hb.mono D2.size)
  clear hb D2
  go_wp2_with fail
  refine (cVal _ Vb.out).mono ?_
  rintro e w4 ⟨rfl, hb⟩
  have D4 := D3.trans (hb.mono D3.size)
  clear hb D3
  go_wp2_with fail
  refine (cVal _ Vc.out).mono ?_
  rintro e w5 ⟨rfl, hb⟩
  have D5 := D4.trans (hb.mono D4.size)
  clear hb D4
  go_wp2_with fail
  go_ret
  exact ⟨rfl, D5⟩
set_option maxRecDepth 100000 in
set_option maxHeartbeats 4000000 in
theorem field_main (x y z : Nat) (w : World) (henv : Env w) (hx : x < 10 ^ 80) (hy : y < 10 ^ 80) (hz : z < 10 ^ 80) :
    Calls Tryd.prog 5 #[.string (nS x), .string (nS y), .string (nS z)] w fun e w' => e = .returned (.bool true) ∧ Below w.heap.size w w' := by
  have HENV := Lib.hid henv
  clear henv
  obtain ⟨s1, es1⟩ : ∃ k, x + y = k := ⟨_, rfl⟩
  have Es1 := Lib.hid es1
  have Ss1 : Hid (Small s1) := Lib.hid (by rw [← es1]; exact small_of (sum_lt hx hy) (by omega) (by omega))
  clear es1
  obtain ⟨s2, es2⟩ : ∃ k, y + z = k := ⟨_, rfl⟩
  have Es2 := Lib.hid es2
  have Ss2 : Hid (Small s2) := Lib.hid (by rw [← es2]; exact small_of (sum_lt hy hz) (by omega) (by omega))
  clear es2
  obtain ⟨s3, es3⟩ : ∃ k, x + y + z = k := ⟨_, rfl⟩
  have Es3 := Lib.hid es3
  have Ss3 : Hid (Small s3) := Lib.hid (by rw [← es3]; exact small_of (sum_lt (sum_lt hx hy) (lt_more hz (by omega))) (by omega) (by omega))
  clear es3
  obtain ⟨p1, ep1⟩ : ∃ k, x * y = k := ⟨_, rfl⟩
  have Ep1 := Lib.hid ep1
  have Sp1 : Hid (Small p1) := Lib.hid (by rw [← ep1]; exact small_of (prod_lt hx hy) (by omega) (by omega))
  clear ep1
  obtain ⟨p2, ep2⟩ : ∃ k, y * z = k := ⟨_, rfl⟩
  have Ep2 := Lib.hid ep2
  have Sp2 : Hid (Small p2) := Lib.hid (by rw [← ep2]; exact small_of (prod_lt hy hz) (by omega) (by omega))
  clear ep2
  obtain ⟨p3, ep3⟩ : ∃ k, x * y * z = k := ⟨_, rfl⟩
  have Ep3 := Lib.hid ep3
  have Sp3 : Hid (Small p3) := Lib.hid (by rw [← ep3]; exact small_of (prod_lt (prod_lt hx hy) hz) (by omega) (by omega))
  clear ep3
  obtain ⟨p4, ep4⟩ : ∃ k, x * z = k := ⟨_, rfl⟩
  have Ep4 := Lib.hid ep4
  have Sp4 : Hid (Small p4) := Lib.hid (by rw [← ep4]; exact small_of (prod_lt hx hz) (by omega) (by omega))
  clear ep4
  obtain ⟨p5, ep5⟩ : ∃ k, x * (y + z) = k := ⟨_, rfl⟩
  have Ep5 := Lib.hid ep5
  have Sp5 : Hid (Small p5) := Lib.hid (by rw [← ep5]; exact small_of (prod_lt hx (sum_lt hy hz)) (by omega) (by omega))
  clear ep5
  have Sx := Lib.hid (small_of hx (by omega) (by omega))
  have Nx : Hid ((nS x).size ≤ 80) := Lib.hid ((nS_size (by omega)).2 hx)
  have Sy := Lib.hid (small_of hy (by omega) (by omega))
  have Ny : Hid ((nS y).size ≤ 80) := Lib.hid ((nS_size (by omega)).2 hy)
  have Sz := Lib.hid (small_of hz (by omega) (by omega))
  have Nz : Hid ((nS z).size ≤ 80) := Lib.hid ((nS_size (by omega)).2 hz)
  clear hx hy hz
  have D0 : Below w.heap.size w w := Below.refl _ _
  have FW : Hid (few80 [nS x, nS y, nS z] = true) := Lib.hid (by simp only [few80, List.all_cons, List.all_nil, decide_eq_true Nx.out, decide_eq_true Ny.out, decide_eq_true Nz.out]; rfl)
  go_enter Tryd.func5, Tryd.ntmps5
  go_wp2_with fail
  refine (head_any _ HENV.out).mono ?_
  rintro e w1 ⟨rfl, hb⟩
  have D1 := D0.trans (hb.mono D0.size)
  clear hb D0
  go_wp2_with fail
  refine (few_lit3 _ (nS x) (nS y) (nS z) (by have := Nx.out; unfold maxLen; omega) (by have := Ny.out; unfold maxLen; omega) (by have := Nz.out; unfold maxLen; omega)).mono ?_
  rintro e w2 ⟨rfl, hb⟩
  have D2 := D1.trans (hb.mono D1.size)
  clear hb D1
  simp only [FW.out]
  go_wp2_with fail
  refine (cVal _ (small_valid Sx.out)).mono ?_
  rintro e w3 ⟨rfl, hb⟩
  have D3 := D2.trans (hb.mono D2.size)
  clear hb D2
  go_wp2_with fail
  refine (cVal _ (small_valid Sy.out)).mono ?_
  rintro e w4 ⟨rfl, hb⟩
  have D4 := D3.trans (hb.mono D3.size)
  clear hb D3
  go_wp2_with fail
  refine (cVal _ (small_valid Sz.out)).mono ?_
  rintro e w5 ⟨rfl, hb⟩
  have D5 := D4.trans (hb.mono D4.size)
  clear hb D4
  go_wp2_with fail
  refine (cAdd _ Sx.out Sy.out Ss1.out Es1.out).mono ?_
  rintro e w6 ⟨rfl, hb⟩
  have D6 := D5.trans (hb.mono D5.size)
  clear hb D5
  go_wp2_with fail
  refine (cAdd _ Sy.out Sx.out Ss1.out (by rw [Nat.add_comm]; exact Es1.out)).mono ?_
  rintro e w7 ⟨rfl, hb⟩
  have D7 := D6.trans (hb.mono D6.size)
  clear hb D6
  go_wp2_with fail
  refine (cAdd _ Sy.out Sz.out Ss2.out Es2.out).mono ?_
  rintro e w8 ⟨rfl, hb⟩
  have D8 := D7.trans (hb.mono D7.size)
  clear hb D7
  go_wp2_with fail
  refine (cAdd _ Ss1.out Sz.out Ss3.out (by rw [← Es1.out]; exact Es3.out)).mono ?_
  rintro e w9 ⟨rfl, hb⟩
  have D9 := D8.trans (hb.mono D8.size)
  clear hb D8
  go_wp2_with fail
  refine (cAdd _ Sx.out Ss2.out Ss3.out (by rw [← Es2.out, ← Nat.add_assoc]; exact Es3.out)).mono ?_
  rintro e w10 ⟨rfl, hb⟩
  have D10 := D9.trans (hb.mono D9.size)
  clear hb D9
  go_wp2_with fail
  refine (cMul _ Sx.out Sy.out Sp1.out Ep1.out).mono ?_
  rintro e w11 ⟨rfl, hb⟩
  have D11 := D10.trans (hb.mono D10.size)
  clear hb D10
  go_wp2_with fail
  refine (cMul _ Sy.out Sx.out Sp1.out (by rw [Nat.mul_comm]; exact Ep1.out)).mono ?_
  rintro e w12 ⟨rfl, hb⟩
  have D12 := D11.trans (hb.mono D11.size)
  clear hb D11
  go_wp2_with fail
  refine (cMul _ Sy.out Sz.out Sp2.out Ep2.out).mono ?_
  rintro e w13 ⟨rfl, hb⟩
  have D13 := D12.trans (hb.mono D12.size)
  clear hb D12
  go_wp2_with fail
  refine (cMul _ Sp1.out Sz.out Sp3.out (by rw [← Ep1.out]; exact Ep3.out)).mono ?_
  rintro e w14 ⟨rfl, hb⟩
  have D14 := D13.trans (hb.mono D13.size)
  clear hb D13
  go_wp2_with fail
  refine (cMul _ Sx.out Sp2.out Sp3.out (by rw [← Ep2.out, ← Nat.mul_assoc]; exact Ep3.out)).mono ?_
  rintro e w15 ⟨rfl, hb⟩
  have D15 := D14.trans (hb.mono D14.size)
  clear hb D14
  go_wp2_with fail
  refine (cMul _ Sx.out Sz.out Sp4.out Ep4.out).mono ?_
  rintro e w16 ⟨rfl, hb⟩
  have D16 := D15.trans (hb.mono D15.size)
  clear hb D15
  go_wp2_with fail
  refine (cMul _ Sx.out Ss2.out Sp5.out (by rw [← Es2.out]; exact Ep5.out)).mono ?_
  rintro e w17 ⟨rfl, hb⟩
  have D17 := D16.trans (hb.mono D16.size)
  clear hb D16
  go_wp2_with fail
  refine (cAdd _ Sp1.out Sp4.out Sp5.out (by rw [← Ep1.out, ← Ep4.out, ← Nat.mul_add]; exact Ep5.out)).mono ?_
  rintro e w18 ⟨rfl, hb⟩
  have D18 := D17.trans (hb.mono D17.size)
  clear hb D17
  go_wp2_with fail
  refine (cAdd0 _ Sx.out).mono ?_
  rintro e w19 ⟨rfl, hb⟩
  have D19 := D18.trans (hb.mono D18.size)
  clear hb D18
  go_wp2_with fail
  refine (cMul1 _ Sx.out).mono ?_
  rintro e w20 ⟨rfl, hb⟩
  have D20 := D19.trans (hb.mono D19.size)
  clear hb D19
  go_wp2_with fail
  go_ret
  exact ⟨by simp, D20⟩
theorem walkNaturalField (a b c : ByteArray) (w : World) (henv : Env w) (ha : a.size ≤ maxLen) (hb : b.size ≤ maxLen) (hc : c.size ≤ maxLen) :
    Calls Tryd.prog 5 #[.string a, .string b, .string c] w fun e w' => e = .returned (.bool true) ∧ Below w.heap.size w w' := by
  cases f : few80 [a, b, c] with
  | false => exact NaturalField_out0 a b c w henv ha hb hc f
  | true =>
    cases va : validB a with
    | false => exact NaturalField_out1 a b c w henv ha hb hc f va
    | true =>
      cases vb : validB b with
      | false => exact NaturalField_out2 a b c w henv ha hb hc f va vb
      | true =>
        cases vc : validB c with
        | false => exact NaturalField_out3 a b c w henv ha hb hc f va vb vc
        | true =>
          simp only [few80, List.all_cons, List.all_nil, Bool.and_eq_true, Bool.and_true, decide_eq_true_eq] at f
          obtain ⟨x, ex, kx⟩ := short_num va f.1
          obtain ⟨y, ey, ky⟩ := short_num vb f.2.1
          obtain ⟨z, ez, kz⟩ := short_num vc f.2.2
          subst ex ey ez
          exact field_main x y z w henv kx ky kz
end Go.Proofs.YtfkdhkbegfbkaaaDoor
