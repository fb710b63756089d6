/-
  The walk of NaturalGcd.
-/
import Derived.Test.YtfkdhkbegfbkaaaDoorNatWDiv
set_option linter.unusedVariables false
set_option maxRecDepth 100000
namespace Go.Proofs.YtfkdhkbegfbkaaaDoor
open Go.RowKit
theorem gcd_lt {x y k : Nat} (hx : x < 10 ^ k) (hy : y < 10 ^ k) : Nat.gcd x y < 10 ^ k := by
  rcases Nat.eq_zero_or_pos x with h | h
  · subst h; rw [Nat.gcd_zero_left]; exact hy
  · exact Nat.lt_of_le_of_lt (Nat.gcd_le_left y h) hx
set_option maxRecDepth 100000 in
set_option maxHeartbeats 4000000 in
theorem gcd_out (d x y : ByteArray) (w : World) (henv : Env w) (hd : d.size ≤ maxLen) (hx : x.size ≤ maxLen) (hy : y.size ≤ maxLen) (f : few80 [d, x, y] = false) :
    Calls Tryd.prog 8 #[.string d, .string x, .string y] w fun e w' => e = .returned (.bool true) ∧ Below w.heap.size w w' := by
  have HENV := Lib.hid henv
  clear henv
  have Hd := Lib.hid hd
  have Hx := Lib.hid hx
  have Hy := Lib.hid hy
  have F := Lib.hid f
  clear hd hx hy f 
  have D0 : Below w.heap.size w w := Below.refl _ _
  go_enter Tryd.func8, Tryd.ntmps8
  go_wp2_with fail
  refine (head_any _ HENV.out).mono ?_
  rintro e w1 ⟨rfl, hb⟩
  have D1 := D0.trans (hb.mono D0.size)
  clear hb D0
  go_wp2_with fail
  refine (few_lit3 _ d x y Hd.out Hx.out Hy.out).mono ?_
  rintro e w2 ⟨rfl, hb⟩
  have D2 := D1.trans (hb.mono D1.size)
  clear hb D1
  simp only [F.out]
  go_wp2_with fail
  go_ret
  exact ⟨rfl, D2⟩
set_option maxRecDepth 100000 in
set_option maxHeartbeats 4000000 in
theorem gcd_long0 (d x y : ByteArray) (w : World) (henv : Env w) (hd : d.size ≤ maxLen) (hx : x.size ≤ maxLen) (hy : y.size ≤ maxLen) (f : few80 [d, x, y] = true) (ld : 40 < d.size) :
    Calls Tryd.prog 8 #[.string d, .string x, .string y] w fun e w' => e = .returned (.bool true) ∧ Below w.heap.size w w' := by
  have HENV := Lib.hid henv
  clear henv
  have Hd := Lib.hid hd
  have Hx := Lib.hid hx
  have Hy := Lib.hid hy
  have F := Lib.hid f
  have td : decide (40 < d.size) = true := decide_eq_true ld
  clear hd hx hy f 
  have D0 : Below w.heap.size w w := Below.refl _ _
  go_enter Tryd.func8, Tryd.ntmps8
  go_wp2_with fail
  refine (head_any _ HENV.out).mono ?_
  rintro e w1 ⟨rfl, hb⟩
  have D1 := D0.trans (hb.mono D0.size)
  clear hb D0
  go_wp2_with fail
  refine (few_lit3 _ d x y Hd.out Hx.out Hy.out).mono ?_
  rintro e w2 ⟨rfl, hb⟩
  have D2 := D1.trans (hb.mono D1.size)
  clear hb D1
  simp only [F.out]
  go_wp2_with fail
  go_ret
  exact ⟨rfl, D2⟩
set_option maxRecDepth 100000 in
set_option maxHeartbeats 4000000 in
theorem gcd_long1 (d x y : ByteArray) (w : World) (henv : Env w) (hd : d.size ≤ maxLen) (hx : x.size ≤ maxLen) (hy : y.size ≤ maxLen) (f : few80 [d, x, y] = true) (ld : ¬ 40 < d.size) (lx : 40 < x.size) :
    Calls Tryd.prog 8 #[.string d, .string x, .string y] w fun e w' => e = .returned (.bool true) ∧ Below w.heap.size w w' := by
  have HENV := Lib.hid henv
  clear henv
  have Hd := Lib.hid hd
  have Hx := Lib.hid hx
  have Hy := Lib.hid hy
  have F := Lib.hid f
  have td : decide (40 < d.size) = false := decide_eq_false ld
  have tx : decide (40 < x.size) = true := decide_eq_true lx
  clear hd hx hy f 
  have D0 : Below w.heap.size w w := Below.refl _ _
  go_enter Tryd.func8, Tryd.ntmps8
  go_wp2_with fail
  refine (head_any _ HENV.out).mono ?_
  rintro e w1 ⟨rfl, hb⟩
  have D1 := D0.trans (hb.mono D0.size)
  clear hb D0
  go_wp2_with fail
  refine (few_lit3 _ d x y Hd.out Hx.out Hy.out).mono ?_
  rintro e w2 ⟨rfl, hb⟩
  have D2 := D1.trans (hb.mono D1.size)
  clear hb D1
  simp only [F.out]
  go_wp2_with fail
  go_ret
  exact ⟨rfl, D2⟩
set_option maxRecDepth 100000 in
set_option maxHeartbeats 4000000 in
theorem gcd_long2 (d x y : ByteArray) (w : World) (henv : Env w) (hd : d.size ≤ maxLen) (hx : x.size ≤ maxLen) (hy : y.size ≤ maxLen) (f : few80 [d, x, y] = true) (ld : ¬ 40 < d.size) (lx : ¬ 40 < x.size) (ly : 40 < y.size) :
    Calls Tryd.prog 8 #[.string d, .string x, .string y] w fun e w' => e = .returned (.bool true) ∧ Below w.heap.size w w' := by
  have HENV := Lib.hid henv
  clear henv
  have Hd := Lib.hid hd
  have Hx := Lib.hid hx
  have Hy := Lib.hid hy
  have F := Lib.hid f
  have td : decide (40 < d.size) = false := decide_eq_false ld
  have tx : decide (40 < x.size) = false := decide_eq_false lx
  have ty : decide (40 < y.size) = true := decide_eq_true ly
  clear hd hx hy f 
  have D0 : Below w.heap.size w w := Below.refl _ _
  go_enter Tryd.func8, Tryd.ntmps8
  go_wp2_with fail
  refine (head_any _ HENV.out).mono ?_
  rintro e w1 ⟨rfl, hb⟩
  have D1 := D0.trans (hb.mono D0.size)
  clear hb D0
  go_wp2_with fail
  refine (few_lit3 _ d x y Hd.out Hx.out Hy.out).mono ?_
  rintro e w2 ⟨rfl, hb⟩
  have D2 := D1.trans (hb.mono D1.size)
  clear hb D1
  simp only [F.out]
  go_wp2_with fail
  go_ret
  exact ⟨rfl, D2⟩
set_option maxRecDepth 100000 in
set_option maxHeartbeats 4000000 in
theorem gcd_bad0 (d x y : ByteArray) (w : World) (henv : Env w) (hd : d.size ≤ maxLen) (hx : x.size ≤ maxLen) (hy : y.size ≤ maxLen) (f : few80 [d, x, y] = true) (ld : ¬ 40 < d.size) (lx : ¬ 40 < x.size) (ly : ¬ 40 < y.size) (vd : validB d = false) :
    Calls Tryd.prog 8 #[.string d, .string x, .string y] w fun e w' => e = .returned (.bool true) ∧ Below w.heap.size w w' := by
  have HENV := Lib.hid henv
  clear henv
  have Hd := Lib.hid hd
  have Hx := Lib.hid hx
  have Hy := Lib.hid hy
  have F := Lib.hid f
  have td : decide (40 < d.size) = false := decide_eq_false ld
  have tx : decide (40 < x.size) = false := decide_eq_false lx
  have ty : decide (40 < y.size) = false := decide_eq_false ly
  have Vd := Lib.hid vd
  clear hd hx hy f vd
  have D0 : Below w.heap.size w w := Below.refl _ _
  go_enter Tryd.func8, Tryd.ntmps8
  go_wp2_with fail
  refine (head_any _ HENV.out).mono ?_
  rintro e w1 ⟨rfl, hb⟩
  have D1 := D0.trans (hb.mono D0.size)
  clear hb D0
  go_wp2_with fail
  refine (few_lit3 _ d x y Hd.out Hx.out Hy.out).mono ?_
  rintro e w2 ⟨rfl, hb⟩
  have D2 := D1.trans (hb.mono D1.size)
  clear hb D1
  simp only [F.out]
  go_wp2_with fail
  refine (cVal _ Vd.out).mono ?_
  rintro e w3 ⟨rfl, hb⟩
  have D3 := D2.trans (hb.mono D2.size)
  clear hb D2
  go_wp2_with fail
  go_ret
  exact ⟨rfl, D3⟩
set_option maxRecDepth 100000 in
set_option maxHeartbeats 4000000 in
theorem gcd_bad1 (d x y : ByteArray) (w : World) (henv : Env w) (hd : d.size ≤ maxLen) (hx : x.size ≤ maxLen) (hy : y.size ≤ maxLen) (f : few80 [d, x, y] = true) (ld : ¬ 40 < d.size) (lx : ¬ 40 < x.size) (ly : ¬ 40 < y.size) (vd : validB d = true) (vx : validB x = false) :
    Calls Tryd.prog 8 #[.string d, .string x, .string y] w fun e w' => e = .returned (.bool true) ∧ Below w.heap.size w w' := by
  have HENV := Lib.hid henv
  clear henv
  have Hd := Lib.hid hd
  have Hx := Lib.hid hx
  have Hy := Lib.hid hy
  have F := Lib.hid f
  have td : decide (40 < d.size) = false := decide_eq_false ld
  have tx : decide (40 < x.size) = false := decide_eq_false lx
  have ty : decide (40 < y.size) = false := decide_eq_false ly
  have Vd := Lib.hid vd
  have Vx := Lib.hid vx
  clear hd hx hy f vd vx
  have D0 : Below w.heap.size w w := Below.refl _ _
  go_enter Tryd.func8, Tryd.ntmps8
  go_wp2_with fail
  refine (head_any _ HENV.out).mono ?_
  rintro e w1 ⟨rfl, hb⟩
  have D1 := D0.trans (hb.mono D0.size)
  clear hb D0
  go_wp2_with fail
  refine (few_lit3 _ d x y Hd.out Hx.out Hy.out).mono ?_
  rintro e w2 ⟨rfl, hb⟩
  have D2 := D1.trans (hb.mono D1.size)
  clear hb D1
  simp only [F.out]
  go_wp2_with fail
  refine (cVal _ Vd.out).mono ?_
  rintro e w3 ⟨rfl, hb⟩
  have D3 := D2.trans (hb.mono D2.size)
  clear hb D2
  go_wp2_with fail
  refine (cVal _ Vx.out).mono ?_
  rintro e w4 ⟨rfl, hb⟩
  have D4 := D3.trans (hb.mono D3.size)
  clear hb D3
  go_wp2_with fail
  go_ret
  exact ⟨rfl, D4⟩
set_option maxRecDepth 100000 in
set_option maxHeartbeats 4000000 in
theorem gcd_bad2 (d x y : ByteArray) (w : World) (henv : Env w) (hd : d.size ≤ maxLen) (hx : x.size ≤ maxLen) (hy : y.size ≤ maxLen) (f : few80 [d, x, y] = true) (ld : ¬ 40 < d.size) (lx : ¬ 40 < x.size) (ly : ¬ 40 < y.size) (vd : validB d = true) (vx : validB x = true) (vy : validB y = false) :
    Calls Tryd.prog 8 #[.string d, .string x, .string y] w fun e w' => e = .returned (.bool true) ∧ Below w.heap.size w w' := by
  have HENV := Lib.hid henv
  clear henv
  have Hd := Lib.hid hd
  have Hx := Lib.hid hx
  have Hy := Lib.hid hy
  have F := Lib.hid f
  have td : decide (40 < d.size) = false := decide_eq_false ld
  have tx : decide (40 < x.size) = false := decide_eq_false lx
  have ty : decide (40 < y.size) = false := decide_eq_false ly
  have Vd := Lib.hid vd
  have Vx := Lib.hid vx
  have Vy := Lib.hid vy
  clear hd hx hy f vd vx vy
  have D0 : Below w.heap.size w w := Below.refl _ _
  go_enter Tryd.func8, Tryd.ntmps8
  go_wp2_with fail
  refine (head_any _ HENV.out).mono ?_
  rintro e w1 ⟨rfl, hb⟩
  have D1 := D0.trans (hb.mono D0.size)
  clear hb D0
  go_wp2_with fail
  refine (few_lit3 _ d x y Hd.out Hx.out Hy.out).mono ?_
  rintro e w2 ⟨rfl, hb⟩
  have D2 := D1.trans (hb.mono D1.size)
  clear hb D1
  simp only [F.out]
  go_wp2_with fail
  refine (cVal _ Vd.out).mono ?_
  rintro e w3 ⟨rfl, hb⟩
  have D3 := D2.trans (hb.mono D2.size)
  clear hb D2
  go_wp2_with fail
  refine (cVal _ Vx.out).mono ?_
  rintro e w4 ⟨rfl, hb⟩
  have D4 := D3.trans (hb.mono D3.size)
  clear hb D3
  go_wp2_with fail
  refine (cVal _ Vy.out).mono ?_
  rintro e w5 ⟨rfl, hb⟩
  have D5 := D4.trans (hb.mono D4.size)
  clear hb D4
  go_wp2_with fail
  go_ret
  exact ⟨rfl, D5⟩
set_option maxRecDepth 100000 in
set_option maxHeartbeats 4000000 in
theorem gcd_zero (u x y : Nat) (w : World) (henv : Env w) (hu : u < 10 ^ 40) (hx : x < 10 ^ 40) (hy : y < 10 ^ 40) (h0 : Nat.gcd x y = 0) :
    Calls Tryd.prog 8 #[.string (nS u), .string (nS x), .string (nS y)] w fun e w' => e = .returned (.bool true) ∧ Below w.heap.size w w' := by
  have HENV := Lib.hid henv
  clear henv
  obtain ⟨g, eg⟩ : ∃ k, Nat.gcd x y = k := ⟨_, rfl⟩
  have Eg := Lib.hid eg
  have Sg : Hid (Small g) := Lib.hid (by rw [← eg]; exact small_of (gcd_lt hx hy) (by omega) (by omega))
  obtain ⟨dx, edx⟩ : ∃ k, u * x = k := ⟨_, rfl⟩
  have Edx := Lib.hid edx
  have Sdx : Hid (Small dx) := Lib.hid (by rw [← edx]; exact small_of (prod_lt hu hx) (by omega) (by omega))
  obtain ⟨dy, edy⟩ : ∃ k, u * y = k := ⟨_, rfl⟩
  have Edy := Lib.hid edy
  have Sdy : Hid (Small dy) := Lib.hid (by rw [← edy]; exact small_of (prod_lt hu hy) (by omega) (by omega))
  have hg : g < 10 ^ 40 := by rw [← eg]; exact gcd_lt hx hy
  obtain ⟨dg, edg⟩ : ∃ k, u * g = k := ⟨_, rfl⟩
  have Edg := Lib.hid edg
  have Sdg : Hid (Small dg) := Lib.hid (by rw [← edg]; exact small_of (prod_lt hu hg) (by omega) (by omega))
  have EB : Hid (Nat.gcd dx dy = dg) := Lib.hid (by rw [← edx, ← edy, Nat.gcd_mul_left, eg, edg])
  have Zg : ((nS g).toList == [48]) = true := by rw [zero_num]; exact decide_eq_true (by rw [← eg]; exact h0)
  have Zx : ((nS x).toList == [48]) = true := by rw [zero_num]; exact decide_eq_true (Nat.eq_zero_of_gcd_eq_zero_left h0)
  have Zy : ((nS y).toList == [48]) = true := by rw [zero_num]; exact decide_eq_true (Nat.eq_zero_of_gcd_eq_zero_right h0)
  clear h0
  have Su := Lib.hid (small_of hu (by omega) (by omega))
  have Tu : (nS u).size ≤ 40 := (nS_size (by omega)).2 hu
  have tu : decide (40 < (nS u).size) = false := decide_eq_false (by omega)
  have tiu : decide ((40 : Int) < ((nS u).size : Int)) = false := decide_eq_false (by omega)
  have Nu : Hid ((nS u).size ≤ 80) := Lib.hid (by omega)
  have Sx := Lib.hid (small_of hx (by omega) (by omega))
  have Tx : (nS x).size ≤ 40 := (nS_size (by omega)).2 hx
  have tx : decide (40 < (nS x).size) = false := decide_eq_false (by omega)
  have tix : decide ((40 : Int) < ((nS x).size : Int)) = false := decide_eq_false (by omega)
  have Nx : Hid ((nS x).size ≤ 80) := Lib.hid (by omega)
  have Sy := Lib.hid (small_of hy (by omega) (by omega))
  have Ty : (nS y).size ≤ 40 := (nS_size (by omega)).2 hy
  have ty : decide (40 < (nS y).size) = false := decide_eq_false (by omega)
  have tiy : decide ((40 : Int) < ((nS y).size : Int)) = false := decide_eq_false (by omega)
  have Ny : Hid ((nS y).size ≤ 80) := Lib.hid (by omega)
  clear hu hx hy hg eg edx edy edg Tu Tx Ty
  have D0 : Below w.heap.size w w := Below.refl _ _
  have FW : Hid (few80 [nS u, nS x, nS y] = true) := Lib.hid (by simp only [few80, List.all_cons, List.all_nil, decide_eq_true Nu.out, decide_eq_true Nx.out, decide_eq_true Ny.out]; rfl)
  go_enter Tryd.func8, Tryd.ntmps8
  go_wp2_with fail
  refine (head_any _ HENV.out).mono ?_
  rintro e w1 ⟨rfl, hb⟩
  have D1 := D0.trans (hb.mono D0.size)
  clear hb D0
  go_wp2_with fail
  refine (few_lit3 _ (nS u) (nS x) (nS y) (by have := Nu.out; unfold maxLen; omega) (by have := Nx.out; unfold maxLen; omega) (by have := Ny.out; unfold maxLen; omega)).mono ?_
  rintro e w2 ⟨rfl, hb⟩
  have D2 := D1.trans (hb.mono D1.size)
  clear hb D1
  simp only [FW.out]
  go_wp2_with fail
  refine (cVal _ (small_valid Su.out)).mono ?_
  rintro e w3 ⟨rfl, hb⟩
  have D3 := D2.trans (hb.mono D2.size)
  clear hb D2
  go_wp2_with fail
  refine (cVal _ (small_valid Sx.out)).mono ?_
  rintro e w4 ⟨rfl, hb⟩
  have D4 := D3.trans (hb.mono D3.size)
  clear hb D3
  go_wp2_with fail
  refine (cVal _ (small_valid Sy.out)).mono ?_
  rintro e w5 ⟨rfl, hb⟩
  have D5 := D4.trans (hb.mono D4.size)
  clear hb D4
  go_wp2_with fail
  refine (cGcd _ Sx.out Sy.out Eg.out).mono ?_
  rintro e w6 ⟨rfl, hb⟩
  have D6 := D5.trans (hb.mono D5.size)
  clear hb D5
  go_wp2_with fail
  refine (cMul _ Su.out Sx.out Sdx.out Edx.out).mono ?_
  rintro e w7 ⟨rfl, hb⟩
  have D7 := D6.trans (hb.mono D6.size)
  clear hb D6
  go_wp2_with fail
  refine (cMul _ Su.out Sy.out Sdy.out Edy.out).mono ?_
  rintro e w8 ⟨rfl, hb⟩
  have D8 := D7.trans (hb.mono D7.size)
  clear hb D7
  go_wp2_with fail
  refine (cMul _ Su.out Sg.out Sdg.out Edg.out).mono ?_
  rintro e w9 ⟨rfl, hb⟩
  have D9 := D8.trans (hb.mono D8.size)
  clear hb D8
  go_wp2_with fail
  refine (cGcd _ Sdx.out Sdy.out EB.out).mono ?_
  rintro e w10 ⟨rfl, hb⟩
  have D10 := D9.trans (hb.mono D9.size)
  clear hb D9
  go_wp2_with fail
  go_ret
  exact ⟨by simp, D10⟩
set_option maxRecDepth 100000 in
set_option maxHeartbeats 4000000 in
theorem gcd_pos (u x y : Nat) (w : World) (henv : Env w) (hu : u < 10 ^ 40) (hx : x < 10 ^ 40) (hy : y < 10 ^ 40) (h0 : 0 < Nat.gcd x y) :
    Calls Tryd.prog 8 #[.string (nS u), .string (nS x), .string (nS y)] w fun e w' => e = .returned (.bool true) ∧ Below w.heap.size w w' := by
  have HENV := Lib.hid henv
  clear henv
  obtain ⟨g, eg⟩ : ∃ k, Nat.gcd x y = k := ⟨_, rfl⟩
  have Eg := Lib.hid eg
  have Sg : Hid (Small g) := Lib.hid (by rw [← eg]; exact small_of (gcd_lt hx hy) (by omega) (by omega))
  obtain ⟨dx, edx⟩ : ∃ k, u * x = k := ⟨_, rfl⟩
  have Edx := Lib.hid edx
  have Sdx : Hid (Small dx) := Lib.hid (by rw [← edx]; exact small_of (prod_lt hu hx) (by omega) (by omega))
  obtain ⟨dy, edy⟩ : ∃ k, u * y = k := ⟨_, rfl⟩
  have Edy := Lib.hid edy
  have Sdy : Hid (Small dy) := Lib.hid (by rw [← edy]; exact small_of (prod_lt hu hy) (by omega) (by omega))
  have hg : g < 10 ^ 40 := by rw [← eg]; exact gcd_lt hx hy
  obtain ⟨dg, edg⟩ : ∃ k, u * g = k := ⟨_, rfl⟩
  have Edg := Lib.hid edg
  have Sdg : Hid (Small dg) := Lib.hid (by rw [← edg]; exact small_of (prod_lt hu hg) (by omega) (by omega))
  have EB : Hid (Nat.gcd dx dy = dg) := Lib.hid (by rw [← edx, ← edy, Nat.gcd_mul_left, eg, edg])
  have G0 : Hid (0 < g) := Lib.hid (by rw [← eg]; exact h0)
  have Zg : ((nS g).toList == [48]) = false := by rw [zero_num]; exact decide_eq_false (by have := G0.out; omega)
  have Zz : ((nS 0).toList == [48]) = true := by rw [zero_num]; rfl
  have Mx : Hid (x % g = 0) := Lib.hid (Nat.mod_eq_zero_of_dvd (by rw [← eg]; exact Nat.gcd_dvd_left x y))
  have My : Hid (y % g = 0) := Lib.hid (Nat.mod_eq_zero_of_dvd (by rw [← eg]; exact Nat.gcd_dvd_right x y))
  clear h0
  have Su := Lib.hid (small_of hu (by omega) (by omega))
  have Tu : (nS u).size ≤ 40 := (nS_size (by omega)).2 hu
  have tu : decide (40 < (nS u).size) = false := decide_eq_false (by omega)
  have tiu : decide ((40 : Int) < ((nS u).size : Int)) = false := decide_eq_false (by omega)
  have Nu : Hid ((nS u).size ≤ 80) := Lib.hid (by omega)
  have Sx := Lib.hid (small_of hx (by omega) (by omega))
  have Tx : (nS x).size ≤ 40 := (nS_size (by omega)).2 hx
  have tx : decide (40 < (nS x).size) = false := decide_eq_false (by omega)
  have tix : decide ((40 : Int) < ((nS x).size : Int)) = false := decide_eq_false (by omega)
  have Nx : Hid ((nS x).size ≤ 80) := Lib.hid (by omega)
  have Sy := Lib.hid (small_of hy (by omega) (by omega))
  have Ty : (nS y).size ≤ 40 := (nS_size (by omega)).2 hy
  have ty : decide (40 < (nS y).size) = false := decide_eq_false (by omega)
  have tiy : decide ((40 : Int) < ((nS y).size : Int)) = false := decide_eq_false (by omega)
  have Ny : Hid ((nS y).size ≤ 80) := Lib.hid (by omega)
  clear hu hx hy hg eg edx edy edg Tu Tx Ty
  have D0 : Below w.heap.size w w := Below.refl _ _
  have FW : Hid (few80 [nS u, nS x, nS y] = true) := Lib.hid (by simp only [few80, List.all_cons, List.all_nil, decide_eq_true Nu.out, decide_eq_true Nx.out, decide_eq_true Ny.out]; rfl)
  go_enter Tryd.func8, Tryd.ntmps8
  go_wp2_with fail
  refine (head_any _ HENV.out).mono ?_
  rintro e w1 ⟨rfl, hb⟩
  have D1 := D0.trans (hb.mono D0.size)
  clear hb D0
  go_wp2_with fail
  refine (few_lit3 _ (nS u) (nS x) (nS y) (by have := Nu.out; unfold maxLen; omega) (by have := Nx.out; unfold maxLen; omega) (by have := Ny.out; unfold maxLen; omega)).mono ?_
  rintro e w2 ⟨rfl, hb⟩
  have D2 := D1.trans (hb.mono D1.size)
  clear hb D1
  simp only [FW.out]
  go_wp2_with fail
  refine (cVal _ (small_valid Su.out)).mono ?_
  rintro e w3 ⟨rfl, hb⟩
  have D3 := D2.trans (hb.mono D2.size)
  clear hb D2
  go_wp2_with fail
  refine (cVal _ (small_valid Sx.out)).mono ?_
  rintro e w4 ⟨rfl, hb⟩
  have D4 := D3.trans (hb.mono D3.size)
  clear hb D3
  go_wp2_with fail
  refine (cVal _ (small_valid Sy.out)).mono ?_
  rintro e w5 ⟨rfl, hb⟩
  have D5 := D4.trans (hb.mono D4.size)
  clear hb D4
  go_wp2_with fail
  refine (cGcd _ Sx.out Sy.out Eg.out).mono ?_
  rintro e w6 ⟨rfl, hb⟩
  have D6 := D5.trans (hb.mono D5.size)
  clear hb D5
  go_wp2_with fail
  refine (cMul _ Su.out Sx.out Sdx.out Edx.out).mono ?_
  rintro e w7 ⟨rfl, hb⟩
  have D7 := D6.trans (hb.mono D6.size)
  clear hb D6
  go_wp2_with fail
  refine (cMul _ Su.out Sy.out Sdy.out Edy.out).mono ?_
  rintro e w8 ⟨rfl, hb⟩
  have D8 := D7.trans (hb.mono D7.size)
  clear hb D7
  go_wp2_with fail
  refine (cMul _ Su.out Sg.out Sdg.out Edg.out).mono ?_
  rintro e w9 ⟨rfl, hb⟩
  have D9 := D8.trans (hb.mono D8.size)
  clear hb D8
  go_wp2_with fail
  refine (cGcd _ Sdx.out Sdy.out EB.out).mono ?_
  rintro e w10 ⟨rfl, hb⟩
  have D10 := D9.trans (hb.mono D9.size)
  clear hb D9
  go_wp2_with fail
  refine (cDiv _ Sx.out Sg.out G0.out rfl Mx.out).mono ?_
  rintro e w11 ⟨rfl, hb⟩
  have D11 := D10.trans (hb.mono D10.size)
  clear hb D10
  go_wp2_with fail
  refine (cDiv _ Sy.out Sg.out G0.out rfl My.out).mono ?_
  rintro e w12 ⟨rfl, hb⟩
  have D12 := D11.trans (hb.mono D11.size)
  clear hb D11
  go_wp2_with fail
  go_ret
  exact ⟨by simp, D12⟩
theorem walkNaturalGcd (d x y : ByteArray) (w : World) (henv : Env w) (hd : d.size ≤ maxLen) (hx : x.size ≤ maxLen) (hy : y.size ≤ maxLen) :
    Calls Tryd.prog 8 #[.string d, .string x, .string y] w fun e w' => e = .returned (.bool true) ∧ Below w.heap.size w w' := by
  cases f : few80 [d, x, y] with
  | false => exact gcd_out d x y w henv hd hx hy f
  | true =>
    by_cases ld : 40 < d.size
    · exact gcd_long0 d x y w henv hd hx hy f ld
    · by_cases lx : 40 < x.size
      · exact gcd_long1 d x y w henv hd hx hy f ld lx
      · by_cases ly : 40 < y.size
        · exact gcd_long2 d x y w henv hd hx hy f ld lx ly
        · cases vd : validB d with
          | false => exact gcd_bad0 d x y w henv hd hx hy f ld lx ly vd
          | true =>
            cases vx : validB x with
            | false => exact gcd_bad1 d x y w henv hd hx hy f ld lx ly vd vx
            | true =>
              cases vy : validB y with
              | false => exact gcd_bad2 d x y w henv hd hx hy f ld lx ly vd vx vy
              | true =>
                have ed := nS_of vd
                have ex := nS_of vx
                have ey := nS_of vy
                have kd := (nS_size (n := Dec.val (tl d)) (k := 40) (by omega)).1 (by rw [← ed]; omega)
                have kx := (nS_size (n := Dec.val (tl x)) (k := 40) (by omega)).1 (by rw [← ex]; omega)
                have ky := (nS_size (n := Dec.val (tl y)) (k := 40) (by omega)).1 (by rw [← ey]; omega)
                rw [ed, ex, ey]
                rcases Nat.eq_zero_or_pos (Nat.gcd (Dec.val (tl x)) (Dec.val (tl y))) with c | c
                · exact gcd_zero _ _ _ w henv kd kx ky c
                · exact gcd_pos _ _ _ w henv kd kx ky c
end Go.Proofs.YtfkdhkbegfbkaaaDoor
