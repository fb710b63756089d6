/-
  The walk of NaturalForms.
-/
import Derived.Test.YtfkdhkbegfbkaaaDoorNatWGcd
set_option linter.unusedVariables false
set_option maxRecDepth 100000
namespace Go.Proofs.YtfkdhkbegfbkaaaDoor
open Go.RowKit
theorem low_num {x i : Nat} (h : (nS x).size = i + 2) : 10 ^ (i + 1) ≤ x := by
  rcases Nat.lt_or_ge x (10 ^ (i + 1)) with h' | h'
  · have := (nS_size (n := x) (k := i + 1) (by omega)).2 h'; omega
  · exact h'
theorem low_any {x : Nat} (h : 0 < x) : 10 ^ ((nS x).size - 1) ≤ x := by
  have hp := nS_pos x
  rcases Nat.lt_or_ge (nS x).size 2 with h' | h'
  · rw [show (nS x).size - 1 = 0 by omega]; omega
  · obtain ⟨i, hi⟩ : ∃ i, (nS x).size = i + 2 := ⟨(nS x).size - 2, by omega⟩
    rw [hi]; exact low_num hi
theorem prod_size {x y : Nat} (hx : 0 < x) (hy : 0 < y) : (nS (x * y)).size = (nS x).size + (nS y).size ∨ (nS (x * y)).size + 1 = (nS x).size + (nS y).size := by
  have px := nS_pos x
  have py := nS_pos y
  have pp := nS_pos (x * y)
  have ux := (nS_size (n := x) px).1 (Nat.le_refl _)
  have uy := (nS_size (n := y) py).1 (Nat.le_refl _)
  have up := (nS_size (n := x * y) (k := (nS x).size + (nS y).size) (by omega)).2 (prod_lt ux uy)
  have lo : 10 ^ ((nS x).size - 1 + ((nS y).size - 1)) ≤ x * y := by
    rw [Nat.pow_add]; exact Nat.mul_le_mul (low_any hx) (low_any hy)
  have : (nS x).size - 1 + ((nS y).size - 1) < (nS (x * y)).size := by
    rcases Nat.eq_zero_or_pos ((nS x).size - 1 + ((nS y).size - 1)) with h | h
    · omega
    · rcases Nat.lt_or_ge ((nS x).size - 1 + ((nS y).size - 1)) (nS (x * y)).size with h' | h'
      · exact h'
      · have := (nS_size (n := x * y) h).1 h'; omega
  omega
theorem bad_add {a b : ByteArray} (h : (validB a && validB b) = false) : addR a b = (⟨#[]⟩, 1) := by unfold addR; rw [h]; rfl
theorem bad_sub {a b : ByteArray} (h : (validB a && validB b) = false) : subR a b = (⟨#[]⟩, 1) := by unfold subR; rw [h]; rfl
theorem bad_mul {a b : ByteArray} (h : (validB a && validB b) = false) : mulR a b = (⟨#[]⟩, 1) := by unfold mulR; rw [h]; rfl
theorem bad_gcd {a b : ByteArray} (h : (validB a && validB b) = false) : gcdR a b = (⟨#[]⟩, 1) := by unfold gcdR; rw [h]; rfl
theorem bad_div {a b : ByteArray} (h : (validB a && validB b) = false) : divR a b = (⟨#[]⟩, ⟨#[]⟩, 1) := by unfold divR; rw [h]; rfl
theorem cDiv0 {x y : Nat} (w : World) (hx : Small x) (hy : Small y) (h : y = 0) : Calls Tryd.prog 19 #[.string (nS x), .string (nS y)] w fun e w' => e = .returned (.tuple #[.string ⟨#[]⟩, .string ⟨#[]⟩, .int .i64 14]) ∧ Below w.heap.size w w' := by
  have := pDiv_any (nS x) (nS y) w
  rw [divR_zero (small_valid hx) (small_valid hy) (by rw [val_nS]; exact h)] at this; exact this
set_option maxRecDepth 100000 in
set_option maxHeartbeats 4000000 in
theorem form_out (a b : ByteArray) (w : World) (henv : Env w) (ha : a.size ≤ maxLen) (hb : b.size ≤ maxLen) (f : few80 [a, b] = false) :
    Calls Tryd.prog 10 #[.string a, .string b] w fun e w' => e = .returned (.bool true) ∧ Below w.heap.size w w' := by
  have HENV := Lib.hid henv
  clear henv
  have Ha := Lib.hid ha
  have Hb := Lib.hid hb
  have F := Lib.hid f
  clear ha hb f
  have D0 : Below w.heap.size w w := Below.refl _ _
  go_enter Tryd.func10, Tryd.ntmps10
  go_wp2_with fail
  refine (head_any _ HENV.out).mono ?_
  rintro e w1 ⟨rfl, hb⟩
  have D1 := D0.trans (hb.mono D0.size)
  clear hb D0
  go_wp2_with fail
  refine (few_lit2 _ a b Ha.out Hb.out).mono ?_
  rintro e w2 ⟨rfl, hb⟩
  have D2 := D1.trans (hb.mono D1.size)
  clear hb D1
  simp only [F.out]
  go_wp2_with fail
  go_ret
  exact ⟨rfl, D2⟩
set_option maxRecDepth 100000 in
set_option maxHeartbeats 4000000 in
theorem form_bad0 (a b : ByteArray) (w : World) (henv : Env w) (ha : a.size ≤ maxLen) (hb : b.size ≤ maxLen) (f : few80 [a, b] = true) (va : validB a = false) :
    Calls Tryd.prog 10 #[.string a, .string b] w fun e w' => e = .returned (.bool true) ∧ Below w.heap.size w w' := by
  have HENV := Lib.hid henv
  clear henv
  have Ha := Lib.hid ha
  have Hb := Lib.hid hb
  have F := Lib.hid f
  have V : Hid ((validB a && validB b) = false) := Lib.hid (by rw [va]; rfl)
  have VA := Lib.hid va
  clear ha hb f va
  have D0 : Below w.heap.size w w := Below.refl _ _
  go_enter Tryd.func10, Tryd.ntmps10
  go_wp2_with fail
  refine (head_any _ HENV.out).mono ?_
  rintro e w1 ⟨rfl, hb⟩
  have D1 := D0.trans (hb.mono D0.size)
  clear hb D0
  go_wp2_with fail
  refine (few_lit2 _ a b Ha.out Hb.out).mono ?_
  rintro e w2 ⟨rfl, hb⟩
  have D2 := D1.trans (hb.mono D1.size)
  clear hb D1
  simp only [F.out]
  go_wp2_with fail
  refine (pAdd_any a b _).mono ?_
  rintro e w3 ⟨rfl, hb⟩
  have D3 := D2.trans (hb.mono D2.size)
  clear hb D2
  simp only [bad_add V.out]
  go_wp2_with fail
  refine (pSub_any a b _).mono ?_
  rintro e w4 ⟨rfl, hb⟩
  have D4 := D3.trans (hb.mono D3.size)
  clear hb D3
  simp only [bad_sub V.out]
  go_wp2_with fail
  refine (pMul_any a b _).mono ?_
  rintro e w5 ⟨rfl, hb⟩
  have D5 := D4.trans (hb.mono D4.size)
  clear hb D4
  simp only [bad_mul V.out]
  go_wp2_with fail
  refine (pDiv_any a b _).mono ?_
  rintro e w6 ⟨rfl, hb⟩
  have D6 := D5.trans (hb.mono D5.size)
  clear hb D5
  simp only [bad_div V.out]
  go_wp2_with fail
  refine (pGcd_any a b _).mono ?_
  rintro e w7 ⟨rfl, hb⟩
  have D7 := D6.trans (hb.mono D6.size)
  clear hb D6
  simp only [bad_gcd V.out]
  go_wp2_with fail
  refine (cVal _ VA.out).mono ?_
  rintro e w8 ⟨rfl, hb⟩
  have D8 := D7.trans (hb.mono D7.size)
  clear hb D7
  go_wp2_with fail
  · first | (rename_i h _; cases h; done) | (rename_i h _ _ _; cases h; done)
  · first | (rename_i h _ _ _; cases h; done) | (rename_i h _; cases h; done)
  go_ret
  exact ⟨by simp, D8⟩
set_option maxRecDepth 100000 in
set_option maxHeartbeats 4000000 in
theorem form_bad1 (a b : ByteArray) (w : World) (henv : Env w) (ha : a.size ≤ maxLen) (hb : b.size ≤ maxLen) (f : few80 [a, b] = true) (va : validB a = true) (vb : validB b = false) :
    Calls Tryd.prog 10 #[.string a, .string b] w fun e w' => e = .returned (.bool true) ∧ Below w.heap.size w w' := by
  have HENV := Lib.hid henv
  clear henv
  have Ha := Lib.hid ha
  have Hb := Lib.hid hb
  have F := Lib.hid f
  have V : Hid ((validB a && validB b) = false) := Lib.hid (by rw [va, vb]; rfl)
  have VA := Lib.hid va
  have VB := Lib.hid vb
  clear ha hb f va vb
  have D0 : Below w.heap.size w w := Below.refl _ _
  go_enter Tryd.func10, Tryd.ntmps10
  go_wp2_with fail
  refine (head_any _ HENV.out).mono ?_
  rintro e w1 ⟨rfl, hb⟩
  have D1 := D0.trans (hb.mono D0.size)
  clear hb D0
  go_wp2_with fail
  refine (few_lit2 _ a b Ha.out Hb.out).mono ?_
  rintro e w2 ⟨rfl, hb⟩
  have D2 := D1.trans (hb.mono D1.size)
  clear hb D1
  simp only [F.out]
  go_wp2_with fail
  refine (pAdd_any a b _).mono ?_
  rintro e w3 ⟨rfl, hb⟩
  have D3 := D2.trans (hb.mono D2.size)
  clear hb D2
  simp only [bad_add V.out]
  go_wp2_with fail
  refine (pSub_any a b _).mono ?_
  rintro e w4 ⟨rfl, hb⟩
  have D4 := D3.trans (hb.mono D3.size)
  clear hb D3
  simp only [bad_sub V.out]
  go_wp2_with fail
  refine (pMul_any a b _).mono ?_
  rintro e w5 ⟨rfl, hb⟩
  have D5 := D4.trans (hb.mono D4.size)
  clear hb D4
  simp only [bad_mul V.out]
  go_wp2_with fail
  refine (pDiv_any a b _).mono ?_
  rintro e w6 ⟨rfl, hb⟩
  have D6 := D5.trans (hb.mono D5.size)
  clear hb D5
  simp only [bad_div V.out]
  go_wp2_with fail
  refine (pGcd_any a b _).mono ?_
  rintro e w7 ⟨rfl, hb⟩
  have D7 := D6.trans (hb.mono D6.size)
  clear hb D6
  simp only [bad_gcd V.out]
  go_wp2_with fail
  refine (cVal _ VA.out).mono ?_
  rintro e w8 ⟨rfl, hb⟩
  have D8 := D7.trans (hb.mono D7.size)
  clear hb D7
  go_wp2_with fail
  refine (cVal _ VB.out).mono ?_
  rintro e w9 ⟨rfl, hb⟩
  have D9 := D8.trans (hb.mono D8.size)
  clear hb D8
  go_wp2_with fail
  · first | (rename_i h _; cases h; done) | (rename_i h _ _ _; cases h; done)
  · first | (rename_i h _ _ _; cases h; done) | (rename_i h _; cases h; done)
  go_ret
  exact ⟨by simp, D9⟩
set_option maxRecDepth 100000 in
set_option maxHeartbeats 4000000 in
theorem form_y0 (x y : Nat) (w : World) (henv : Env w) (hx : x < 10 ^ 80) (hy : y < 10 ^ 80) (hy0 : y = 0) :
    Calls Tryd.prog 10 #[.string (nS x), .string (nS y)] w fun e w' => e = .returned (.bool true) ∧ Below w.heap.size w w' := by
  have HENV := Lib.hid henv
  clear henv
  obtain ⟨s, es⟩ : ∃ k, x + y = k := ⟨_, rfl⟩
  have Es := Lib.hid es
  have Ss : Hid (Small s) := Lib.hid (by rw [← es]; exact small_of (sum_lt hx hy) (by omega) (by omega))
  obtain ⟨p, ep⟩ : ∃ k, x * y = k := ⟨_, rfl⟩
  have Ep := Lib.hid ep
  have Sp : Hid (Small p) := Lib.hid (by rw [← ep]; exact small_of (prod_lt hx hy) (by omega) (by omega))
  obtain ⟨g, eg⟩ : ∃ k, Nat.gcd x y = k := ⟨_, rfl⟩
  have Eg := Lib.hid eg
  have Sg : Hid (Small g) := Lib.hid (by rw [← eg]; exact small_of (gcd_lt hx hy) (by omega) (by omega))
  obtain ⟨d, ed⟩ : ∃ k, y + k = x := ⟨x - y, by omega⟩
  have Ed := Lib.hid ed
  have Sd : Hid (Small d) := Lib.hid (small_of (k := 80) (by omega) (by omega) (by omega))
  clear ed
  have Y0 := Lib.hid hy0
  have Zy : ((nS y).toList == [48]) = true := by rw [zero_num]; exact decide_eq_true (hy0)
  clear hy0
  have Sx := Lib.hid (small_of hx (by omega) (by omega))
  have Tx := (nS_size (by omega)).2 hx
  have Nx : Hid ((nS x).size ≤ 80) := Lib.hid Tx
  have Sy := Lib.hid (small_of hy (by omega) (by omega))
  have Ty := (nS_size (by omega)).2 hy
  have Ny : Hid ((nS y).size ≤ 80) := Lib.hid Ty
  have W1 : IntKind.i64.wrap (((nS x).size : Int) + ((nS y).size : Int)) = ((nS x).size : Int) + ((nS y).size : Int) := IntWalk.i64_in _ (by omega)
  have W2 : IntKind.i64.wrap (((nS x).size : Int) + ((nS y).size : Int) - 1) = ((nS x).size : Int) + ((nS y).size : Int) - 1 := IntWalk.i64_in _ (by omega)
  clear hx hy es ep eg Tx Ty
  have D0 : Below w.heap.size w w := Below.refl _ _
  have FW : Hid (few80 [nS x, nS y] = true) := Lib.hid (by simp only [few80, List.all_cons, List.all_nil, decide_eq_true Nx.out, decide_eq_true Ny.out]; rfl)
  go_enter Tryd.func10, Tryd.ntmps10
  go_wp2_with fail
  refine (head_any _ HENV.out).mono ?_
  rintro e w1 ⟨rfl, hb⟩
  have D1 := D0.trans (hb.mono D0.size)
  clear hb D0
  go_wp2_with fail
  refine (few_lit2 _ (nS x) (nS y) (by have := Nx.out; unfold maxLen; omega) (by have := Ny.out; unfold maxLen; omega)).mono ?_
  rintro e w2 ⟨rfl, hb⟩
  have D2 := D1.trans (hb.mono D1.size)
  clear hb D1
  simp only [FW.out]
  go_wp2_with fail
  refine (cAdd _ Sx.out Sy.out Ss.out Es.out).mono ?_
  rintro e w3 ⟨rfl, hb⟩
  have D3 := D2.trans (hb.mono D2.size)
  clear hb D2
  go_wp2_with fail
  refine (cSub _ Sx.out Sy.out Ed.out).mono ?_
  rintro e w4 ⟨rfl, hb⟩
  have D4 := D3.trans (hb.mono D3.size)
  clear hb D3
  go_wp2_with fail
  refine (cMul _ Sx.out Sy.out Sp.out Ep.out).mono ?_
  rintro e w5 ⟨rfl, hb⟩
  have D5 := D4.trans (hb.mono D4.size)
  clear hb D4
  go_wp2_with fail
  refine (cDiv0 _ Sx.out Sy.out Y0.out).mono ?_
  rintro e w6 ⟨rfl, hb⟩
  have D6 := D5.trans (hb.mono D5.size)
  clear hb D5
  go_wp2_with fail
  refine (cGcd _ Sx.out Sy.out Eg.out).mono ?_
  rintro e w7 ⟨rfl, hb⟩
  have D7 := D6.trans (hb.mono D6.size)
  clear hb D6
  go_wp2_with fail
  refine (cVal _ (small_valid Sx.out)).mono ?_
  rintro e w8 ⟨rfl, hb⟩
  have D8 := D7.trans (hb.mono D7.size)
  clear hb D7
  go_wp2_with fail
  refine (cVal _ (small_valid Sy.out)).mono ?_
  rintro e w9 ⟨rfl, hb⟩
  have D9 := D8.trans (hb.mono D8.size)
  clear hb D8
  go_wp2_with fail
  refine (cVal _ (small_valid Ss.out)).mono ?_
  rintro e w10 ⟨rfl, hb⟩
  have D10 := D9.trans (hb.mono D9.size)
  clear hb D9
  go_wp2_with fail
  refine (cVal _ (small_valid Sd.out)).mono ?_
  rintro e w11 ⟨rfl, hb⟩
  have D11 := D10.trans (hb.mono D10.size)
  clear hb D10
  go_wp2_with fail
  refine (cVal _ (small_valid Sp.out)).mono ?_
  rintro e w12 ⟨rfl, hb⟩
  have D12 := D11.trans (hb.mono D11.size)
  clear hb D11
  go_wp2_with fail
  · first | (rename_i h _; cases h; done) | (rename_i h _ _ _; cases h; done)
  · first | (rename_i h _ _ _; cases h; done) | (rename_i h _; cases h; done)
  refine (cVal _ (small_valid Sg.out)).mono ?_
  rintro e w13 ⟨rfl, hb⟩
  have D13 := D12.trans (hb.mono D12.size)
  clear hb D12
  go_wp2_with fail
  all_goals go_ret
  all_goals exact ⟨by simp, D13⟩
set_option maxRecDepth 100000 in
set_option maxHeartbeats 4000000 in
theorem form_x0 (x y : Nat) (w : World) (henv : Env w) (hx : x < 10 ^ 80) (hy : y < 10 ^ 80) (hx0 : x = 0) (hy0 : 0 < y) :
    Calls Tryd.prog 10 #[.string (nS x), .string (nS y)] w fun e w' => e = .returned (.bool true) ∧ Below w.heap.size w w' := by
  have HENV := Lib.hid henv
  clear henv
  obtain ⟨s, es⟩ : ∃ k, x + y = k := ⟨_, rfl⟩
  have Es := Lib.hid es
  have Ss : Hid (Small s) := Lib.hid (by rw [← es]; exact small_of (sum_lt hx hy) (by omega) (by omega))
  obtain ⟨p, ep⟩ : ∃ k, x * y = k := ⟨_, rfl⟩
  have Ep := Lib.hid ep
  have Sp : Hid (Small p) := Lib.hid (by rw [← ep]; exact small_of (prod_lt hx hy) (by omega) (by omega))
  obtain ⟨g, eg⟩ : ∃ k, Nat.gcd x y = k := ⟨_, rfl⟩
  have Eg := Lib.hid eg
  have Sg : Hid (Small g) := Lib.hid (by rw [← eg]; exact small_of (gcd_lt hx hy) (by omega) (by omega))
  have C : Hid (x < y) := Lib.hid (by omega)
  have Y0 := Lib.hid hy0
  obtain ⟨q, eq⟩ : ∃ k, x / y = k := ⟨_, rfl⟩
  obtain ⟨r, er⟩ : ∃ k, x % y = k := ⟨_, rfl⟩
  have Eq := Lib.hid eq
  have Er := Lib.hid er
  have lq : q ≤ x := by rw [← eq]; exact Nat.div_le_self _ _
  have lr : r ≤ x := by rw [← er]; exact Nat.mod_le _ _
  have Sq : Hid (Small q) := Lib.hid (small_of (k := 80) (by omega) (by omega) (by omega))
  have Sr : Hid (Small r) := Lib.hid (small_of (k := 80) (by omega) (by omega) (by omega))
  clear eq er lq lr
  have Zx : ((nS x).toList == [48]) = true := by rw [zero_num]; exact decide_eq_true (hx0)
  clear hx0 hy0
  have Sx := Lib.hid (small_of hx (by omega) (by omega))
  have Tx := (nS_size (by omega)).2 hx
  have Nx : Hid ((nS x).size ≤ 80) := Lib.hid Tx
  have Sy := Lib.hid (small_of hy (by omega) (by omega))
  have Ty := (nS_size (by omega)).2 hy
  have Ny : Hid ((nS y).size ≤ 80) := Lib.hid Ty
  have W1 : IntKind.i64.wrap (((nS x).size : Int) + ((nS y).size : Int)) = ((nS x).size : Int) + ((nS y).size : Int) := IntWalk.i64_in _ (by omega)
  have W2 : IntKind.i64.wrap (((nS x).size : Int) + ((nS y).size : Int) - 1) = ((nS x).size : Int) + ((nS y).size : Int) - 1 := IntWalk.i64_in _ (by omega)
  clear hx hy es ep eg Tx Ty
  have D0 : Below w.heap.size w w := Below.refl _ _
  have FW : Hid (few80 [nS x, nS y] = true) := Lib.hid (by simp only [few80, List.all_cons, List.all_nil, decide_eq_true Nx.out, decide_eq_true Ny.out]; rfl)
  go_enter Tryd.func10, Tryd.ntmps10
  go_wp2_with fail
  refine (head_any _ HENV.out).mono ?_
  rintro e w1 ⟨rfl, hb⟩
  have D1 := D0.trans (hb.mono D0.size)
  clear hb D0
  go_wp2_with fail
  refine (few_lit2 _ (nS x) (nS y) (by have := Nx.out; unfold maxLen; omega) (by have := Ny.out; unfold maxLen; omega)).mono ?_
  rintro e w2 ⟨rfl, hb⟩
  have D2 := D1.trans (hb.mono D1.size)
  clear hb D1
  simp only [FW.out]
  go_wp2_with fail
  refine (cAdd _ Sx.out Sy.out Ss.out Es.out).mono ?_
  rintro e w3 ⟨rfl, hb⟩
  have D3 := D2.trans (hb.mono D2.size)
  clear hb D2
  go_wp2_with fail
  refine (cSub_less _ Sx.out Sy.out C.out).mono ?_
  rintro e w4 ⟨rfl, hb⟩
  have D4 := D3.trans (hb.mono D3.size)
  clear hb D3
  go_wp2_with fail
  refine (cMul _ Sx.out Sy.out Sp.out Ep.out).mono ?_
  rintro e w5 ⟨rfl, hb⟩
  have D5 := D4.trans (hb.mono D4.size)
  clear hb D4
  go_wp2_with fail
  refine (cDiv _ Sx.out Sy.out Y0.out Eq.out Er.out).mono ?_
  rintro e w6 ⟨rfl, hb⟩
  have D6 := D5.trans (hb.mono D5.size)
  clear hb D5
  go_wp2_with fail
  refine (cGcd _ Sx.out Sy.out Eg.out).mono ?_
  rintro e w7 ⟨rfl, hb⟩
  have D7 := D6.trans (hb.mono D6.size)
  clear hb D6
  go_wp2_with fail
  refine (cVal _ (small_valid Sx.out)).mono ?_
  rintro e w8 ⟨rfl, hb⟩
  have D8 := D7.trans (hb.mono D7.size)
  clear hb D7
  go_wp2_with fail
  refine (cVal _ (small_valid Sy.out)).mono ?_
  rintro e w9 ⟨rfl, hb⟩
  have D9 := D8.trans (hb.mono D8.size)
  clear hb D8
  go_wp2_with fail
  refine (cVal _ (small_valid Ss.out)).mono ?_
  rintro e w10 ⟨rfl, hb⟩
  have D10 := D9.trans (hb.mono D9.size)
  clear hb D9
  go_wp2_with fail
  refine (cVal _ (small_valid Sp.out)).mono ?_
  rintro e w11 ⟨rfl, hb⟩
  have D11 := D10.trans (hb.mono D10.size)
  clear hb D10
  go_wp2_with fail
  refine (cVal _ (small_valid Sq.out)).mono ?_
  rintro e w12 ⟨rfl, hb⟩
  have D12 := D11.trans (hb.mono D11.size)
  clear hb D11
  go_wp2_with fail
  refine (cVal _ (small_valid Sr.out)).mono ?_
  rintro e w13 ⟨rfl, hb⟩
  have D13 := D12.trans (hb.mono D12.size)
  clear hb D12
  go_wp2_with fail
  refine (cVal _ (small_valid Sg.out)).mono ?_
  rintro e w14 ⟨rfl, hb⟩
  have D14 := D13.trans (hb.mono D13.size)
  clear hb D13
  go_wp2_with fail
  go_ret
  exact ⟨by simp, D14⟩
set_option maxRecDepth 100000 in
set_option maxHeartbeats 4000000 in
theorem form_lt_full (x y : Nat) (w : World) (henv : Env w) (hx : x < 10 ^ 80) (hy : y < 10 ^ 80) (hx0 : 0 < x) (c : x < y) (h2 : (nS (x * y)).size = (nS x).size + (nS y).size) :
    Calls Tryd.prog 10 #[.string (nS x), .string (nS y)] w fun e w' => e = .returned (.bool true) ∧ Below w.heap.size w w' := by
  have HENV := Lib.hid henv
  clear henv
  obtain ⟨s, es⟩ : ∃ k, x + y = k := ⟨_, rfl⟩
  have Es := Lib.hid es
  have Ss : Hid (Small s) := Lib.hid (by rw [← es]; exact small_of (sum_lt hx hy) (by omega) (by omega))
  obtain ⟨p, ep⟩ : ∃ k, x * y = k := ⟨_, rfl⟩
  have Ep := Lib.hid ep
  have Sp : Hid (Small p) := Lib.hid (by rw [← ep]; exact small_of (prod_lt hx hy) (by omega) (by omega))
  obtain ⟨g, eg⟩ : ∃ k, Nat.gcd x y = k := ⟨_, rfl⟩
  have Eg := Lib.hid eg
  have Sg : Hid (Small g) := Lib.hid (by rw [← eg]; exact small_of (gcd_lt hx hy) (by omega) (by omega))
  have C := Lib.hid c
  have Y0 : Hid (0 < y) := Lib.hid (by omega)
  obtain ⟨q, eq⟩ : ∃ k, x / y = k := ⟨_, rfl⟩
  obtain ⟨r, er⟩ : ∃ k, x % y = k := ⟨_, rfl⟩
  have Eq := Lib.hid eq
  have Er := Lib.hid er
  have lq : q ≤ x := by rw [← eq]; exact Nat.div_le_self _ _
  have lr : r ≤ x := by rw [← er]; exact Nat.mod_le _ _
  have Sq : Hid (Small q) := Lib.hid (small_of (k := 80) (by omega) (by omega) (by omega))
  have Sr : Hid (Small r) := Lib.hid (small_of (k := 80) (by omega) (by omega) (by omega))
  clear eq er lq lr
  have Zx : ((nS x).toList == [48]) = false := by rw [zero_num]; exact decide_eq_false (by omega)
  have Zy : ((nS y).toList == [48]) = false := by rw [zero_num]; exact decide_eq_false (by omega)
  have hs2 := h2
  rw [ep] at hs2
  clear h2
  have Q1 : (((nS p).size : Int) = ((nS x).size : Int) + ((nS y).size : Int)) := by omega
  clear hs2
  clear hx0 c
  have Sx := Lib.hid (small_of hx (by omega) (by omega))
  have Tx := (nS_size (by omega)).2 hx
  have Nx : Hid ((nS x).size ≤ 80) := Lib.hid Tx
  have Sy := Lib.hid (small_of hy (by omega) (by omega))
  have Ty := (nS_size (by omega)).2 hy
  have Ny : Hid ((nS y).size ≤ 80) := Lib.hid Ty
  have W1 : IntKind.i64.wrap (((nS x).size : Int) + ((nS y).size : Int)) = ((nS x).size : Int) + ((nS y).size : Int) := IntWalk.i64_in _ (by omega)
  have W2 : IntKind.i64.wrap (((nS x).size : Int) + ((nS y).size : Int) - 1) = ((nS x).size : Int) + ((nS y).size : Int) - 1 := IntWalk.i64_in _ (by omega)
  clear hx hy es ep eg Tx Ty
  have D0 : Below w.heap.size w w := Below.refl _ _
  have FW : Hid (few80 [nS x, nS y] = true) := Lib.hid (by simp only [few80, List.all_cons, List.all_nil, decide_eq_true Nx.out, decide_eq_true Ny.out]; rfl)
  go_enter Tryd.func10, Tryd.ntmps10
  go_wp2_with fail
  refine (head_any _ HENV.out).mono ?_
  rintro e w1 ⟨rfl, hb⟩
  have D1 := D0.trans (hb.mono D0.size)
  clear hb D0
  go_wp2_with fail
  refine (few_lit2 _ (nS x) (nS y) (by have := Nx.out; unfold maxLen; omega) (by have := Ny.out; unfold maxLen; omega)).mono ?_
  rintro e w2 ⟨rfl, hb⟩
  have D2 := D1.trans (hb.mono D1.size)
  clear hb D1
  simp only [FW.out]
  go_wp2_with fail
  refine (cAdd _ Sx.out Sy.out Ss.out Es.out).mono ?_
  rintro e w3 ⟨rfl, hb⟩
  have D3 := D2.trans (hb.mono D2.size)
  clear hb D2
  go_wp2_with fail
  refine (cSub_less _ Sx.out Sy.out C.out).mono ?_
  rintro e w4 ⟨rfl, hb⟩
  have D4 := D3.trans (hb.mono D3.size)
  clear hb D3
  go_wp2_with fail
  refine (cMul _ Sx.out Sy.out Sp.out Ep.out).mono ?_
  rintro e w5 ⟨rfl, hb⟩
  have D5 := D4.trans (hb.mono D4.size)
  clear hb D4
  go_wp2_with fail
  refine (cDiv _ Sx.out Sy.out Y0.out Eq.out Er.out).mono ?_
  rintro e w6 ⟨rfl, hb⟩
  have D6 := D5.trans (hb.mono D5.size)
  clear hb D5
  go_wp2_with fail
  refine (cGcd _ Sx.out Sy.out Eg.out).mono ?_
  rintro e w7 ⟨rfl, hb⟩
  have D7 := D6.trans (hb.mono D6.size)
  clear hb D6
  go_wp2_with fail
  refine (cVal _ (small_valid Sx.out)).mono ?_
  rintro e w8 ⟨rfl, hb⟩
  have D8 := D7.trans (hb.mono D7.size)
  clear hb D7
  go_wp2_with fail
  refine (cVal _ (small_valid Sy.out)).mono ?_
  rintro e w9 ⟨rfl, hb⟩
  have D9 := D8.trans (hb.mono D8.size)
  clear hb D8
  go_wp2_with fail
  refine (cVal _ (small_valid Ss.out)).mono ?_
  rintro e w10 ⟨rfl, hb⟩
  have D10 := D9.trans (hb.mono D9.size)
  clear hb D9
  go_wp2_with fail
  refine (cVal _ (small_valid Sp.out)).mono ?_
  rintro e w11 ⟨rfl, hb⟩
  have D11 := D10.trans (hb.mono D10.size)
  clear hb D10
  go_wp2_with fail
  refine (cVal _ (small_valid Sq.out)).mono ?_
  rintro e w12 ⟨rfl, hb⟩
  have D12 := D11.trans (hb.mono D11.size)
  clear hb D11
  go_wp2_with fail
  refine (cVal _ (small_valid Sr.out)).mono ?_
  rintro e w13 ⟨rfl, hb⟩
  have D13 := D12.trans (hb.mono D12.size)
  clear hb D12
  go_wp2_with fail
  refine (cVal _ (small_valid Sg.out)).mono ?_
  rintro e w14 ⟨rfl, hb⟩
  have D14 := D13.trans (hb.mono D13.size)
  clear hb D13
  go_wp2_with fail
  go_ret
  exact ⟨by simp, D14⟩
set_option maxRecDepth 100000 in
set_option maxHeartbeats 4000000 in
theorem form_ge_full (x y : Nat) (w : World) (henv : Env w) (hx : x < 10 ^ 80) (hy : y < 10 ^ 80) (hy0 : 0 < y) (c : y ≤ x) (h2 : (nS (x * y)).size = (nS x).size + (nS y).size) :
    Calls Tryd.prog 10 #[.string (nS x), .string (nS y)] w fun e w' => e = .returned (.bool true) ∧ Below w.heap.size w w' := by
  have HENV := Lib.hid henv
  clear henv
  obtain ⟨s, es⟩ : ∃ k, x + y = k := ⟨_, rfl⟩
  have Es := Lib.hid es
  have Ss : Hid (Small s) := Lib.hid (by rw [← es]; exact small_of (sum_lt hx hy) (by omega) (by omega))
  obtain ⟨p, ep⟩ : ∃ k, x * y = k := ⟨_, rfl⟩
  have Ep := Lib.hid ep
  have Sp : Hid (Small p) := Lib.hid (by rw [← ep]; exact small_of (prod_lt hx hy) (by omega) (by omega))
  obtain ⟨g, eg⟩ : ∃ k, Nat.gcd x y = k := ⟨_, rfl⟩
  have Eg := Lib.hid eg
  have Sg : Hid (Small g) := Lib.hid (by rw [← eg]; exact small_of (gcd_lt hx hy) (by omega) (by omega))
  obtain ⟨d, ed⟩ : ∃ k, y + k = x := ⟨x - y, by omega⟩
  have Ed := Lib.hid ed
  have Sd : Hid (Small d) := Lib.hid (small_of (k := 80) (by omega) (by omega) (by omega))
  clear ed
  have Y0 := Lib.hid hy0
  obtain ⟨q, eq⟩ : ∃ k, x / y = k := ⟨_, rfl⟩
  obtain ⟨r, er⟩ : ∃ k, x % y = k := ⟨_, rfl⟩
  have Eq := Lib.hid eq
  have Er := Lib.hid er
  have lq : q ≤ x := by rw [← eq]; exact Nat.div_le_self _ _
  have lr : r ≤ x := by rw [← er]; exact Nat.mod_le _ _
  have Sq : Hid (Small q) := Lib.hid (small_of (k := 80) (by omega) (by omega) (by omega))
  have Sr : Hid (Small r) := Lib.hid (small_of (k := 80) (by omega) (by omega) (by omega))
  clear eq er lq lr
  have Zx : ((nS x).toList == [48]) = false := by rw [zero_num]; exact decide_eq_false (by omega)
  have Zy : ((nS y).toList == [48]) = false := by rw [zero_num]; exact decide_eq_false (by omega)
  have hs2 := h2
  rw [ep] at hs2
  clear h2
  have Q1 : (((nS p).size : Int) = ((nS x).size : Int) + ((nS y).size : Int)) := by omega
  clear hs2
  clear hy0 c
  have Sx := Lib.hid (small_of hx (by omega) (by omega))
  have Tx := (nS_size (by omega)).2 hx
  have Nx : Hid ((nS x).size ≤ 80) := Lib.hid Tx
  have Sy := Lib.hid (small_of hy (by omega) (by omega))
  have Ty := (nS_size (by omega)).2 hy
  have Ny : Hid ((nS y).size ≤ 80) := Lib.hid Ty
  have W1 : IntKind.i64.wrap (((nS x).size : Int) + ((nS y).size : Int)) = ((nS x).size : Int) + ((nS y).size : Int) := IntWalk.i64_in _ (by omega)
  have W2 : IntKind.i64.wrap (((nS x).size : Int) + ((nS y).size : Int) - 1) = ((nS x).size : Int) + ((nS y).size : Int) - 1 := IntWalk.i64_in _ (by omega)
  clear hx hy es ep eg Tx Ty
  have D0 : Below w.heap.size w w := Below.refl _ _
  have FW : Hid (few80 [nS x, nS y] = true) := Lib.hid (by simp only [few80, List.all_cons, List.all_nil, decide_eq_true Nx.out, decide_eq_true Ny.out]; rfl)
  go_enter Tryd.func10, Tryd.ntmps10
  go_wp2_with fail
  refine (head_any _ HENV.out).mono ?_
  rintro e w1 ⟨rfl, hb⟩
  have D1 := D0.trans (hb.mono D0.size)
  clear hb D0
  go_wp2_with fail
  refine (few_lit2 _ (nS x) (nS y) (by have := Nx.out; unfold maxLen; omega) (by have := Ny.out; unfold maxLen; omega)).mono ?_
  rintro e w2 ⟨rfl, hb⟩
  have D2 := D1.trans (hb.mono D1.size)
  clear hb D1
  simp only [FW.out]
  go_wp2_with fail
  refine (cAdd _ Sx.out Sy.out Ss.out Es.out).mono ?_
  rintro e w3 ⟨rfl, hb⟩
  have D3 := D2.trans (hb.mono D2.size)
  clear hb D2
  go_wp2_with fail
  refine (cSub _ Sx.out Sy.out Ed.out).mono ?_
  rintro e w4 ⟨rfl, hb⟩
  have D4 := D3.trans (hb.mono D3.size)
  clear hb D3
  go_wp2_with fail
  refine (cMul _ Sx.out Sy.out Sp.out Ep.out).mono ?_
  rintro e w5 ⟨rfl, hb⟩
  have D5 := D4.trans (hb.mono D4.size)
  clear hb D4
  go_wp2_with fail
  refine (cDiv _ Sx.out Sy.out Y0.out Eq.out Er.out).mono ?_
  rintro e w6 ⟨rfl, hb⟩
  have D6 := D5.trans (hb.mono D5.size)
  clear hb D5
  go_wp2_with fail
  refine (cGcd _ Sx.out Sy.out Eg.out).mono ?_
  rintro e w7 ⟨rfl, hb⟩
  have D7 := D6.trans (hb.mono D6.size)
  clear hb D6
  go_wp2_with fail
  refine (cVal _ (small_valid Sx.out)).mono ?_
  rintro e w8 ⟨rfl, hb⟩
  have D8 := D7.trans (hb.mono D7.size)
  clear hb D7
  go_wp2_with fail
  refine (cVal _ (small_valid Sy.out)).mono ?_
  rintro e w9 ⟨rfl, hb⟩
  have D9 := D8.trans (hb.mono D8.size)
  clear hb D8
  go_wp2_with fail
  refine (cVal _ (small_valid Ss.out)).mono ?_
  rintro e w10 ⟨rfl, hb⟩
  have D10 := D9.trans (hb.mono D9.size)
  clear hb D9
  go_wp2_with fail
  refine (cVal _ (small_valid Sd.out)).mono ?_
  rintro e w11 ⟨rfl, hb⟩
  have D11 := D10.trans (hb.mono D10.size)
  clear hb D10
  go_wp2_with fail
  refine (cVal _ (small_valid Sp.out)).mono ?_
  rintro e w12 ⟨rfl, hb⟩
  have D12 := D11.trans (hb.mono D11.size)
  clear hb D11
  go_wp2_with fail
  refine (cVal _ (small_valid Sq.out)).mono ?_
  rintro e w13 ⟨rfl, hb⟩
  have D13 := D12.trans (hb.mono D12.size)
  clear hb D12
  go_wp2_with fail
  refine (cVal _ (small_valid Sr.out)).mono ?_
  rintro e w14 ⟨rfl, hb⟩
  have D14 := D13.trans (hb.mono D13.size)
  clear hb D13
  go_wp2_with fail
  refine (cVal _ (small_valid Sg.out)).mono ?_
  rintro e w15 ⟨rfl, hb⟩
  have D15 := D14.trans (hb.mono D14.size)
  clear hb D14
  go_wp2_with fail
  go_ret
  exact ⟨by simp, D15⟩
set_option maxRecDepth 100000 in
set_option maxHeartbeats 4000000 in
theorem form_lt_less (x y : Nat) (w : World) (henv : Env w) (hx : x < 10 ^ 80) (hy : y < 10 ^ 80) (hx0 : 0 < x) (c : x < y) (h2 : (nS (x * y)).size + 1 = (nS x).size + (nS y).size) :
    Calls Tryd.prog 10 #[.string (nS x), .string (nS y)] w fun e w' => e = .returned (.bool true) ∧ Below w.heap.size w w' := by
  have HENV := Lib.hid henv
  clear henv
  obtain ⟨s, es⟩ : ∃ k, x + y = k := ⟨_, rfl⟩
  have Es := Lib.hid es
  have Ss : Hid (Small s) := Lib.hid (by rw [← es]; exact small_of (sum_lt hx hy) (by omega) (by omega))
  obtain ⟨p, ep⟩ : ∃ k, x * y = k := ⟨_, rfl⟩
  have Ep := Lib.hid ep
  have Sp : Hid (Small p) := Lib.hid (by rw [← ep]; exact small_of (prod_lt hx hy) (by omega) (by omega))
  obtain ⟨g, eg⟩ : ∃ k, Nat.gcd x y = k := ⟨_, rfl⟩
  have Eg := Lib.hid eg
  have Sg : Hid (Small g) := Lib.hid (by rw [← eg]; exact small_of (gcd_lt hx hy) (by omega) (by omega))
  have C := Lib.hid c
  have Y0 : Hid (0 < y) := Lib.hid (by omega)
  obtain ⟨q, eq⟩ : ∃ k, x / y = k := ⟨_, rfl⟩
  obtain ⟨r, er⟩ : ∃ k, x % y = k := ⟨_, rfl⟩
  have Eq := Lib.hid eq
  have Er := Lib.hid er
  have lq : q ≤ x := by rw [← eq]; exact Nat.div_le_self _ _
  have lr : r ≤ x := by rw [← er]; exact Nat.mod_le _ _
  have Sq : Hid (Small q) := Lib.hid (small_of (k := 80) (by omega) (by omega) (by omega))
  have Sr : Hid (Small r) := Lib.hid (small_of (k := 80) (by omega) (by omega) (by omega))
  clear eq er lq lr
  have Zx : ((nS x).toList == [48]) = false := by rw [zero_num]; exact decide_eq_false (by omega)
  have Zy : ((nS y).toList == [48]) = false := by rw [zero_num]; exact decide_eq_false (by omega)
  have hs2 := h2
  rw [ep] at hs2
  clear h2
  have Q1 : ¬ (((nS p).size : Int) = ((nS x).size : Int) + ((nS y).size : Int)) := by omega
  have Q2 : (((nS p).size : Int) = ((nS x).size : Int) + ((nS y).size : Int) - 1) := by omega
  clear hs2
  clear hx0 c
  have Sx := Lib.hid (small_of hx (by omega) (by omega))
  have Tx := (nS_size (by omega)).2 hx
  have Nx : Hid ((nS x).size ≤ 80) := Lib.hid Tx
  have Sy := Lib.hid (small_of hy (by omega) (by omega))
  have Ty := (nS_size (by omega)).2 hy
  have Ny : Hid ((nS y).size ≤ 80) := Lib.hid Ty
  have W1 : IntKind.i64.wrap (((nS x).size : Int) + ((nS y).size : Int)) = ((nS x).size : Int) + ((nS y).size : Int) := IntWalk.i64_in _ (by omega)
  have W2 : IntKind.i64.wrap (((nS x).size : Int) + ((nS y).size : Int) - 1) = ((nS x).size : Int) + ((nS y).size : Int) - 1 := IntWalk.i64_in _ (by omega)
  clear hx hy es ep eg Tx Ty
  have D0 : Below w.heap.size w w := Below.refl _ _
  have FW : Hid (few80 [nS x, nS y] = true) := Lib.hid (by simp only [few80, List.all_cons, List.all_nil, decide_eq_true Nx.out, decide_eq_true Ny.out]; rfl)
  go_enter Tryd.func10, Tryd.ntmps10
  go_wp2_with fail
  refine (head_any _ HENV.out).mono ?_
  rintro e w1 ⟨rfl, hb⟩
  have D1 := D0.trans (hb.mono D0.size)
  clear hb D0
  go_wp2_with fail
  refine (few_lit2 _ (nS x) (nS y) (by have := Nx.out; unfold maxLen; omega) (by have := Ny.out; unfold maxLen; omega)).mono ?_
  rintro e w2 ⟨rfl, hb⟩
  have D2 := D1.trans (hb.mono D1.size)
  clear hb D1
  simp only [FW.out]
  go_wp2_with fail
  refine (cAdd _ Sx.out Sy.out Ss.out Es.out).mono ?_
  rintro e w3 ⟨rfl, hb⟩
  have D3 := D2.trans (hb.mono D2.size)
  clear hb D2
  go_wp2_with fail
  refine (cSub_less _ Sx.out Sy.out C.out).mono ?_
  rintro e w4 ⟨rfl, hb⟩
  have D4 := D3.trans (hb.mono D3.size)
  clear hb D3
  go_wp2_with fail
  refine (cMul _ Sx.out Sy.out Sp.out Ep.out).mono ?_
  rintro e w5 ⟨rfl, hb⟩
  have D5 := D4.trans (hb.mono D4.size)
  clear hb D4
  go_wp2_with fail
  refine (cDiv _ Sx.out Sy.out Y0.out Eq.out Er.out).mono ?_
  rintro e w6 ⟨rfl, hb⟩
  have D6 := D5.trans (hb.mono D5.size)
  clear hb D5
  go_wp2_with fail
  refine (cGcd _ Sx.out Sy.out Eg.out).mono ?_
  rintro e w7 ⟨rfl, hb⟩
  have D7 := D6.trans (hb.mono D6.size)
  clear hb D6
  go_wp2_with fail
  refine (cVal _ (small_valid Sx.out)).mono ?_
  rintro e w8 ⟨rfl, hb⟩
  have D8 := D7.trans (hb.mono D7.size)
  clear hb D7
  go_wp2_with fail
  refine (cVal _ (small_valid Sy.out)).mono ?_
  rintro e w9 ⟨rfl, hb⟩
  have D9 := D8.trans (hb.mono D8.size)
  clear hb D8
  go_wp2_with fail
  refine (cVal _ (small_valid Ss.out)).mono ?_
  rintro e w10 ⟨rfl, hb⟩
  have D10 := D9.trans (hb.mono D9.size)
  clear hb D9
  go_wp2_with fail
  refine (cVal _ (small_valid Sp.out)).mono ?_
  rintro e w11 ⟨rfl, hb⟩
  have D11 := D10.trans (hb.mono D10.size)
  clear hb D10
  go_wp2_with fail
  refine (cVal _ (small_valid Sq.out)).mono ?_
  rintro e w12 ⟨rfl, hb⟩
  have D12 := D11.trans (hb.mono D11.size)
  clear hb D11
  go_wp2_with fail
  refine (cVal _ (small_valid Sr.out)).mono ?_
  rintro e w13 ⟨rfl, hb⟩
  have D13 := D12.trans (hb.mono D12.size)
  clear hb D12
  go_wp2_with fail
  refine (cVal _ (small_valid Sg.out)).mono ?_
  rintro e w14 ⟨rfl, hb⟩
  have D14 := D13.trans (hb.mono D13.size)
  clear hb D13
  go_wp2_with fail
  go_ret
  exact ⟨by simp, D14⟩
set_option maxRecDepth 100000 in
set_option maxHeartbeats 4000000 in
theorem form_ge_less (x y : Nat) (w : World) (henv : Env w) (hx : x < 10 ^ 80) (hy : y < 10 ^ 80) (hy0 : 0 < y) (c : y ≤ x) (h2 : (nS (x * y)).size + 1 = (nS x).size + (nS y).size) :
    Calls Tryd.prog 10 #[.string (nS x), .string (nS y)] w fun e w' => e = .returned (.bool true) ∧ Below w.heap.size w w' := by
  have HENV := Lib.hid henv
  clear henv
  obtain ⟨s, es⟩ : ∃ k, x + y = k := ⟨_, rfl⟩
  have Es := Lib.hid es
  have Ss : Hid (Small s) := Lib.hid (by rw [← es]; exact small_of (sum_lt hx hy) (by omega) (by omega))
  obtain ⟨p, ep⟩ : ∃ k, x * y = k := ⟨_, rfl⟩
  have Ep := Lib.hid ep
  have Sp : Hid (Small p) := Lib.hid (by rw [← ep]; exact small_of (prod_lt hx hy) (by omega) (by omega))
  obtain ⟨g, eg⟩ : ∃ k, Nat.gcd x y = k := ⟨_, rfl⟩
  have Eg := Lib.hid eg
  have Sg : Hid (Small g) := Lib.hid (by rw [← eg]; exact small_of (gcd_lt hx hy) (by omega) (by omega))
  obtain ⟨d, ed⟩ : ∃ k, y + k = x := ⟨x - y, by omega⟩
  have Ed := Lib.hid ed
  have Sd : Hid (Small d) := Lib.hid (small_of (k := 80) (by omega) (by omega) (by omega))
  clear ed
  have Y0 := Lib.hid hy0
  obtain ⟨q, eq⟩ : ∃ k, x / y = k := ⟨_, rfl⟩
  obtain ⟨r, er⟩ : ∃ k, x % y = k := ⟨_, rfl⟩
  have Eq := Lib.hid eq
  have Er := Lib.hid er
  have lq : q ≤ x := by rw [← eq]; exact Nat.div_le_self _ _
  have lr : r ≤ x := by rw [← er]; exact Nat.mod_le _ _
  have Sq : Hid (Small q) := Lib.hid (small_of (k := 80) (by omega) (by omega) (by omega))
  have Sr : Hid (Small r) := Lib.hid (small_of (k := 80) (by omega) (by omega) (by omega))
  clear eq er lq lr
  have Zx : ((nS x).toList == [48]) = false := by rw [zero_num]; exact decide_eq_false (by omega)
  have Zy : ((nS y).toList == [48]) = false := by rw [zero_num]; exact decide_eq_false (by omega)
  have hs2 := h2
  rw [ep] at hs2
  clear h2
  have Q1 : ¬ (((nS p).size : Int) = ((nS x).size : Int) + ((nS y).size : Int)) := by omega
  have Q2 : (((nS p).size : Int) = ((nS x).size : Int) + ((nS y).size : Int) - 1) := by omega
  clear hs2
  clear hy0 c
  have Sx := Lib.hid (small_of hx (by omega) (by omega))
  have Tx := (nS_size (by omega)).2 hx
  have Nx : Hid ((nS x).size ≤ 80) := Lib.hid Tx
  have Sy := Lib.hid (small_of hy (by omega) (by omega))
  have Ty := (nS_size (by omega)).2 hy
  have Ny : Hid ((nS y).size ≤ 80) := Lib.hid Ty
  have W1 : IntKind.i64.wrap (((nS x).size : Int) + ((nS y).size : Int)) = ((nS x).size : Int) + ((nS y).size : Int) := IntWalk.i64_in _ (by omega)
  have W2 : IntKind.i64.wrap (((nS x).size : Int) + ((nS y).size : Int) - 1) = ((nS x).size : Int) + ((nS y).size : Int) - 1 := IntWalk.i64_in _ (by omega)
  clear hx hy es ep eg Tx Ty
  have D0 : Below w.heap.size w w := Below.refl _ _
  have FW : Hid (few80 [nS x, nS y] = true) := Lib.hid (by simp only [few80, List.all_cons, List.all_nil, decide_eq_true Nx.out, decide_eq_true Ny.out]; rfl)
  go_enter Tryd.func10, Tryd.ntmps10
  go_wp2_with fail
  refine (head_any _ HENV.out).mono ?_
  rintro e w1 ⟨rfl, hb⟩
  have D1 := D0.trans (hb.mono D0.size)
  clear hb D0
  go_wp2_with fail
  refine (few_lit2 _ (nS x) (nS y) (by have := Nx.out; unfold maxLen; omega) (by have := Ny.out; unfold maxLen; omega)).mono ?_
  rintro e w2 ⟨rfl, hb⟩
  have D2 := D1.trans (hb.mono D1.size)
  clear hb D1
  simp only [FW.out]
  go_wp2_with fail
  refine (cAdd _ Sx.out Sy.out Ss.out Es.out).mono ?_
  rintro e w3 ⟨rfl, hb⟩
  have D3 := D2.trans (hb.mono D2.size)
  clear hb D2
  go_wp2_with fail
  refine (cSub _ Sx.out Sy.out Ed.out).mono ?_
  rintro e w4 ⟨rfl, hb⟩
  have D4 := D3.trans (hb.mono D3.size)
  clear hb D3
  go_wp2_with fail
  refine (cMul _ Sx.out Sy.out Sp.out Ep.out).mono ?_
  rintro e w5 ⟨rfl, hb⟩
  have D5 := D4.trans (hb.mono D4.size)
  clear hb D4
  go_wp2_with fail
  refine (cDiv _ Sx.out Sy.out Y0.out Eq.out Er.out).mono ?_
  rintro e w6 ⟨rfl, hb⟩
  have D6 := D5.trans (hb.mono D5.size)
  clear hb D5
  go_wp2_with fail
  refine (cGcd _ Sx.out Sy.out Eg.out).mono ?_
  rintro e w7 ⟨rfl, hb⟩
  have D7 := D6.trans (hb.mono D6.size)
  clear hb D6
  go_wp2_with fail
  refine (cVal _ (small_valid Sx.out)).mono ?_
  rintro e w8 ⟨rfl, hb⟩
  have D8 := D7.trans (hb.mono D7.size)
  clear hb D7
  go_wp2_with fail
  refine (cVal _ (small_valid Sy.out)).mono ?_
  rintro e w9 ⟨rfl, hb⟩
  have D9 := D8.trans (hb.mono D8.size)
  clear hb D8
  go_wp2_with fail
  refine (cVal _ (small_valid Ss.out)).mono ?_
  rintro e w10 ⟨rfl, hb⟩
  have D10 := D9.trans (hb.mono D9.size)
  clear hb D9
  go_wp2_with fail
  refine (cVal _ (small_valid Sd.out)).mono ?_
  rintro e w11 ⟨rfl, hb⟩
  have D11 := D10.trans (hb.mono D10.size)
  clear hb D10
  go_wp2_with fail
  refine (cVal _ (small_valid Sp.out)).mono ?_
  rintro e w12 ⟨rfl, hb⟩
  have D12 := D11.trans (hb.mono D11.size)
  clear hb D11
  go_wp2_with fail
  refine (cVal _ (small_valid Sq.out)).mono ?_
  rintro e w13 ⟨rfl, hb⟩
  have D13 := D12.trans (hb.mono D12.size)
  clear hb D12
  go_wp2_with fail
  refine (cVal _ (small_valid Sr.out)).mono ?_
  rintro e w14 ⟨rfl, hb⟩
  have D14 := D13.trans (hb.mono D13.size)
  clear hb D13
  go_wp2_with fail
  refine (cVal _ (small_valid Sg.out)).mono ?_
  rintro e w15 ⟨rfl, hb⟩
  have D15 := D14.trans (hb.mono D14.size)
  clear hb D14
  go_wp2_with fail
  go_ret
  exact ⟨by simp, D15⟩
theorem walkNaturalForms (a b : ByteArray) (w : World) (henv : Env w) (ha : a.size ≤ maxLen) (hb : b.size ≤ maxLen) :
    Calls Tryd.prog 10 #[.string a, .string b] w fun e w' => e = .returned (.bool true) ∧ Below w.heap.size w w' := by
  cases f : few80 [a, b] with
  | false => exact form_out a b w henv ha hb f
  | true =>
    cases va : validB a with
    | false => exact form_bad0 a b w henv ha hb f va
    | true =>
      cases vb : validB b with
      | false => exact form_bad1 a b w henv ha hb f va vb
      | true =>
        simp only [few80, List.all_cons, List.all_nil, Bool.and_eq_true, Bool.and_true, decide_eq_true_eq] at f
        obtain ⟨x, ex, kx⟩ := short_num va f.1
        obtain ⟨y, ey, ky⟩ := short_num vb f.2
        subst ex ey
        rcases Nat.eq_zero_or_pos y with y0 | y0
        · exact form_y0 x y w henv kx ky y0
        · rcases Nat.eq_zero_or_pos x with x0 | x0
          · exact form_x0 x y w henv kx ky x0 y0
          · rcases Nat.lt_or_ge x y with c | c
            · rcases prod_size x0 y0 with h | h
              · exact form_lt_full x y w henv kx ky x0 c h
              · exact form_lt_less x y w henv kx ky x0 c h
            · rcases prod_size x0 y0 with h | h
              · exact form_ge_full x y w henv kx ky y0 c h
              · exact form_ge_less x y w henv kx ky y0 c h
end Go.Proofs.YtfkdhkbegfbkaaaDoor
