/-
  The walk of NaturalDivides.
-/
import Derived.Test.YtfkdhkbegfbkaaaDoorNatWField
set_option linter.unusedVariables false
set_option maxRecDepth 100000
namespace Go.Proofs.YtfkdhkbegfbkaaaDoor
open Go.RowKit
theorem zero_num (y : Nat) : ((nS y).toList == [48]) = decide (y = 0) := by
  rw [zero_list, str_beq, ← nS_zero]
  by_cases h : y = 0
  · rw [decide_eq_true h, h]; simp
  · rw [decide_eq_false h]; exact decide_eq_false (fun e => h (nS_inj e))
theorem cmpN_less {x y : Nat} (h : x < y) : cmpN x y = -1 := by unfold cmpN; rw [if_pos h]
theorem cmpN_same (x : Nat) : cmpN x x = 0 := by unfold cmpN; rw [if_neg (by omega), if_neg (by omega)]
theorem cmpN_more {x y : Nat} (h : y < x) : cmpN x y = 1 := by unfold cmpN; rw [if_neg (by omega), if_pos h]
set_option maxRecDepth 100000 in
set_option maxHeartbeats 4000000 in
theorem NaturalDivides_out0 (q b r : ByteArray) (w : World) (henv : Env w) (hq : q.size ≤ maxLen) (hb : b.size ≤ maxLen) (hr : r.size ≤ maxLen) (f : few80 [q, b, r] = false) :
    Calls Tryd.prog 7 #[.string q, .string b, .string r] w fun e w' => e = .returned (.bool true) ∧ Below w.heap.size w w' := by
  have HENV := Lib.hid henv
  clear henv
  have Hq := Lib.hid hq
  have Hb := Lib.hid hb
  have Hr := Lib.hid hr
  have F := Lib.hid f
  clear hq hb hr f 
  have D0 : Below w.heap.size w w := Below.refl _ _
  go_enter Tryd.func7, Tryd.ntmps7
  go_wp2_with fail
  refine (head_any _ HENV.out).mono ?_
  rintro e w1 ⟨rfl, hb⟩
  have D1 := D0.trans (hb.mono D0.size)
  clear hb D0
  go_wp2_with fail
  refine (few_lit3 _ q b r Hq.out Hb.out Hr.out).mono ?_
  rintro e w2 ⟨rfl, hb⟩
  have D2 := D1.trans (hb.mono D1.size)
  clear hb D1
  simp only [F.out]
  go_wp2_with fail
  go_ret
  exact ⟨rfl, D2⟩
set_option maxRecDepth 100000 in
set_option maxHeartbeats 4000000 in
theorem NaturalDivides_out1 (q b r : ByteArray) (w : World) (henv : Env w) (hq : q.size ≤ maxLen) (hb : b.size ≤ maxLen) (hr : r.size ≤ maxLen) (f : few80 [q, b, r] = true) (vq : validB q = false) :
    Calls Tryd.prog 7 #[.string q, .string b, .string r] w fun e w' => e = .returned (.bool true) ∧ Below w.heap.size w w' := by
  have HENV := Lib.hid henv
  clear henv
  have Hq := Lib.hid hq
  have Hb := Lib.hid hb
  have Hr := Lib.hid hr
  have F := Lib.hid f
  have Vq := Lib.hid vq
  clear hq hb hr f vq
  have D0 : Below w.heap.size w w := Below.refl _ _
  go_enter Tryd.func7, Tryd.ntmps7
  go_wp2_with fail
  refine (head_any _ HENV.out).mono ?_
  rintro e w1 ⟨rfl, hb⟩
  have D1 := D0.trans (hb.mono D0.size)
  clear hb D0
  go_wp2_with fail
  refine (few_lit3 _ q b r Hq.out Hb.out Hr.out).mono ?_
  rintro e w2 ⟨rfl, hb⟩
  have D2 := D1.trans (hb.mono D1.size)
  clear hb D1
  simp only [F.out]
  go_wp2_with fail
  refine (cVal _ Vq.out).mono ?_
  rintro e w3 ⟨rfl, hb⟩
  have D3 := D2.trans (hb.mono D2.size)
  clear hb D2
  go_wp2_with fail
  go_ret
  exact ⟨rfl, D3⟩
set_option maxRecDepth 100000 in
set_option maxHeartbeats 4000000 in
theorem NaturalDivides_out2 (q b r : ByteArray) (w : World) (henv : Env w) (hq : q.size ≤ maxLen) (hb : b.size ≤ maxLen) (hr : r.size ≤ maxLen) (f : few80 [q, b, r] = true) (vq : validB q = true) (vb : validB b = false) :
    Calls Tryd.prog 7 #[.string q, .string b, .string r] w fun e w' => e = .returned (.bool true) ∧ Below w.heap.size w w' := by
  have HENV := Lib.hid henv
  clear henv
  have Hq := Lib.hid hq
  have Hb := Lib.hid hb
  have Hr := Lib.hid hr
  have F := Lib.hid f
  have Vq := Lib.hid vq
  have Vb := Lib.hid vb
  clear hq hb hr f vq vb
  have D0 : Below w.heap.size w w := Below.refl _ _
  go_enter Tryd.func7, Tryd.ntmps7
  go_wp2_with fail
  refine (head_any _ HENV.out).mono ?_
  rintro e w1 ⟨rfl, hb⟩
  have D1 := D0.trans (hb.mono D0.size)
  clear hb D0
  go_wp2_with fail
  refine (few_lit3 _ q b r Hq.out Hb.out Hr.out).mono ?_
  rintro e w2 ⟨rfl, hb⟩
  have D2 := D1.trans (hb.mono D1.size)
  clear hb D1
  simp only [F.out]
  go_wp2_with fail
  refine (cVal _ Vq.out).mono ?_
  rintro e w3 ⟨rfl, hb⟩
  have D3 := D2.trans (hb.mono D2.size)
  clear hb D2
  go_wp2_with fail
  refine (cVal _ Vb.out).mono ?_
  rintro e w4 ⟨rfl, hb⟩
  have D4 := D3.trans (hb.mono D3.size)
  clear hb D3
  go_wp2_with fail
  go_ret
  exact ⟨rfl, D4⟩
set_option maxRecDepth 100000 in
set_option maxHeartbeats 4000000 in
theorem NaturalDivides_out3 (q b r : ByteArray) (w : World) (henv : Env w) (hq : q.size ≤ maxLen) (hb : b.size ≤ maxLen) (hr : r.size ≤ maxLen) (f : few80 [q, b, r] = true) (vq : validB q = true) (vb : validB b = true) (vr : validB r = false) :
    Calls Tryd.prog 7 #[.string q, .string b, .string r] w fun e w' => e = .returned (.bool true) ∧ Below w.heap.size w w' := by
  have HENV := Lib.hid henv
  clear henv
  have Hq := Lib.hid hq
  have Hb := Lib.hid hb
  have Hr := Lib.hid hr
  have F := Lib.hid f
  have Vq := Lib.hid vq
  have Vb := Lib.hid vb
  have Vr := Lib.hid vr
  clear hq hb hr f vq vb vr
  have D0 : Below w.heap.size w w := Below.refl _ _
  go_enter Tryd.func7, Tryd.ntmps7
  go_wp2_with fail
  refine (head_any _ HENV.out).mono ?_
  rintro e w1 ⟨rfl, hb⟩
  have D1 := D0.trans (hb.mono D0.size)
  clear hb D0
  go_wp2_with fail
  refine (few_lit3 _ q b r Hq.out Hb.out Hr.out).mono ?_
  rintro e w2 ⟨rfl, hb⟩
  have D2 := D1.trans (hb.mono D1.size)
  clear hb D1
  simp only [F.out]
  go_wp2_with fail
  refine (cVal _ Vq.out).mono ?_
  rintro e w3 ⟨rfl, hb⟩
  have D3 := D2.trans (hb.mono D2.size)
  clear hb D2
  go_wp2_with fail
  refine (cVal _ Vb.out).mono ?_
  rintro e w4 ⟨rfl, hb⟩
  have D4 := D3.trans (hb.mono D3.size)
  clear hb D3
  go_wp2_with fail
  refine (cVal _ Vr.out).mono ?_
  rintro e w5 ⟨rfl, hb⟩
  have D5 := D4.trans (hb.mono D4.size)
  clear hb D4
  go_wp2_with fail
  go_ret
  exact ⟨rfl, D5⟩
set_option maxRecDepth 100000 in
set_option maxHeartbeats 4000000 in
theorem div_zero (x y z : Nat) (w : World) (henv : Env w) (hx : x < 10 ^ 80) (hy : y < 10 ^ 80) (hz : z < 10 ^ 80) (hz0 : y = 0) :
    Calls Tryd.prog 7 #[.string (nS x), .string (nS y), .string (nS z)] w fun e w' => e = .returned (.bool true) ∧ Below w.heap.size w w' := by
  have HENV := Lib.hid henv
  clear henv
  have Z : ((nS y).toList == [48]) = true := by rw [zero_num]; exact decide_eq_true hz0
  clear hz0
  have Sx := Lib.hid (small_of hx (by omega) (by omega))
  have Nx : Hid ((nS x).size ≤ 80) := Lib.hid ((nS_size (by omega)).2 hx)
  have Sy := Lib.hid (small_of hy (by omega) (by omega))
  have Ny : Hid ((nS y).size ≤ 80) := Lib.hid ((nS_size (by omega)).2 hy)
  have Sz := Lib.hid (small_of hz (by omega) (by omega))
  have Nz : Hid ((nS z).size ≤ 80) := Lib.hid ((nS_size (by omega)).2 hz)
  clear hx hy hz
  have D0 : Below w.heap.size w w := Below.refl _ _
  have FW : Hid (few80 [nS x, nS y, nS z] = true) := Lib.hid (by simp only [few80, List.all_cons, List.all_nil, decide_eq_true Nx.out, decide_eq_true Ny.out, decide_eq_true Nz.out]; rfl)
  go_enter Tryd.func7, Tryd.ntmps7
  go_wp2_with fail
  refine (head_any _ HENV.out).mono ?_
  rintro e w1 ⟨rfl, hb⟩
  have D1 := D0.trans (hb.mono D0.size)
  clear hb D0
  go_wp2_with fail
  refine (few_lit3 _ (nS x) (nS y) (nS z) (by have := Nx.out; unfold maxLen; omega) (by have := Ny.out; unfold maxLen; omega) (by have := Nz.out; unfold maxLen; omega)).mono ?_
  rintro e w2 ⟨rfl, hb⟩
  have D2 := D1.trans (hb.mono D1.size)
  clear hb D1
  simp only [FW.out]
  go_wp2_with fail
  refine (cVal _ (small_valid Sx.out)).mono ?_
  rintro e w3 ⟨rfl, hb⟩
  have D3 := D2.trans (hb.mono D2.size)
  clear hb D2
  go_wp2_with fail
  refine (cVal _ (small_valid Sy.out)).mono ?_
  rintro e w4 ⟨rfl, hb⟩
  have D4 := D3.trans (hb.mono D3.size)
  clear hb D3
  go_wp2_with fail
  refine (cVal _ (small_valid Sz.out)).mono ?_
  rintro e w5 ⟨rfl, hb⟩
  have D5 := D4.trans (hb.mono D4.size)
  clear hb D4
  go_wp2_with fail
  go_ret
  exact ⟨by simp, D5⟩
set_option maxRecDepth 100000 in
set_option maxHeartbeats 4000000 in
theorem div_less (x y z : Nat) (w : World) (henv : Env w) (hx : x < 10 ^ 80) (hy : y < 10 ^ 80) (hz : z < 10 ^ 80) (hz0 : 0 < y) (c : z < y) :
    Calls Tryd.prog 7 #[.string (nS x), .string (nS y), .string (nS z)] w fun e w' => e = .returned (.bool true) ∧ Below w.heap.size w w' := by
  have HENV := Lib.hid henv
  clear henv
  have Z : ((nS y).toList == [48]) = false := by rw [zero_num]; exact decide_eq_false (by omega)
  have Y0 := Lib.hid hz0
  obtain ⟨p, ep⟩ : ∃ k, x * y = k := ⟨_, rfl⟩
  have Ep := Lib.hid ep
  have Sp : Hid (Small p) := Lib.hid (by rw [← ep]; exact small_of (prod_lt hx hy) (by omega) (by omega))
  clear ep
  obtain ⟨a, ea⟩ : ∃ k, x * y + z = k := ⟨_, rfl⟩
  have Ea := Lib.hid ea
  have Sa : Hid (Small a) := Lib.hid (by rw [← ea]; exact small_of (sum_lt (prod_lt hx hy) (lt_more hz (by omega))) (by omega) (by omega))
  clear ea
  have EQ : Hid (a / y = x) := Lib.hid (by rw [← Ea.out, Nat.mul_comm, Nat.mul_add_div hz0, Nat.div_eq_of_lt c, Nat.add_zero])
  have ER : Hid (a % y = z) := Lib.hid (by rw [← Ea.out, Nat.mul_comm, Nat.mul_add_mod, Nat.mod_eq_of_lt c])
  have C := Lib.hid (cmpN_less c)
  clear c hz0
  have Sx := Lib.hid (small_of hx (by omega) (by omega))
  have Nx : Hid ((nS x).size ≤ 80) := Lib.hid ((nS_size (by omega)).2 hx)
  have Sy := Lib.hid (small_of hy (by omega) (by omega))
  have Ny : Hid ((nS y).size ≤ 80) := Lib.hid ((nS_size (by omega)).2 hy)
  have Sz := Lib.hid (small_of hz (by omega) (by omega))
  have Nz : Hid ((nS z).size ≤ 80) := Lib.hid ((nS_size (by omega)).2 hz)
  clear hx hy hz
  have D0 : Below w.heap.size w w := Below.refl _ _
  have FW : Hid (few80 [nS x, nS y, nS z] = true) := Lib.hid (by simp only [few80, List.all_cons, List.all_nil, decide_eq_true Nx.out, decide_eq_true Ny.out, decide_eq_true Nz.out]; rfl)
  go_enter Tryd.func7, Tryd.ntmps7
  go_wp2_with fail
  refine (head_any _ HENV.out).mono ?_
  rintro e w1 ⟨rfl, hb⟩
  have D1 := D0.trans (hb.mono D0.size)
  clear hb D0
  go_wp2_with fail
  refine (few_lit3 _ (nS x) (nS y) (nS z) (by have := Nx.out; unfold maxLen; omega) (by have := Ny.out; unfold maxLen; omega) (by have := Nz.out; unfold maxLen; omega)).mono ?_
  rintro e w2 ⟨rfl, hb⟩
  have D2 := D1.trans (hb.mono D1.size)
  clear hb D1
  simp only [FW.out]
  go_wp2_with fail
  refine (cVal _ (small_valid Sx.out)).mono ?_
  rintro e w3 ⟨rfl, hb⟩
  have D3 := D2.trans (hb.mono D2.size)
  clear hb D2
  go_wp2_with fail
  refine (cVal _ (small_valid Sy.out)).mono ?_
  rintro e w4 ⟨rfl, hb⟩
  have D4 := D3.trans (hb.mono D3.size)
  clear hb D3
  go_wp2_with fail
  refine (cVal _ (small_valid Sz.out)).mono ?_
  rintro e w5 ⟨rfl, hb⟩
  have D5 := D4.trans (hb.mono D4.size)
  clear hb D4
  go_wp2_with fail
  refine (cMul _ Sx.out Sy.out Sp.out Ep.out).mono ?_
  rintro e w6 ⟨rfl, hb⟩
  have D6 := D5.trans (hb.mono D5.size)
  clear hb D5
  go_wp2_with fail
  refine (cAdd _ Sp.out Sz.out Sa.out (by rw [← Ep.out]; exact Ea.out)).mono ?_
  rintro e w7 ⟨rfl, hb⟩
  have D7 := D6.trans (hb.mono D6.size)
  clear hb D6
  go_wp2_with fail
  refine (cDiv _ Sa.out Sy.out Y0.out EQ.out ER.out).mono ?_
  rintro e w8 ⟨rfl, hb⟩
  have D8 := D7.trans (hb.mono D7.size)
  clear hb D7
  go_wp2_with fail
  refine (cMul _ Sx.out Sy.out Sp.out Ep.out).mono ?_
  rintro e w9 ⟨rfl, hb⟩
  have D9 := D8.trans (hb.mono D8.size)
  clear hb D8
  go_wp2_with fail
  refine (cAdd _ Sp.out Sz.out Sa.out (by rw [← Ep.out]; exact Ea.out)).mono ?_
  rintro e w10 ⟨rfl, hb⟩
  have D10 := D9.trans (hb.mono D9.size)
  clear hb D9
  go_wp2_with fail
  refine (cCmp _ Sz.out Sy.out C.out).mono ?_
  rintro e w11 ⟨rfl, hb⟩
  have D11 := D10.trans (hb.mono D10.size)
  clear hb D10
  go_wp2_with fail
  refine (cCmp _ Sz.out Sy.out C.out).mono ?_
  rintro e w12 ⟨rfl, hb⟩
  have D12 := D11.trans (hb.mono D11.size)
  clear hb D11
  go_wp2_with fail
  go_ret
  exact ⟨by simp, D12⟩
set_option maxRecDepth 100000 in
set_option maxHeartbeats 4000000 in
theorem div_same (x y z : Nat) (w : World) (henv : Env w) (hx : x < 10 ^ 80) (hy : y < 10 ^ 80) (hz : z < 10 ^ 80) (hz0 : 0 < y) (c : z = y) :
    Calls Tryd.prog 7 #[.string (nS x), .string (nS y), .string (nS z)] w fun e w' => e = .returned (.bool true) ∧ Below w.heap.size w w' := by
  have HENV := Lib.hid henv
  clear henv
  have Z : ((nS y).toList == [48]) = false := by rw [zero_num]; exact decide_eq_false (by omega)
  have Y0 := Lib.hid hz0
  obtain ⟨p, ep⟩ : ∃ k, x * y = k := ⟨_, rfl⟩
  have Ep := Lib.hid ep
  have Sp : Hid (Small p) := Lib.hid (by rw [← ep]; exact small_of (prod_lt hx hy) (by omega) (by omega))
  clear ep
  obtain ⟨a, ea⟩ : ∃ k, x * y + z = k := ⟨_, rfl⟩
  have Ea := Lib.hid ea
  have Sa : Hid (Small a) := Lib.hid (by rw [← ea]; exact small_of (sum_lt (prod_lt hx hy) (lt_more hz (by omega))) (by omega) (by omega))
  clear ea
  have C : Hid (cmpN z y = 0) := Lib.hid (by rw [c]; exact cmpN_same y)
  have ha : a < 10 ^ 161 := by rw [← Ea.out]; exact sum_lt (prod_lt hx hy) (lt_more hz (by omega))
  obtain ⟨m, em⟩ : ∃ k, a / y = k := ⟨_, rfl⟩
  obtain ⟨n, en⟩ : ∃ k, a % y = k := ⟨_, rfl⟩
  obtain ⟨b, eb⟩ : ∃ k, m * y = k := ⟨_, rfl⟩
  have hmod := Nat.div_add_mod a y
  rw [em, en, Nat.mul_comm, eb] at hmod
  have hn : n < y := by rw [← en]; exact Nat.mod_lt _ hz0
  have hm : m ≤ a := by rw [← em]; exact Nat.div_le_self _ _
  have EM := Lib.hid em
  have EN := Lib.hid en
  have EB := Lib.hid eb
  have EH := Lib.hid hmod
  have CN := Lib.hid (cmpN_less hn)
  have Sm : Hid (Small m) := Lib.hid (small_of (k := 161) (by omega) (by omega) (by omega))
  have Sn : Hid (Small n) := Lib.hid (small_of (k := 161) (by omega) (by omega) (by omega))
  have Sb : Hid (Small b) := Lib.hid (small_of (k := 161) (by omega) (by omega) (by omega))
  clear c hz0 em en eb hmod hn hm ha
  have Sx := Lib.hid (small_of hx (by omega) (by omega))
  have Nx : Hid ((nS x).size ≤ 80) := Lib.hid ((nS_size (by omega)).2 hx)
  have Sy := Lib.hid (small_of hy (by omega) (by omega))
  have Ny : Hid ((nS y).size ≤ 80) := Lib.hid ((nS_size (by omega)).2 hy)
  have Sz := Lib.hid (small_of hz (by omega) (by omega))
  have Nz : Hid ((nS z).size ≤ 80) := Lib.hid ((nS_size (by omega)).2 hz)
  clear hx hy hz
  have D0 : Below w.heap.size w w := Below.refl _ _
  have FW : Hid (few80 [nS x, nS y, nS z] = true) := Lib.hid (by simp only [few80, List.all_cons, List.all_nil, decide_eq_true Nx.out, decide_eq_true Ny.out, decide_eq_true Nz.out]; rfl)
  go_enter Tryd.func7, Tryd.ntmps7
  go_wp2_with fail
  refine (head_any _ HENV.out).mono ?_
  rintro e w1 ⟨rfl, hb⟩
  have D1 := D0.trans (hb.mono D0.size)
  clear hb D0
  go_wp2_with fail
  refine (few_lit3 _ (nS x) (nS y) (nS z) (by have := Nx.out; unfold maxLen; omega) (by have := Ny.out; unfold maxLen; omega) (by have := Nz.out; unfold maxLen; omega)).mono ?_
  rintro e w2 ⟨rfl, hb⟩
  have D2 := D1.trans (hb.mono D1.size)
  clear hb D1
  simp only [FW.out]
  go_wp2_with fail
  refine (cVal _ (small_valid Sx.out)).mono ?_
  rintro e w3 ⟨rfl, hb⟩
  have D3 := D2.trans (hb.mono D2.size)
  clear hb D2
  go_wp2_with fail
  refine (cVal _ (small_valid Sy.out)).mono ?_
  rintro e w4 ⟨rfl, hb⟩
  have D4 := D3.trans (hb.mono D3.size)
  clear hb D3
  go_wp2_with fail
  refine (cVal _ (small_valid Sz.out)).mono ?_
  rintro e w5 ⟨rfl, hb⟩
  have D5 := D4.trans (hb.mono D4.size)
  clear hb D4
  go_wp2_with fail
  refine (cMul _ Sx.out Sy.out Sp.out Ep.out).mono ?_
  rintro e w6 ⟨rfl, hb⟩
  have D6 := D5.trans (hb.mono D5.size)
  clear hb D5
  go_wp2_with fail
  refine (cAdd _ Sp.out Sz.out Sa.out (by rw [← Ep.out]; exact Ea.out)).mono ?_
  rintro e w7 ⟨rfl, hb⟩
  have D7 := D6.trans (hb.mono D6.size)
  clear hb D6
  go_wp2_with fail
  refine (cDiv _ Sa.out Sy.out Y0.out EM.out EN.out).mono ?_
  rintro e w8 ⟨rfl, hb⟩
  have D8 := D7.trans (hb.mono D7.size)
  clear hb D7
  go_wp2_with fail
  refine (cMul _ Sm.out Sy.out Sb.out EB.out).mono ?_
  rintro e w9 ⟨rfl, hb⟩
  have D9 := D8.trans (hb.mono D8.size)
  clear hb D8
  go_wp2_with fail
  refine (cAdd _ Sb.out Sn.out Sa.out EH.out).mono ?_
  rintro e w10 ⟨rfl, hb⟩
  have D10 := D9.trans (hb.mono D9.size)
  clear hb D9
  go_wp2_with fail
  refine (cCmp _ Sn.out Sy.out CN.out).mono ?_
  rintro e w11 ⟨rfl, hb⟩
  have D11 := D10.trans (hb.mono D10.size)
  clear hb D10
  go_wp2_with fail
  refine (cCmp _ Sz.out Sy.out C.out).mono ?_
  rintro e w12 ⟨rfl, hb⟩
  have D12 := D11.trans (hb.mono D11.size)
  clear hb D11
  go_wp2_with fail
  go_ret
  exact ⟨by simp, D12⟩
set_option maxRecDepth 100000 in
set_option maxHeartbeats 4000000 in
theorem div_more (x y z : Nat) (w : World) (henv : Env w) (hx : x < 10 ^ 80) (hy : y < 10 ^ 80) (hz : z < 10 ^ 80) (hz0 : 0 < y) (c : y < z) :
    Calls Tryd.prog 7 #[.string (nS x), .string (nS y), .string (nS z)] w fun e w' => e = .returned (.bool true) ∧ Below w.heap.size w w' := by
  have HENV := Lib.hid henv
  clear henv
  have Z : ((nS y).toList == [48]) = false := by rw [zero_num]; exact decide_eq_false (by omega)
  have Y0 := Lib.hid hz0
  obtain ⟨p, ep⟩ : ∃ k, x * y = k := ⟨_, rfl⟩
  have Ep := Lib.hid ep
  have Sp : Hid (Small p) := Lib.hid (by rw [← ep]; exact small_of (prod_lt hx hy) (by omega) (by omega))
  clear ep
  obtain ⟨a, ea⟩ : ∃ k, x * y + z = k := ⟨_, rfl⟩
  have Ea := Lib.hid ea
  have Sa : Hid (Small a) := Lib.hid (by rw [← ea]; exact small_of (sum_lt (prod_lt hx hy) (lt_more hz (by omega))) (by omega) (by omega))
  clear ea
  have C : Hid (cmpN z y = 1) := Lib.hid (cmpN_more c)
  have ha : a < 10 ^ 161 := by rw [← Ea.out]; exact sum_lt (prod_lt hx hy) (lt_more hz (by omega))
  obtain ⟨m, em⟩ : ∃ k, a / y = k := ⟨_, rfl⟩
  obtain ⟨n, en⟩ : ∃ k, a % y = k := ⟨_, rfl⟩
  obtain ⟨b, eb⟩ : ∃ k, m * y = k := ⟨_, rfl⟩
  have hmod := Nat.div_add_mod a y
  rw [em, en, Nat.mul_comm, eb] at hmod
  have hn : n < y := by rw [← en]; exact Nat.mod_lt _ hz0
  have hm : m ≤ a := by rw [← em]; exact Nat.div_le_self _ _
  have EM := Lib.hid em
  have EN := Lib.hid en
  have EB := Lib.hid eb
  have EH := Lib.hid hmod
  have CN := Lib.hid (cmpN_less hn)
  have Sm : Hid (Small m) := Lib.hid (small_of (k := 161) (by omega) (by omega) (by omega))
  have Sn : Hid (Small n) := Lib.hid (small_of (k := 161) (by omega) (by omega) (by omega))
  have Sb : Hid (Small b) := Lib.hid (small_of (k := 161) (by omega) (by omega) (by omega))
  clear c hz0 em en eb hmod hn hm ha
  have Sx := Lib.hid (small_of hx (by omega) (by omega))
  have Nx : Hid ((nS x).size ≤ 80) := Lib.hid ((nS_size (by omega)).2 hx)
  have Sy := Lib.hid (small_of hy (by omega) (by omega))
  have Ny : Hid ((nS y).size ≤ 80) := Lib.hid ((nS_size (by omega)).2 hy)
  have Sz := Lib.hid (small_of hz (by omega) (by omega))
  have Nz : Hid ((nS z).size ≤ 80) := Lib.hid ((nS_size (by omega)).2 hz)
  clear hx hy hz
  have D0 : Below w.heap.size w w := Below.refl _ _
  have FW : Hid (few80 [nS x, nS y, nS z] = true) := Lib.hid (by simp only [few80, List.all_cons, List.all_nil, decide_eq_true Nx.out, decide_eq_true Ny.out, decide_eq_true Nz.out]; rfl)
  go_enter Tryd.func7, Tryd.ntmps7
  go_wp2_with fail
  refine (head_any _ HENV.out).mono ?_
  rintro e w1 ⟨rfl, hb⟩
  have D1 := D0.trans (hb.mono D0.size)
  clear hb D0
  go_wp2_with fail
  refine (few_lit3 _ (nS x) (nS y) (nS z) (by have := Nx.out; unfold maxLen; omega) (by have := Ny.out; unfold maxLen; omega) (by have := Nz.out; unfold maxLen; omega)).mono ?_
  rintro e w2 ⟨rfl, hb⟩
  have D2 := D1.trans (hb.mono D1.size)
  clear hb D1
  simp only [FW.out]
  go_wp2_with fail
  refine (cVal _ (small_valid Sx.out)).mono ?_
  rintro e w3 ⟨rfl, hb⟩
  have D3 := D2.trans (hb.mono D2.size)
  clear hb D2
  go_wp2_with fail
  refine (cVal _ (small_valid Sy.out)).mono ?_
  rintro e w4 ⟨rfl, hb⟩
  have D4 := D3.trans (hb.mono D3.size)
  clear hb D3
  go_wp2_with fail
  refine (cVal _ (small_valid Sz.out)).mono ?_
  rintro e w5 ⟨rfl, hb⟩
  have D5 := D4.trans (hb.mono D4.size)
  clear hb D4
  go_wp2_with fail
  refine (cMul _ Sx.out Sy.out Sp.out Ep.out).mono ?_
  rintro e w6 ⟨rfl, hb⟩
  have D6 := D5.trans (hb.mono D5.size)
  clear hb D5
  go_wp2_with fail
  refine (cAdd _ Sp.out Sz.out Sa.out (by rw [← Ep.out]; exact Ea.out)).mono ?_
  rintro e w7 ⟨rfl, hb⟩
  have D7 := D6.trans (hb.mono D6.size)
  clear hb D6
  go_wp2_with fail
  refine (cDiv _ Sa.out Sy.out Y0.out EM.out EN.out).mono ?_
  rintro e w8 ⟨rfl, hb⟩
  have D8 := D7.trans (hb.mono D7.size)
  clear hb D7
  go_wp2_with fail
  refine (cMul _ Sm.out Sy.out Sb.out EB.out).mono ?_
  rintro e w9 ⟨rfl, hb⟩
  have D9 := D8.trans (hb.mono D8.size)
  clear hb D8
  go_wp2_with fail
  refine (cAdd _ Sb.out Sn.out Sa.out EH.out).mono ?_
  rintro e w10 ⟨rfl, hb⟩
  have D10 := D9.trans (hb.mono D9.size)
  clear hb D9
  go_wp2_with fail
  refine (cCmp _ Sn.out Sy.out CN.out).mono ?_
  rintro e w11 ⟨rfl, hb⟩
  have D11 := D10.trans (hb.mono D10.size)
  clear hb D10
  go_wp2_with fail
  refine (cCmp _ Sz.out Sy.out C.out).mono ?_
  rintro e w12 ⟨rfl, hb⟩
  have D12 := D11.trans (hb.mono D11.size)
  clear hb D11
  go_wp2_with fail
  go_ret
  exact ⟨by simp, D12⟩
theorem walkNaturalDivides (q b r : ByteArray) (w : World) (henv : Env w) (hq : q.size ≤ maxLen) (hb : b.size ≤ maxLen) (hr : r.size ≤ maxLen) :
    Calls Tryd.prog 7 #[.string q, .string b, .string r] w fun e w' => e = .returned (.bool true) ∧ Below w.heap.size w w' := by
  cases f : few80 [q, b, r] with
  | false => exact NaturalDivides_out0 q b r w henv hq hb hr f
  | true =>
    cases vq : validB q with
    | false => exact NaturalDivides_out1 q b r w henv hq hb hr f vq
    | true =>
      cases vb : validB b with
      | false => exact NaturalDivides_out2 q b r w henv hq hb hr f vq vb
      | true =>
        cases vr : validB r with
        | false => exact NaturalDivides_out3 q b r w henv hq hb hr f vq vb vr
        | true =>
          simp only [few80, List.all_cons, List.all_nil, Bool.and_eq_true, Bool.and_true, decide_eq_true_eq] at f
          obtain ⟨x, ex, kx⟩ := short_num vq f.1
          obtain ⟨y, ey, ky⟩ := short_num vb f.2.1
          obtain ⟨z, ez, kz⟩ := short_num vr f.2.2
          subst ex ey ez
          rcases Nat.eq_zero_or_pos y with c | c
          · exact div_zero x y z w henv kx ky kz c
          · rcases Nat.lt_trichotomy z y with d | d | d
            · exact div_less x y z w henv kx ky kz c d
            · exact div_same x y z w henv kx ky kz c d
            · exact div_more x y z w henv kx ky kz c d
end Go.Proofs.YtfkdhkbegfbkaaaDoor
