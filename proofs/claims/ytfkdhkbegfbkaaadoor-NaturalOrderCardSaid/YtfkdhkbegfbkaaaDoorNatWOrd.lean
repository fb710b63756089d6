/-
  The walk of NaturalOrder.
-/
import Derived.Test.YtfkdhkbegfbkaaaDoorNatWGcd
set_option linter.unusedVariables false
set_option maxRecDepth 100000
namespace Go.Proofs.YtfkdhkbegfbkaaaDoor
open Go.RowKit
theorem cmpN_cases (x y : Nat) : (cmpN x y = -1 ∧ x < y) ∨ (cmpN x y = 0 ∧ x = y) ∨ (cmpN x y = 1 ∧ y < x) := by
  rcases Nat.lt_trichotomy x y with h | h | h
  · exact .inl ⟨cmpN_less h, h⟩
  · exact .inr (.inl ⟨by rw [h]; exact cmpN_same y, h⟩)
  · exact .inr (.inr ⟨cmpN_more h, h⟩)
theorem cmpN_flip {x y : Nat} {c : Int} (h : cmpN x y = c) : cmpN y x = -c := by
  subst h
  rcases cmpN_cases x y with ⟨e, l⟩ | ⟨e, l⟩ | ⟨e, l⟩
  · rw [e]; exact (cmpN_more l).trans rfl
  · rw [e, l]; exact (cmpN_same y).trans rfl
  · rw [e]; exact (cmpN_less l).trans rfl
theorem cmpN_add {x y z : Nat} {c : Int} (h : cmpN x y = c) : cmpN (x + z) (y + z) = c := by
  subst h
  unfold cmpN
  by_cases h1 : x < y
  · rw [if_pos h1, if_pos (by omega)]
  · by_cases h2 : y < x
    · rw [if_neg h1, if_pos h2, if_neg (by omega), if_pos (by omega)]
    · rw [if_neg h1, if_neg h2, if_neg (by omega), if_neg (by omega)]
theorem eq_num (x y : Nat) : ((nS x).toList == (nS y).toList) = decide (x = y) := by
  rw [str_beq]
  by_cases h : x = y
  · rw [decide_eq_true h, h]; simp
  · rw [decide_eq_false h]; exact decide_eq_false (fun e => h (nS_inj e))
set_option maxRecDepth 100000 in
set_option maxHeartbeats 4000000 in
theorem NaturalOrder_out0 (a b c : ByteArray) (w : World) (henv : Env w) (ha : a.size ≤ maxLen) (hb : b.size ≤ maxLen) (hc : c.size ≤ maxLen) (f : few80 [a, b, c] = false) :
    Calls Tryd.prog 6 #[.string a, .string b, .string c] w fun e w' => e = .returned (.bool true) ∧ Below w.heap.size w w' := by
  have HENV := Lib.hid henv
  clear henv
  have Ha := Lib.hid ha
  have Hb := Lib.hid hb
  have Hc := Lib.hid hc
  have F := Lib.hid f
  clear ha hb hc f 
  have D0 : Below w.heap.size w w := Below.refl _ _
  go_enter Tryd.func6, Tryd.ntmps6
  go_wp2_with fail
  refine (head_any _ HENV.out).mono ?_
  rintro e w1 ⟨rfl, hb⟩
  have D1 := D0.trans (hb.mono D0.size)
  clear hb D0
  go_wp2_with fail
  refine (few_lit3 _ a b c Ha.out Hb.out Hc.out).mono ?_
  rintro e w2 ⟨rfl, hb⟩
  have D2 := D1.trans (hb.mono D1.size)
  clear hb D1
  simp only [F.out]
  go_wp2_with fail
  go_ret
  exact ⟨rfl, D2⟩
set_option maxRecDepth 100000 in
set_option maxHeartbeats 4000000 in
theorem NaturalOrder_out1 (a b c : ByteArray) (w : World) (henv : Env w) (ha : a.size ≤ maxLen) (hb : b.size ≤ maxLen) (hc : c.size ≤ maxLen) (f : few80 [a, b, c] = true) (va : validB a = false) :
    Calls Tryd.prog 6 #[.string a, .string b, .string c] w fun e w' => e = .returned (.bool true) ∧ Below w.heap.size w w' := by
  have HENV := Lib.hid henv
  clear henv
  have Ha := Lib.hid ha
  have Hb := Lib.hid hb
  have Hc := Lib.hid hc
  have F := Lib.hid f
  have Va := Lib.hid va
  clear ha hb hc f va
  have D0 : Below w.heap.size w w := Below.refl _ _
  go_enter Tryd.func6, Tryd.ntmps6
  go_wp2_with fail
  refine (head_any _ HENV.out).mono ?_
  rintro e w1 ⟨rfl, hb⟩
  have D1 := D0.trans (hb.mono D0.size)
  clear hb D0
  go_wp2_with fail
  refine (few_lit3 _ a b c Ha.out Hb.out Hc.out).mono ?_
  rintro e w2 ⟨rfl, hb⟩
  have D2 := D1.trans (hb.mono D1.size)
  clear hb D1
  simp only [F.out]
  go_wp2_with fail
  refine (cVal _ Va.out).mono ?_
  rintro e w3 ⟨rfl, hb⟩
  have D3 := D2.trans (hb.mono D2.size)
  clear hb D2
  go_wp2_with fail
  go_ret
  exact ⟨rfl, D3⟩
set_option maxRecDepth 100000 in
set_option maxHeartbeats 4000000 in
theorem NaturalOrder_out2 (a b c : ByteArray) (w : World) (henv : Env w) (ha : a.size ≤ maxLen) (hb : b.size ≤ maxLen) (hc : c.size ≤ maxLen) (f : few80 [a, b, c] = true) (va : validB a = true) (vb : validB b = false) :
    Calls Tryd.prog 6 #[.string a, .string b, .string c] w fun e w' => e = .returned (.bool true) ∧ Below w.heap.size w w' := by
  have HENV := Lib.hid henv
  clear henv
  have Ha := Lib.hid ha
  have Hb := Lib.hid hb
  have Hc := Lib.hid hc
  have F := Lib.hid f
  have Va := Lib.hid va
  have Vb := Lib.hid vb
  clear ha hb hc f va vb
  have D0 : Below w.heap.size w w := Below.refl _ _
  go_enter Tryd.func6, Tryd.ntmps6
  go_wp2_with fail
  refine (head_any _ HENV.out).mono ?_
  rintro e w1 ⟨rfl, hb⟩
  have D1 := D0.trans (hb.mono D0.size)
  clear hb D0
  go_wp2_with fail
  refine (few_lit3 _ a b c Ha.out Hb.out Hc.out).mono ?_
  rintro e w2 ⟨rfl, hb⟩
  have D2 := D1.trans (hb.mono D1.size)
  clear hb D1
  simp only [F.out]
  go_wp2_with fail
  refine (cVal _ Va.out).mono ?_
  rintro e w3 ⟨rfl, hb⟩
  have D3 := D2.trans (hb.mono D2.size)
  clear hb D2
  go_wp2_with fail
  refine (cVal _ Vb.out).mono ?_
  rintro e w4 ⟨rfl, hb⟩
  have D4 := D3.trans (hb.mono D3.size)
  clear hb D3
  go_wp2_with fail
  go_ret
  exact ⟨rfl, D4⟩
set_option maxRecDepth 100000 in
set_option maxHeartbeats 4000000 in
theorem NaturalOrder_out3 (a b c : ByteArray) (w : World) (henv : Env w) (ha : a.size ≤ maxLen) (hb : b.size ≤ maxLen) (hc : c.size ≤ maxLen) (f : few80 [a, b, c] = true) (va : validB a = true) (vb : validB b = true) (vc : validB c = false) :
    Calls Tryd.prog 6 #[.string a, .string b, .string c] w fun e w' => e = .returned (.bool true) ∧ Below w.heap.size w w' := by
  have HENV := Lib.hid henv
  clear henv
  have Ha := Lib.hid ha
  have Hb := Lib.hid hb
  have Hc := Lib.hid hc
  have F := Lib.hid f
  have Va := Lib.hid va
  have Vb := Lib.hid vb
  have Vc := Lib.hid vc
  clear ha hb hc f va vb vc
  have D0 : Below w.heap.size w w := Below.refl _ _
  go_enter Tryd.func6, Tryd.ntmps6
  go_wp2_with fail
  refine (head_any _ HENV.out).mono ?_
  rintro e w1 ⟨rfl, hb⟩
  have D1 := D0.trans (hb.mono D0.size)
  clear hb D0
  go_wp2_with fail
  refine (few_lit3 _ a b c Ha.out Hb.out Hc.out).mono ?_
  rintro e w2 ⟨rfl, hb⟩
  have D2 := D1.trans (hb.mono D1.size)
  clear hb D1
  simp only [F.out]
  go_wp2_with fail
  refine (cVal _ Va.out).mono ?_
  rintro e w3 ⟨rfl, hb⟩
  have D3 := D2.trans (hb.mono D2.size)
  clear hb D2
  go_wp2_with fail
  refine (cVal _ Vb.out).mono ?_
  rintro e w4 ⟨rfl, hb⟩
  have D4 := D3.trans (hb.mono D3.size)
  clear hb D3
  go_wp2_with fail
  refine (cVal _ Vc.out).mono ?_
  rintro e w5 ⟨rfl, hb⟩
  have D5 := D4.trans (hb.mono D4.size)
  clear hb D4
  go_wp2_with fail
  go_ret
  exact ⟨rfl, D5⟩
set_option maxRecDepth 100000 in
set_option maxHeartbeats 4000000 in
theorem order_mmm (x y z : Nat) (w : World) (henv : Env w) (hx : x < 10 ^ 80) (hy : y < 10 ^ 80) (hz : z < 10 ^ 80) (h1 : cmpN x y = -1) (h2 : cmpN y z = -1) (h3 : cmpN x z = -1) :
    Calls Tryd.prog 6 #[.string (nS x), .string (nS y), .string (nS z)] w fun e w' => e = .returned (.bool true) ∧ Below w.heap.size w w' := by
  have HENV := Lib.hid henv
  clear henv
  have C1 := Lib.hid h1
  have C2 := Lib.hid h2
  have C3 := Lib.hid h3
  have C4 : Hid (cmpN y x = 1) := Lib.hid (cmpN_flip h1)
  have EQ : ((nS x).toList == (nS y).toList) = false := by rw [eq_num]; exact decide_eq_false (by rcases cmpN_cases x y with h | h | h <;> omega)
  obtain ⟨s, es⟩ : ∃ k, x + z = k := ⟨_, rfl⟩
  have Es := Lib.hid es
  have Ss : Hid (Small s) := Lib.hid (by rw [← es]; exact small_of (sum_lt hx hz) (by omega) (by omega))
  clear es
  obtain ⟨t, et⟩ : ∃ k, y + z = k := ⟨_, rfl⟩
  have Et := Lib.hid et
  have St : Hid (Small t) := Lib.hid (by rw [← et]; exact small_of (sum_lt hy hz) (by omega) (by omega))
  clear et
  have C5 : Hid (cmpN s t = -1) := Lib.hid (by rw [← Es.out, ← Et.out]; exact cmpN_add h1)
  clear h1 h2 h3
  have Sx := Lib.hid (small_of hx (by omega) (by omega))
  have Nx : Hid ((nS x).size ≤ 80) := Lib.hid ((nS_size (by omega)).2 hx)
  have Sy := Lib.hid (small_of hy (by omega) (by omega))
  have Ny : Hid ((nS y).size ≤ 80) := Lib.hid ((nS_size (by omega)).2 hy)
  have Sz := Lib.hid (small_of hz (by omega) (by omega))
  have Nz : Hid ((nS z).size ≤ 80) := Lib.hid ((nS_size (by omega)).2 hz)
  clear hx hy hz
  have D0 : Below w.heap.size w w := Below.refl _ _
  have FW : Hid (few80 [nS x, nS y, nS z] = true) := Lib.hid (by simp only [few80, List.all_cons, List.all_nil, decide_eq_true Nx.out, decide_eq_true Ny.out, decide_eq_true Nz.out]; rfl)
  go_enter Tryd.func6, Tryd.ntmps6
  go_wp2_with fail
  refine (head_any _ HENV.out).mono ?_
  rintro e w1 ⟨rfl, hb⟩
  have D1 := D0.trans (hb.mono D0.size)
  clear hb D0
  go_wp2_with fail
  refine (few_lit3 _ (nS x) (nS y) (nS z) (by have := Nx.out; unfold maxLen; omega) (by have := Ny.out; unfold maxLen; omega) (by have := Nz.out; unfold maxLen; omega)).mono ?_
  rintro e w2 ⟨rfl, hb⟩
  have D2 := D1.trans (hb.mono D1.size)
  clear hb D1
  simp only [FW.out]
  go_wp2_with fail
  refine (cVal _ (small_valid Sx.out)).mono ?_
  rintro e w3 ⟨rfl, hb⟩
  have D3 := D2.trans (hb.mono D2.size)
  clear hb D2
  go_wp2_with fail
  refine (cVal _ (small_valid Sy.out)).mono ?_
  rintro e w4 ⟨rfl, hb⟩
  have D4 := D3.trans (hb.mono D3.size)
  clear hb D3
  go_wp2_with fail
  refine (cVal _ (small_valid Sz.out)).mono ?_
  rintro e w5 ⟨rfl, hb⟩
  have D5 := D4.trans (hb.mono D4.size)
  clear hb D4
  go_wp2_with fail
  refine (cCmp _ Sx.out Sy.out C1.out).mono ?_
  rintro e w6 ⟨rfl, hb⟩
  have D6 := D5.trans (hb.mono D5.size)
  clear hb D5
  go_wp2_with fail
  refine (cCmp _ Sy.out Sz.out C2.out).mono ?_
  rintro e w7 ⟨rfl, hb⟩
  have D7 := D6.trans (hb.mono D6.size)
  clear hb D6
  go_wp2_with fail
  refine (cCmp _ Sx.out Sz.out C3.out).mono ?_
  rintro e w8 ⟨rfl, hb⟩
  have D8 := D7.trans (hb.mono D7.size)
  clear hb D7
  go_wp2_with fail
  refine (cCmp _ Sy.out Sx.out C4.out).mono ?_
  rintro e w9 ⟨rfl, hb⟩
  have D9 := D8.trans (hb.mono D8.size)
  clear hb D8
  go_wp2_with fail
  refine (cAdd _ Sx.out Sz.out Ss.out Es.out).mono ?_
  rintro e w10 ⟨rfl, hb⟩
  have D10 := D9.trans (hb.mono D9.size)
  clear hb D9
  go_wp2_with fail
  refine (cAdd _ Sy.out Sz.out St.out Et.out).mono ?_
  rintro e w11 ⟨rfl, hb⟩
  have D11 := D10.trans (hb.mono D10.size)
  clear hb D10
  go_wp2_with fail
  refine (cSub _ Ss.out Sz.out (by rw [Nat.add_comm]; exact Es.out)).mono ?_
  rintro e w12 ⟨rfl, hb⟩
  have D12 := D11.trans (hb.mono D11.size)
  clear hb D11
  go_wp2_with fail
  refine (cCmp _ Ss.out St.out C5.out).mono ?_
  rintro e w13 ⟨rfl, hb⟩
  have D13 := D12.trans (hb.mono D12.size)
  clear hb D12
  go_wp2_with fail
  go_ret
  exact ⟨by simp, D13⟩
set_option maxRecDepth 100000 in
set_option maxHeartbeats 4000000 in
theorem order_mom (x y z : Nat) (w : World) (henv : Env w) (hx : x < 10 ^ 80) (hy : y < 10 ^ 80) (hz : z < 10 ^ 80) (h1 : cmpN x y = -1) (h2 : cmpN y z = 0) (h3 : cmpN x z = -1) :
    Calls Tryd.prog 6 #[.string (nS x), .string (nS y), .string (nS z)] w fun e w' => e = .returned (.bool true) ∧ Below w.heap.size w w' := by
  have HENV := Lib.hid henv
  clear henv
  have C1 := Lib.hid h1
  have C2 := Lib.hid h2
  have C3 := Lib.hid h3
  have C4 : Hid (cmpN y x = 1) := Lib.hid (cmpN_flip h1)
  have EQ : ((nS x).toList == (nS y).toList) = false := by rw [eq_num]; exact decide_eq_false (by rcases cmpN_cases x y with h | h | h <;> omega)
  obtain ⟨s, es⟩ : ∃ k, x + z = k := ⟨_, rfl⟩
  have Es := Lib.hid es
  have Ss : Hid (Small s) := Lib.hid (by rw [← es]; exact small_of (sum_lt hx hz) (by omega) (by omega))
  clear es
  obtain ⟨t, et⟩ : ∃ k, y + z = k := ⟨_, rfl⟩
  have Et := Lib.hid et
  have St : Hid (Small t) := Lib.hid (by rw [← et]; exact small_of (sum_lt hy hz) (by omega) (by omega))
  clear et
  have C5 : Hid (cmpN s t = -1) := Lib.hid (by rw [← Es.out, ← Et.out]; exact cmpN_add h1)
  clear h1 h2 h3
  have Sx := Lib.hid (small_of hx (by omega) (by omega))
  have Nx : Hid ((nS x).size ≤ 80) := Lib.hid ((nS_size (by omega)).2 hx)
  have Sy := Lib.hid (small_of hy (by omega) (by omega))
  have Ny : Hid ((nS y).size ≤ 80) := Lib.hid ((nS_size (by omega)).2 hy)
  have Sz := Lib.hid (small_of hz (by omega) (by omega))
  have Nz : Hid ((nS z).size ≤ 80) := Lib.hid ((nS_size (by omega)).2 hz)
  clear hx hy hz
  have D0 : Below w.heap.size w w := Below.refl _ _
  have FW : Hid (few80 [nS x, nS y, nS z] = true) := Lib.hid (by simp only [few80, List.all_cons, List.all_nil, decide_eq_true Nx.out, decide_eq_true Ny.out, decide_eq_true Nz.out]; rfl)
  go_enter Tryd.func6, Tryd.ntmps6
  go_wp2_with fail
  refine (head_any _ HENV.out).mono ?_
  rintro e w1 ⟨rfl, hb⟩
  have D1 := D0.trans (hb.mono D0.size)
  clear hb D0
  go_wp2_with fail
  refine (few_lit3 _ (nS x) (nS y) (nS z) (by have := Nx.out; unfold maxLen; omega) (by have := Ny.out; unfold maxLen; omega) (by have := Nz.out; unfold maxLen; omega)).mono ?_
  rintro e w2 ⟨rfl, hb⟩
  have D2 := D1.trans (hb.mono D1.size)
  clear hb D1
  simp only [FW.out]
  go_wp2_with fail
  refine (cVal _ (small_valid Sx.out)).mono ?_
  rintro e w3 ⟨rfl, hb⟩
  have D3 := D2.trans (hb.mono D2.size)
  clear hb D2
  go_wp2_with fail
  refine (cVal _ (small_valid Sy.out)).mono ?_
  rintro e w4 ⟨rfl, hb⟩
  have D4 := D3.trans (hb.mono D3.size)
  clear hb D3
  go_wp2_with fail
  refine (cVal _ (small_valid Sz.out)).mono ?_
  rintro e w5 ⟨rfl, hb⟩
  have D5 := D4.trans (hb.mono D4.size)
  clear hb D4
  go_wp2_with fail
  refine (cCmp _ Sx.out Sy.out C1.out).mono ?_
  rintro e w6 ⟨rfl, hb⟩
  have D6 := D5.trans (hb.mono D5.size)
  clear hb D5
  go_wp2_with fail
  refine (cCmp _ Sy.out Sz.out C2.out).mono ?_
  rintro e w7 ⟨rfl, hb⟩
  have D7 := D6.trans (hb.mono D6.size)
  clear hb D6
  go_wp2_with fail
  refine (cCmp _ Sx.out Sz.out C3.out).mono ?_
  rintro e w8 ⟨rfl, hb⟩
  have D8 := D7.trans (hb.mono D7.size)
  clear hb D7
  go_wp2_with fail
  refine (cCmp _ Sy.out Sx.out C4.out).mono ?_
  rintro e w9 ⟨rfl, hb⟩
  have D9 := D8.trans (hb.mono D8.size)
  clear hb D8
  go_wp2_with fail
  refine (cAdd _ Sx.out Sz.out Ss.out Es.out).mono ?_
  rintro e w10 ⟨rfl, hb⟩
  have D10 := D9.trans (hb.mono D9.size)
  clear hb D9
  go_wp2_with fail
  refine (cAdd _ Sy.out Sz.out St.out Et.out).mono ?_
  rintro e w11 ⟨rfl, hb⟩
  have D11 := D10.trans (hb.mono D10.size)
  clear hb D10
  go_wp2_with fail
  refine (cSub _ Ss.out Sz.out (by rw [Nat.add_comm]; exact Es.out)).mono ?_
  rintro e w12 ⟨rfl, hb⟩
  have D12 := D11.trans (hb.mono D11.size)
  clear hb D11
  go_wp2_with fail
  refine (cCmp _ Ss.out St.out C5.out).mono ?_
  rintro e w13 ⟨rfl, hb⟩
  have D13 := D12.trans (hb.mono D12.size)
  clear hb D12
  go_wp2_with fail
  go_ret
  exact ⟨by simp, D13⟩
set_option maxRecDepth 100000 in
set_option maxHeartbeats 4000000 in
theorem order_mpm (x y z : Nat) (w : World) (henv : Env w) (hx : x < 10 ^ 80) (hy : y < 10 ^ 80) (hz : z < 10 ^ 80) (h1 : cmpN x y = -1) (h2 : cmpN y z = 1) (h3 : cmpN x z = -1) :
    Calls Tryd.prog 6 #[.string (nS x), .string (nS y), .string (nS z)] w fun e w' => e = .returned (.bool true) ∧ Below w.heap.size w w' := by
  have HENV := Lib.hid henv
  clear henv
  have C1 := Lib.hid h1
  have C2 := Lib.hid h2
  have C3 := Lib.hid h3
  have C4 : Hid (cmpN y x = 1) := Lib.hid (cmpN_flip h1)
  have EQ : ((nS x).toList == (nS y).toList) = false := by rw [eq_num]; exact decide_eq_false (by rcases cmpN_cases x y with h | h | h <;> omega)
  obtain ⟨s, es⟩ : ∃ k, x + z = k := ⟨_, rfl⟩
  have Es := Lib.hid es
  have Ss : Hid (Small s) := Lib.hid (by rw [← es]; exact small_of (sum_lt hx hz) (by omega) (by omega))
  clear es
  obtain ⟨t, et⟩ : ∃ k, y + z = k := ⟨_, rfl⟩
  have Et := Lib.hid et
  have St : Hid (Small t) := Lib.hid (by rw [← et]; exact small_of (sum_lt hy hz) (by omega) (by omega))
  clear et
  have C5 : Hid (cmpN s t = -1) := Lib.hid (by rw [← Es.out, ← Et.out]; exact cmpN_add h1)
  clear h1 h2 h3
  have Sx := Lib.hid (small_of hx (by omega) (by omega))
  have Nx : Hid ((nS x).size ≤ 80) := Lib.hid ((nS_size (by omega)).2 hx)
  have Sy := Lib.hid (small_of hy (by omega) (by omega))
  have Ny : Hid ((nS y).size ≤ 80) := Lib.hid ((nS_size (by omega)).2 hy)
  have Sz := Lib.hid (small_of hz (by omega) (by omega))
  have Nz : Hid ((nS z).size ≤ 80) := Lib.hid ((nS_size (by omega)).2 hz)
  clear hx hy hz
  have D0 : Below w.heap.size w w := Below.refl _ _
  have FW : Hid (few80 [nS x, nS y, nS z] = true) := Lib.hid (by simp only [few80, List.all_cons, List.all_nil, decide_eq_true Nx.out, decide_eq_true Ny.out, decide_eq_true Nz.out]; rfl)
  go_enter Tryd.func6, Tryd.ntmps6
  go_wp2_with fail
  refine (head_any _ HENV.out).mono ?_
  rintro e w1 ⟨rfl, hb⟩
  have D1 := D0.trans (hb.mono D0.size)
  clear hb D0
  go_wp2_with fail
  refine (few_lit3 _ (nS x) (nS y) (nS z) (by have := Nx.out; unfold maxLen; omega) (by have := Ny.out; unfold maxLen; omega) (by have := Nz.out; unfold maxLen; omega)).mono ?_
  rintro e w2 ⟨rfl, hb⟩
  have D2 := D1.trans (hb.mono D1.size)
  clear hb D1
  simp only [FW.out]
  go_wp2_with fail
  refine (cVal _ (small_valid Sx.out)).mono ?_
  rintro e w3 ⟨rfl, hb⟩
  have D3 := D2.trans (hb.mono D2.size)
  clear hb D2
  go_wp2_with fail
  refine (cVal _ (small_valid Sy.out)).mono ?_
  rintro e w4 ⟨rfl, hb⟩
  have D4 := D3.trans (hb.mono D3.size)
  clear hb D3
  go_wp2_with fail
  refine (cVal _ (small_valid Sz.out)).mono ?_
  rintro e w5 ⟨rfl, hb⟩
  have D5 := D4.trans (hb.mono D4.size)
  clear hb D4
  go_wp2_with fail
  refine (cCmp _ Sx.out Sy.out C1.out).mono ?_
  rintro e w6 ⟨rfl, hb⟩
  have D6 := D5.trans (hb.mono D5.size)
  clear hb D5
  go_wp2_with fail
  refine (cCmp _ Sy.out Sz.out C2.out).mono ?_
  rintro e w7 ⟨rfl, hb⟩
  have D7 := D6.trans (hb.mono D6.size)
  clear hb D6
  go_wp2_with fail
  refine (cCmp _ Sx.out Sz.out C3.out).mono ?_
  rintro e w8 ⟨rfl, hb⟩
  have D8 := D7.trans (hb.mono D7.size)
  clear hb D7
  go_wp2_with fail
  refine (cCmp _ Sy.out Sx.out C4.out).mono ?_
  rintro e w9 ⟨rfl, hb⟩
  have D9 := D8.trans (hb.mono D8.size)
  clear hb D8
  go_wp2_with fail
  refine (cAdd _ Sx.out Sz.out Ss.out Es.out).mono ?_
  rintro e w10 ⟨rfl, hb⟩
  have D10 := D9.trans (hb.mono D9.size)
  clear hb D9
  go_wp2_with fail
  refine (cAdd _ Sy.out Sz.out St.out Et.out).mono ?_
  rintro e w11 ⟨rfl, hb⟩
  have D11 := D10.trans (hb.mono D10.size)
  clear hb D10
  go_wp2_with fail
  refine (cSub _ Ss.out Sz.out (by rw [Nat.add_comm]; exact Es.out)).mono ?_
  rintro e w12 ⟨rfl, hb⟩
  have D12 := D11.trans (hb.mono D11.size)
  clear hb D11
  go_wp2_with fail
  refine (cCmp _ Ss.out St.out C5.out).mono ?_
  rintro e w13 ⟨rfl, hb⟩
  have D13 := D12.trans (hb.mono D12.size)
  clear hb D12
  go_wp2_with fail
  go_ret
  exact ⟨by simp, D13⟩
set_option maxRecDepth 100000 in
set_option maxHeartbeats 4000000 in
theorem order_mpo (x y z : Nat) (w : World) (henv : Env w) (hx : x < 10 ^ 80) (hy : y < 10 ^ 80) (hz : z < 10 ^ 80) (h1 : cmpN x y = -1) (h2 : cmpN y z = 1) (h3 : cmpN x z = 0) :
    Calls Tryd.prog 6 #[.string (nS x), .string (nS y), .string (nS z)] w fun e w' => e = .returned (.bool true) ∧ Below w.heap.size w w' := by
  have HENV := Lib.hid henv
  clear henv
  have C1 := Lib.hid h1
  have C2 := Lib.hid h2
  have C3 := Lib.hid h3
  have C4 : Hid (cmpN y x = 1) := Lib.hid (cmpN_flip h1)
  have EQ : ((nS x).toList == (nS y).toList) = false := by rw [eq_num]; exact decide_eq_false (by rcases cmpN_cases x y with h | h | h <;> omega)
  obtain ⟨s, es⟩ : ∃ k, x + z = k := ⟨_, rfl⟩
  have Es := Lib.hid es
  have Ss : Hid (Small s) := Lib.hid (by rw [← es]; exact small_of (sum_lt hx hz) (by omega) (by omega))
  clear es
  obtain ⟨t, et⟩ : ∃ k, y + z = k := ⟨_, rfl⟩
  have Et := Lib.hid et
  have St : Hid (Small t) := Lib.hid (by rw [← et]; exact small_of (sum_lt hy hz) (by omega) (by omega))
  clear et
  have C5 : Hid (cmpN s t = -1) := Lib.hid (by rw [← Es.out, ← Et.out]; exact cmpN_add h1)
  clear h1 h2 h3
  have Sx := Lib.hid (small_of hx (by omega) (by omega))
  have Nx : Hid ((nS x).size ≤ 80) := Lib.hid ((nS_size (by omega)).2 hx)
  have Sy := Lib.hid (small_of hy (by omega) (by omega))
  have Ny : Hid ((nS y).size ≤ 80) := Lib.hid ((nS_size (by omega)).2 hy)
  have Sz := Lib.hid (small_of hz (by omega) (by omega))
  have Nz : Hid ((nS z).size ≤ 80) := Lib.hid ((nS_size (by omega)).2 hz)
  clear hx hy hz
  have D0 : Below w.heap.size w w := Below.refl _ _
  have FW : Hid (few80 [nS x, nS y, nS z] = true) := Lib.hid (by simp only [few80, List.all_cons, List.all_nil, decide_eq_true Nx.out, decide_eq_true Ny.out, decide_eq_true Nz.out]; rfl)
  go_enter Tryd.func6, Tryd.ntmps6
  go_wp2_with fail
  refine (head_any _ HENV.out).mono ?_
  rintro e w1 ⟨rfl, hb⟩
  have D1 := D0.trans (hb.mono D0.size)
  clear hb D0
  go_wp2_with fail
  refine (few_lit3 _ (nS x) (nS y) (nS z) (by have := Nx.out; unfold maxLen; omega) (by have := Ny.out; unfold maxLen; omega) (by have := Nz.out; unfold maxLen; omega)).mono ?_
  rintro e w2 ⟨rfl, hb⟩
  have D2 := D1.trans (hb.mono D1.size)
  clear hb D1
  simp only [FW.out]
  go_wp2_with fail
  refine (cVal _ (small_valid Sx.out)).mono ?_
  rintro e w3 ⟨rfl, hb⟩
  have D3 := D2.trans (hb.mono D2.size)
  clear hb D2
  go_wp2_with fail
  refine (cVal _ (small_valid Sy.out)).mono ?_
  rintro e w4 ⟨rfl, hb⟩
  have D4 := D3.trans (hb.mono D3.size)
  clear hb D3
  go_wp2_with fail
  refine (cVal _ (small_valid Sz.out)).mono ?_
  rintro e w5 ⟨rfl, hb⟩
  have D5 := D4.trans (hb.mono D4.size)
  clear hb D4
  go_wp2_with fail
  refine (cCmp _ Sx.out Sy.out C1.out).mono ?_
  rintro e w6 ⟨rfl, hb⟩
  have D6 := D5.trans (hb.mono D5.size)
  clear hb D5
  go_wp2_with fail
  refine (cCmp _ Sy.out Sz.out C2.out).mono ?_
  rintro e w7 ⟨rfl, hb⟩
  have D7 := D6.trans (hb.mono D6.size)
  clear hb D6
  go_wp2_with fail
  refine (cCmp _ Sx.out Sz.out C3.out).mono ?_
  rintro e w8 ⟨rfl, hb⟩
  have D8 := D7.trans (hb.mono D7.size)
  clear hb D7
  go_wp2_with fail
  refine (cCmp _ Sy.out Sx.out C4.out).mono ?_
  rintro e w9 ⟨rfl, hb⟩
  have D9 := D8.trans (hb.mono D8.size)
  clear hb D8
  go_wp2_with fail
  refine (cAdd _ Sx.out Sz.out Ss.out Es.out).mono ?_
  rintro e w10 ⟨rfl, hb⟩
  have D10 := D9.trans (hb.mono D9.size)
  clear hb D9
  go_wp2_with fail
  refine (cAdd _ Sy.out Sz.out St.out Et.out).mono ?_
  rintro e w11 ⟨rfl, hb⟩
  have D11 := D10.trans (hb.mono D10.size)
  clear hb D10
  go_wp2_with fail
  refine (cSub _ Ss.out Sz.out (by rw [Nat.add_comm]; exact Es.out)).mono ?_
  rintro e w12 ⟨rfl, hb⟩
  have D12 := D11.trans (hb.mono D11.size)
  clear hb D11
  go_wp2_with fail
  refine (cCmp _ Ss.out St.out C5.out).mono ?_
  rintro e w13 ⟨rfl, hb⟩
  have D13 := D12.trans (hb.mono D12.size)
  clear hb D12
  go_wp2_with fail
  go_ret
  exact ⟨by simp, D13⟩
set_option maxRecDepth 100000 in
set_option maxHeartbeats 4000000 in
theorem order_mpp (x y z : Nat) (w : World) (henv : Env w) (hx : x < 10 ^ 80) (hy : y < 10 ^ 80) (hz : z < 10 ^ 80) (h1 : cmpN x y = -1) (h2 : cmpN y z = 1) (h3 : cmpN x z = 1) :
    Calls Tryd.prog 6 #[.string (nS x), .string (nS y), .string (nS z)] w fun e w' => e = .returned (.bool true) ∧ Below w.heap.size w w' := by
  have HENV := Lib.hid henv
  clear henv
  have C1 := Lib.hid h1
  have C2 := Lib.hid h2
  have C3 := Lib.hid h3
  have C4 : Hid (cmpN y x = 1) := Lib.hid (cmpN_flip h1)
  have EQ : ((nS x).toList == (nS y).toList) = false := by rw [eq_num]; exact decide_eq_false (by rcases cmpN_cases x y with h | h | h <;> omega)
  obtain ⟨s, es⟩ : ∃ k, x + z = k := ⟨_, rfl⟩
  have Es := Lib.hid es
  have Ss : Hid (Small s) := Lib.hid (by rw [← es]; exact small_of (sum_lt hx hz) (by omega) (by omega))
  clear es
  obtain ⟨t, et⟩ : ∃ k, y + z = k := ⟨_, rfl⟩
  have Et := Lib.hid et
  have St : Hid (Small t) := Lib.hid (by rw [← et]; exact small_of (sum_lt hy hz) (by omega) (by omega))
  clear et
  have C5 : Hid (cmpN s t = -1) := Lib.hid (by rw [← Es.out, ← Et.out]; exact cmpN_add h1)
  clear h1 h2 h3
  have Sx := Lib.hid (small_of hx (by omega) (by omega))
  have Nx : Hid ((nS x).size ≤ 80) := Lib.hid ((nS_size (by omega)).2 hx)
  have Sy := Lib.hid (small_of hy (by omega) (by omega))
  have Ny : Hid ((nS y).size ≤ 80) := Lib.hid ((nS_size (by omega)).2 hy)
  have Sz := Lib.hid (small_of hz (by omega) (by omega))
  have Nz : Hid ((nS z).size ≤ 80) := Lib.hid ((nS_size (by omega)).2 hz)
  clear hx hy hz
  have D0 : Below w.heap.size w w := Below.refl _ _
  have FW : Hid (few80 [nS x, nS y, nS z] = true) := Lib.hid (by simp only [few80, List.all_cons, List.all_nil, decide_eq_true Nx.out, decide_eq_true Ny.out, decide_eq_true Nz.out]; rfl)
  go_enter Tryd.func6, Tryd.ntmps6
  go_wp2_with fail
  refine (head_any _ HENV.out).mono ?_
  rintro e w1 ⟨rfl, hb⟩
  have D1 := D0.trans (hb.mono D0.size)
  clear hb D0
  go_wp2_with fail
  refine (few_lit3 _ (nS x) (nS y) (nS z) (by have := Nx.out; unfold maxLen; omega) (by have := Ny.out; unfold maxLen; omega) (by have := Nz.out; unfold maxLen; omega)).mono ?_
  rintro e w2 ⟨rfl, hb⟩
  have D2 := D1.trans (hb.mono D1.size)
  clear hb D1
  simp only [FW.out]
  go_wp2_with fail
  refine (cVal _ (small_valid Sx.out)).mono ?_
  rintro e w3 ⟨rfl, hb⟩
  have D3 := D2.trans (hb.mono D2.size)
  clear hb D2
  go_wp2_with fail
  refine (cVal _ (small_valid Sy.out)).mono ?_
  rintro e w4 ⟨rfl, hb⟩
  have D4 := D3.trans (hb.mono D3.size)
  clear hb D3
  go_wp2_with fail
  refine (cVal _ (small_valid Sz.out)).mono ?_
  rintro e w5 ⟨rfl, hb⟩
  have D5 := D4.trans (hb.mono D4.size)
  clear hb D4
  go_wp2_with fail
  refine (cCmp _ Sx.out Sy.out C1.out).mono ?_
  rintro e w6 ⟨rfl, hb⟩
  have D6 := D5.trans (hb.mono D5.size)
  clear hb D5
  go_wp2_with fail
  refine (cCmp _ Sy.out Sz.out C2.out).mono ?_
  rintro e w7 ⟨rfl, hb⟩
  have D7 := D6.trans (hb.mono D6.size)
  clear hb D6
  go_wp2_with fail
  refine (cCmp _ Sx.out Sz.out C3.out).mono ?_
  rintro e w8 ⟨rfl, hb⟩
  have D8 := D7.trans (hb.mono D7.size)
  clear hb D7
  go_wp2_with fail
  refine (cCmp _ Sy.out Sx.out C4.out).mono ?_
  rintro e w9 ⟨rfl, hb⟩
  have D9 := D8.trans (hb.mono D8.size)
  clear hb D8
  go_wp2_with fail
  refine (cAdd _ Sx.out Sz.out Ss.out Es.out).mono ?_
  rintro e w10 ⟨rfl, hb⟩
  have D10 := D9.trans (hb.mono D9.size)
  clear hb D9
  go_wp2_with fail
  refine (cAdd _ Sy.out Sz.out St.out Et.out).mono ?_
  rintro e w11 ⟨rfl, hb⟩
  have D11 := D10.trans (hb.mono D10.size)
  clear hb D10
  go_wp2_with fail
  refine (cSub _ Ss.out Sz.out (by rw [Nat.add_comm]; exact Es.out)).mono ?_
  rintro e w12 ⟨rfl, hb⟩
  have D12 := D11.trans (hb.mono D11.size)
  clear hb D11
  go_wp2_with fail
  refine (cCmp _ Ss.out St.out C5.out).mono ?_
  rintro e w13 ⟨rfl, hb⟩
  have D13 := D12.trans (hb.mono D12.size)
  clear hb D12
  go_wp2_with fail
  go_ret
  exact ⟨by simp, D13⟩
set_option maxRecDepth 100000 in
set_option maxHeartbeats 4000000 in
theorem order_omm (x y z : Nat) (w : World) (henv : Env w) (hx : x < 10 ^ 80) (hy : y < 10 ^ 80) (hz : z < 10 ^ 80) (h1 : cmpN x y = 0) (h2 : cmpN y z = -1) (h3 : cmpN x z = -1) :
    Calls Tryd.prog 6 #[.string (nS x), .string (nS y), .string (nS z)] w fun e w' => e = .returned (.bool true) ∧ Below w.heap.size w w' := by
  have HENV := Lib.hid henv
  clear henv
  have C1 := Lib.hid h1
  have C2 := Lib.hid h2
  have C3 := Lib.hid h3
  have C4 : Hid (cmpN y x = 0) := Lib.hid (cmpN_flip h1)
  have EQ : ((nS x).toList == (nS y).toList) = true := by rw [eq_num]; exact decide_eq_true (by rcases cmpN_cases x y with h | h | h <;> omega)
  obtain ⟨s, es⟩ : ∃ k, x + z = k := ⟨_, rfl⟩
  have Es := Lib.hid es
  have Ss : Hid (Small s) := Lib.hid (by rw [← es]; exact small_of (sum_lt hx hz) (by omega) (by omega))
  clear es
  obtain ⟨t, et⟩ : ∃ k, y + z = k := ⟨_, rfl⟩
  have Et := Lib.hid et
  have St : Hid (Small t) := Lib.hid (by rw [← et]; exact small_of (sum_lt hy hz) (by omega) (by omega))
  clear et
  have C5 : Hid (cmpN s t = 0) := Lib.hid (by rw [← Es.out, ← Et.out]; exact cmpN_add h1)
  clear h1 h2 h3
  have Sx := Lib.hid (small_of hx (by omega) (by omega))
  have Nx : Hid ((nS x).size ≤ 80) := Lib.hid ((nS_size (by omega)).2 hx)
  have Sy := Lib.hid (small_of hy (by omega) (by omega))
  have Ny : Hid ((nS y).size ≤ 80) := Lib.hid ((nS_size (by omega)).2 hy)
  have Sz := Lib.hid (small_of hz (by omega) (by omega))
  have Nz : Hid ((nS z).size ≤ 80) := Lib.hid ((nS_size (by omega)).2 hz)
  clear hx hy hz
  have D0 : Below w.heap.size w w := Below.refl _ _
  have FW : Hid (few80 [nS x, nS y, nS z] = true) := Lib.hid (by simp only [few80, List.all_cons, List.all_nil, decide_eq_true Nx.out, decide_eq_true Ny.out, decide_eq_true Nz.out]; rfl)
  go_enter Tryd.func6, Tryd.ntmps6
  go_wp2_with fail
  refine (head_any _ HENV.out).mono ?_
  rintro e w1 ⟨rfl, hb⟩
  have D1 := D0.trans (hb.mono D0.size)
  clear hb D0
  go_wp2_with fail
  refine (few_lit3 _ (nS x) (nS y) (nS z) (by have := Nx.out; unfold maxLen; omega) (by have := Ny.out; unfold maxLen; omega) (by have := Nz.out; unfold maxLen; omega)).mono ?_
  rintro e w2 ⟨rfl, hb⟩
  have D2 := D1.trans (hb.mono D1.size)
  clear hb D1
  simp only [FW.out]
  go_wp2_with fail
  refine (cVal _ (small_valid Sx.out)).mono ?_
  rintro e w3 ⟨rfl, hb⟩
  have D3 := D2.trans (hb.mono D2.size)
  clear hb D2
  go_wp2_with fail
  refine (cVal _ (small_valid Sy.out)).mono ?_
  rintro e w4 ⟨rfl, hb⟩
  have D4 := D3.trans (hb.mono D3.size)
  clear hb D3
  go_wp2_with fail
  refine (cVal _ (small_valid Sz.out)).mono ?_
  rintro e w5 ⟨rfl, hb⟩
  have D5 := D4.trans (hb.mono D4.size)
  clear hb D4
  go_wp2_with fail
  refine (cCmp _ Sx.out Sy.out C1.out).mono ?_
  rintro e w6 ⟨rfl, hb⟩
  have D6 := D5.trans (hb.mono D5.size)
  clear hb D5
  go_wp2_with fail
  refine (cCmp _ Sy.out Sz.out C2.out).mono ?_
  rintro e w7 ⟨rfl, hb⟩
  have D7 := D6.trans (hb.mono D6.size)
  clear hb D6
  go_wp2_with fail
  refine (cCmp _ Sx.out Sz.out C3.out).mono ?_
  rintro e w8 ⟨rfl, hb⟩
  have D8 := D7.trans (hb.mono D7.size)
  clear hb D7
  go_wp2_with fail
  refine (cCmp _ Sy.out Sx.out C4.out).mono ?_
  rintro e w9 ⟨rfl, hb⟩
  have D9 := D8.trans (hb.mono D8.size)
  clear hb D8
  go_wp2_with fail
  refine (cAdd _ Sx.out Sz.out Ss.out Es.out).mono ?_
  rintro e w10 ⟨rfl, hb⟩
  have D10 := D9.trans (hb.mono D9.size)
  clear hb D9
  go_wp2_with fail
  refine (cAdd _ Sy.out Sz.out St.out Et.out).mono ?_
  rintro e w11 ⟨rfl, hb⟩
  have D11 := D10.trans (hb.mono D10.size)
  clear hb D10
  go_wp2_with fail
  refine (cSub _ Ss.out Sz.out (by rw [Nat.add_comm]; exact Es.out)).mono ?_
  rintro e w12 ⟨rfl, hb⟩
  have D12 := D11.trans (hb.mono D11.size)
  clear hb D11
  go_wp2_with fail
  refine (cCmp _ Ss.out St.out C5.out).mono ?_
  rintro e w13 ⟨rfl, hb⟩
  have D13 := D12.trans (hb.mono D12.size)
  clear hb D12
  go_wp2_with fail
  go_ret
  exact ⟨by simp, D13⟩
set_option maxRecDepth 100000 in
set_option maxHeartbeats 4000000 in
theorem order_ooo (x y z : Nat) (w : World) (henv : Env w) (hx : x < 10 ^ 80) (hy : y < 10 ^ 80) (hz : z < 10 ^ 80) (h1 : cmpN x y = 0) (h2 : cmpN y z = 0) (h3 : cmpN x z = 0) :
    Calls Tryd.prog 6 #[.string (nS x), .string (nS y), .string (nS z)] w fun e w' => e = .returned (.bool true) ∧ Below w.heap.size w w' := by
  have HENV := Lib.hid henv
  clear henv
  have C1 := Lib.hid h1
  have C2 := Lib.hid h2
  have C3 := Lib.hid h3
  have C4 : Hid (cmpN y x = 0) := Lib.hid (cmpN_flip h1)
  have EQ : ((nS x).toList == (nS y).toList) = true := by rw [eq_num]; exact decide_eq_true (by rcases cmpN_cases x y with h | h | h <;> omega)
  obtain ⟨s, es⟩ : ∃ k, x + z = k := ⟨_, rfl⟩
  have Es := Lib.hid es
  have Ss : Hid (Small s) := Lib.hid (by rw [← es]; exact small_of (sum_lt hx hz) (by omega) (by omega))
  clear es
  obtain ⟨t, et⟩ : ∃ k, y + z = k := ⟨_, rfl⟩
  have Et := Lib.hid et
  have St : Hid (Small t) := Lib.hid (by rw [← et]; exact small_of (sum_lt hy hz) (by omega) (by omega))
  clear et
  have C5 : Hid (cmpN s t = 0) := Lib.hid (by rw [← Es.out, ← Et.out]; exact cmpN_add h1)
  clear h1 h2 h3
  have Sx := Lib.hid (small_of hx (by omega) (by omega))
  have Nx : Hid ((nS x).size ≤ 80) := Lib.hid ((nS_size (by omega)).2 hx)
  have Sy := Lib.hid (small_of hy (by omega) (by omega))
  have Ny : Hid ((nS y).size ≤ 80) := Lib.hid ((nS_size (by omega)).2 hy)
  have Sz := Lib.hid (small_of hz (by omega) (by omega))
  have Nz : Hid ((nS z).size ≤ 80) := Lib.hid ((nS_size (by omega)).2 hz)
  clear hx hy hz
  have D0 : Below w.heap.size w w := Below.refl _ _
  have FW : Hid (few80 [nS x, nS y, nS z] = true) := Lib.hid (by simp only [few80, List.all_cons, List.all_nil, decide_eq_true Nx.out, decide_eq_true Ny.out, decide_eq_true Nz.out]; rfl)
  go_enter Tryd.func6, Tryd.ntmps6
  go_wp2_with fail
  refine (head_any _ HENV.out).mono ?_
  rintro e w1 ⟨rfl, hb⟩
  have D1 := D0.trans (hb.mono D0.size)
  clear hb D0
  go_wp2_with fail
  refine (few_lit3 _ (nS x) (nS y) (nS z) (by have := Nx.out; unfold maxLen; omega) (by have := Ny.out; unfold maxLen; omega) (by have := Nz.out; unfold maxLen; omega)).mono ?_
  rintro e w2 ⟨rfl, hb⟩
  have D2 := D1.trans (hb.mono D1.size)
  clear hb D1
  simp only [FW.out]
  go_wp2_with fail
  refine (cVal _ (small_valid Sx.out)).mono ?_
  rintro e w3 ⟨rfl, hb⟩
  have D3 := D2.trans (hb.mono D2.size)
  clear hb D2
  go_wp2_with fail
  refine (cVal _ (small_valid Sy.out)).mono ?_
  rintro e w4 ⟨rfl, hb⟩
  have D4 := D3.trans (hb.mono D3.size)
  clear hb D3
  go_wp2_with fail
  refine (cVal _ (small_valid Sz.out)).mono ?_
  rintro e w5 ⟨rfl, hb⟩
  have D5 := D4.trans (hb.mono D4.size)
  clear hb D4
  go_wp2_with fail
  refine (cCmp _ Sx.out Sy.out C1.out).mono ?_
  rintro e w6 ⟨rfl, hb⟩
  have D6 := D5.trans (hb.mono D5.size)
  clear hb D5
  go_wp2_with fail
  refine (cCmp _ Sy.out Sz.out C2.out).mono ?_
  rintro e w7 ⟨rfl, hb⟩
  have D7 := D6.trans (hb.mono D6.size)
  clear hb D6
  go_wp2_with fail
  refine (cCmp _ Sx.out Sz.out C3.out).mono ?_
  rintro e w8 ⟨rfl, hb⟩
  have D8 := D7.trans (hb.mono D7.size)
  clear hb D7
  go_wp2_with fail
  refine (cCmp _ Sy.out Sx.out C4.out).mono ?_
  rintro e w9 ⟨rfl, hb⟩
  have D9 := D8.trans (hb.mono D8.size)
  clear hb D8
  go_wp2_with fail
  refine (cAdd _ Sx.out Sz.out Ss.out Es.out).mono ?_
  rintro e w10 ⟨rfl, hb⟩
  have D10 := D9.trans (hb.mono D9.size)
  clear hb D9
  go_wp2_with fail
  refine (cAdd _ Sy.out Sz.out St.out Et.out).mono ?_
  rintro e w11 ⟨rfl, hb⟩
  have D11 := D10.trans (hb.mono D10.size)
  clear hb D10
  go_wp2_with fail
  refine (cSub _ Ss.out Sz.out (by rw [Nat.add_comm]; exact Es.out)).mono ?_
  rintro e w12 ⟨rfl, hb⟩
  have D12 := D11.trans (hb.mono D11.size)
  clear hb D11
  go_wp2_with fail
  refine (cCmp _ Ss.out St.out C5.out).mono ?_
  rintro e w13 ⟨rfl, hb⟩
  have D13 := D12.trans (hb.mono D12.size)
  clear hb D12
  go_wp2_with fail
  go_ret
  exact ⟨by simp, D13⟩
set_option maxRecDepth 100000 in
set_option maxHeartbeats 4000000 in
theorem order_opp (x y z : Nat) (w : World) (henv : Env w) (hx : x < 10 ^ 80) (hy : y < 10 ^ 80) (hz : z < 10 ^ 80) (h1 : cmpN x y = 0) (h2 : cmpN y z = 1) (h3 : cmpN x z = 1) :
    Calls Tryd.prog 6 #[.string (nS x), .string (nS y), .string (nS z)] w fun e w' => e = .returned (.bool true) ∧ Below w.heap.size w w' := by
  have HENV := Lib.hid henv
  clear henv
  have C1 := Lib.hid h1
  have C2 := Lib.hid h2
  have C3 := Lib.hid h3
  have C4 : Hid (cmpN y x = 0) := Lib.hid (cmpN_flip h1)
  have EQ : ((nS x).toList == (nS y).toList) = true := by rw [eq_num]; exact decide_eq_true (by rcases cmpN_cases x y with h | h | h <;> omega)
  obtain ⟨s, es⟩ : ∃ k, x + z = k := ⟨_, rfl⟩
  have Es := Lib.hid es
  have Ss : Hid (Small s) := Lib.hid (by rw [← es]; exact small_of (sum_lt hx hz) (by omega) (by omega))
  clear es
  obtain ⟨t, et⟩ : ∃ k, y + z = k := ⟨_, rfl⟩
  have Et := Lib.hid et
  have St : Hid (Small t) := Lib.hid (by rw [← et]; exact small_of (sum_lt hy hz) (by omega) (by omega))
  clear et
  have C5 : Hid (cmpN s t = 0) := Lib.hid (by rw [← Es.out, ← Et.out]; exact cmpN_add h1)
  clear h1 h2 h3
  have Sx := Lib.hid (small_of hx (by omega) (by omega))
  have Nx : Hid ((nS x).size ≤ 80) := Lib.hid ((nS_size (by omega)).2 hx)
  have Sy := Lib.hid (small_of hy (by omega) (by omega))
  have Ny : Hid ((nS y).size ≤ 80) := Lib.hid ((nS_size (by omega)).2 hy)
  have Sz := Lib.hid (small_of hz (by omega) (by omega))
  have Nz : Hid ((nS z).size ≤ 80) := Lib.hid ((nS_size (by omega)).2 hz)
  clear hx hy hz
  have D0 : Below w.heap.size w w := Below.refl _ _
  have FW : Hid (few80 [nS x, nS y, nS z] = true) := Lib.hid (by simp only [few80, List.all_cons, List.all_nil, decide_eq_true Nx.out, decide_eq_true Ny.out, decide_eq_true Nz.out]; rfl)
  go_enter Tryd.func6, Tryd.ntmps6
  go_wp2_with fail
  refine (head_any _ HENV.out).mono ?_
  rintro e w1 ⟨rfl, hb⟩
  have D1 := D0.trans (hb.mono D0.size)
  clear hb D0
  go_wp2_with fail
  refine (few_lit3 _ (nS x) (nS y) (nS z) (by have := Nx.out; unfold maxLen; omega) (by have := Ny.out; unfold maxLen; omega) (by have := Nz.out; unfold maxLen; omega)).mono ?_
  rintro e w2 ⟨rfl, hb⟩
  have D2 := D1.trans (hb.mono D1.size)
  clear hb D1
  simp only [FW.out]
  go_wp2_with fail
  refine (cVal _ (small_valid Sx.out)).mono ?_
  rintro e w3 ⟨rfl, hb⟩
  have D3 := D2.trans (hb.mono D2.size)
  clear hb D2
  go_wp2_with fail
  refine (cVal _ (small_valid Sy.out)).mono ?_
  rintro e w4 ⟨rfl, hb⟩
  have D4 := D3.trans (hb.mono D3.size)
  clear hb D3
  go_wp2_with fail
  refine (cVal _ (small_valid Sz.out)).mono ?_
  rintro e w5 ⟨rfl, hb⟩
  have D5 := D4.trans (hb.mono D4.size)
  clear hb D4
  go_wp2_with fail
  refine (cCmp _ Sx.out Sy.out C1.out).mono ?_
  rintro e w6 ⟨rfl, hb⟩
  have D6 := D5.trans (hb.mono D5.size)
  clear hb D5
  go_wp2_with fail
  refine (cCmp _ Sy.out Sz.out C2.out).mono ?_
  rintro e w7 ⟨rfl, hb⟩
  have D7 := D6.trans (hb.mono D6.size)
  clear hb D6
  go_wp2_with fail
  refine (cCmp _ Sx.out Sz.out C3.out).mono ?_
  rintro e w8 ⟨rfl, hb⟩
  have D8 := D7.trans (hb.mono D7.size)
  clear hb D7
  go_wp2_with fail
  refine (cCmp _ Sy.out Sx.out C4.out).mono ?_
  rintro e w9 ⟨rfl, hb⟩
  have D9 := D8.trans (hb.mono D8.size)
  clear hb D8
  go_wp2_with fail
  refine (cAdd _ Sx.out Sz.out Ss.out Es.out).mono ?_
  rintro e w10 ⟨rfl, hb⟩
  have D10 := D9.trans (hb.mono D9.size)
  clear hb D9
  go_wp2_with fail
  refine (cAdd _ Sy.out Sz.out St.out Et.out).mono ?_
  rintro e w11 ⟨rfl, hb⟩
  have D11 := D10.trans (hb.mono D10.size)
  clear hb D10
  go_wp2_with fail
  refine (cSub _ Ss.out Sz.out (by rw [Nat.add_comm]; exact Es.out)).mono ?_
  rintro e w12 ⟨rfl, hb⟩
  have D12 := D11.trans (hb.mono D11.size)
  clear hb D11
  go_wp2_with fail
  refine (cCmp _ Ss.out St.out C5.out).mono ?_
  rintro e w13 ⟨rfl, hb⟩
  have D13 := D12.trans (hb.mono D12.size)
  clear hb D12
  go_wp2_with fail
  go_ret
  exact ⟨by simp, D13⟩
set_option maxRecDepth 100000 in
set_option maxHeartbeats 4000000 in
theorem order_pmm (x y z : Nat) (w : World) (henv : Env w) (hx : x < 10 ^ 80) (hy : y < 10 ^ 80) (hz : z < 10 ^ 80) (h1 : cmpN x y = 1) (h2 : cmpN y z = -1) (h3 : cmpN x z = -1) :
    Calls Tryd.prog 6 #[.string (nS x), .string (nS y), .string (nS z)] w fun e w' => e = .returned (.bool true) ∧ Below w.heap.size w w' := by
  have HENV := Lib.hid henv
  clear henv
  have C1 := Lib.hid h1
  have C2 := Lib.hid h2
  have C3 := Lib.hid h3
  have C4 : Hid (cmpN y x = -1) := Lib.hid (cmpN_flip h1)
  have EQ : ((nS x).toList == (nS y).toList) = false := by rw [eq_num]; exact decide_eq_false (by rcases cmpN_cases x y with h | h | h <;> omega)
  obtain ⟨s, es⟩ : ∃ k, x + z = k := ⟨_, rfl⟩
  have Es := Lib.hid es
  have Ss : Hid (Small s) := Lib.hid (by rw [← es]; exact small_of (sum_lt hx hz) (by omega) (by omega))
  clear es
  obtain ⟨t, et⟩ : ∃ k, y + z = k := ⟨_, rfl⟩
  have Et := Lib.hid et
  have St : Hid (Small t) := Lib.hid (by rw [← et]; exact small_of (sum_lt hy hz) (by omega) (by omega))
  clear et
  have C5 : Hid (cmpN s t = 1) := Lib.hid (by rw [← Es.out, ← Et.out]; exact cmpN_add h1)
  clear h1 h2 h3
  have Sx := Lib.hid (small_of hx (by omega) (by omega))
  have Nx : Hid ((nS x).size ≤ 80) := Lib.hid ((nS_size (by omega)).2 hx)
  have Sy := Lib.hid (small_of hy (by omega) (by omega))
  have Ny : Hid ((nS y).size ≤ 80) := Lib.hid ((nS_size (by omega)).2 hy)
  have Sz := Lib.hid (small_of hz (by omega) (by omega))
  have Nz : Hid ((nS z).size ≤ 80) := Lib.hid ((nS_size (by omega)).2 hz)
  clear hx hy hz
  have D0 : Below w.heap.size w w := Below.refl _ _
  have FW : Hid (few80 [nS x, nS y, nS z] = true) := Lib.hid (by simp only [few80, List.all_cons, List.all_nil, decide_eq_true Nx.out, decide_eq_true Ny.out, decide_eq_true Nz.out]; rfl)
  go_enter Tryd.func6, Tryd.ntmps6
  go_wp2_with fail
  refine (head_any _ HENV.out).mono ?_
  rintro e w1 ⟨rfl, hb⟩
  have D1 := D0.trans (hb.mono D0.size)
  clear hb D0
  go_wp2_with fail
  refine (few_lit3 _ (nS x) (nS y) (nS z) (by have := Nx.out; unfold maxLen; omega) (by have := Ny.out; unfold maxLen; omega) (by have := Nz.out; unfold maxLen; omega)).mono ?_
  rintro e w2 ⟨rfl, hb⟩
  have D2 := D1.trans (hb.mono D1.size)
  clear hb D1
  simp only [FW.out]
  go_wp2_with fail
  refine (cVal _ (small_valid Sx.out)).mono ?_
  rintro e w3 ⟨rfl, hb⟩
  have D3 := D2.trans (hb.mono D2.size)
  clear hb D2
  go_wp2_with fail
  refine (cVal _ (small_valid Sy.out)).mono ?_
  rintro e w4 ⟨rfl, hb⟩
  have D4 := D3.trans (hb.mono D3.size)
  clear hb D3
  go_wp2_with fail
  refine (cVal _ (small_valid Sz.out)).mono ?_
  rintro e w5 ⟨rfl, hb⟩
  have D5 := D4.trans (hb.mono D4.size)
  clear hb D4
  go_wp2_with fail
  refine (cCmp _ Sx.out Sy.out C1.out).mono ?_
  rintro e w6 ⟨rfl, hb⟩
  have D6 := D5.trans (hb.mono D5.size)
  clear hb D5
  go_wp2_with fail
  refine (cCmp _ Sy.out Sz.out C2.out).mono ?_
  rintro e w7 ⟨rfl, hb⟩
  have D7 := D6.trans (hb.mono D6.size)
  clear hb D6
  go_wp2_with fail
  refine (cCmp _ Sx.out Sz.out C3.out).mono ?_
  rintro e w8 ⟨rfl, hb⟩
  have D8 := D7.trans (hb.mono D7.size)
  clear hb D7
  go_wp2_with fail
  refine (cCmp _ Sy.out Sx.out C4.out).mono ?_
  rintro e w9 ⟨rfl, hb⟩
  have D9 := D8.trans (hb.mono D8.size)
  clear hb D8
  go_wp2_with fail
  refine (cAdd _ Sx.out Sz.out Ss.out Es.out).mono ?_
  rintro e w10 ⟨rfl, hb⟩
  have D10 := D9.trans (hb.mono D9.size)
  clear hb D9
  go_wp2_with fail
  refine (cAdd _ Sy.out Sz.out St.out Et.out).mono ?_
  rintro e w11 ⟨rfl, hb⟩
  have D11 := D10.trans (hb.mono D10.size)
  clear hb D10
  go_wp2_with fail
  refine (cSub _ Ss.out Sz.out (by rw [Nat.add_comm]; exact Es.out)).mono ?_
  rintro e w12 ⟨rfl, hb⟩
  have D12 := D11.trans (hb.mono D11.size)
  clear hb D11
  go_wp2_with fail
  refine (cCmp _ Ss.out St.out C5.out).mono ?_
  rintro e w13 ⟨rfl, hb⟩
  have D13 := D12.trans (hb.mono D12.size)
  clear hb D12
  go_wp2_with fail
  go_ret
  exact ⟨by simp, D13⟩
set_option maxRecDepth 100000 in
set_option maxHeartbeats 4000000 in
theorem order_pmo (x y z : Nat) (w : World) (henv : Env w) (hx : x < 10 ^ 80) (hy : y < 10 ^ 80) (hz : z < 10 ^ 80) (h1 : cmpN x y = 1) (h2 : cmpN y z = -1) (h3 : cmpN x z = 0) :
    Calls Tryd.prog 6 #[.string (nS x), .string (nS y), .string (nS z)] w fun e w' => e = .returned (.bool true) ∧ Below w.heap.size w w' := by
  have HENV := Lib.hid henv
  clear henv
  have C1 := Lib.hid h1
  have C2 := Lib.hid h2
  have C3 := Lib.hid h3
  have C4 : Hid (cmpN y x = -1) := Lib.hid (cmpN_flip h1)
  have EQ : ((nS x).toList == (nS y).toList) = false := by rw [eq_num]; exact decide_eq_false (by rcases cmpN_cases x y with h | h | h <;> omega)
  obtain ⟨s, es⟩ : ∃ k, x + z = k := ⟨_, rfl⟩
  have Es := Lib.hid es
  have Ss : Hid (Small s) := Lib.hid (by rw [← es]; exact small_of (sum_lt hx hz) (by omega) (by omega))
  clear es
  obtain ⟨t, et⟩ : ∃ k, y + z = k := ⟨_, rfl⟩
  have Et := Lib.hid et
  have St : Hid (Small t) := Lib.hid (by rw [← et]; exact small_of (sum_lt hy hz) (by omega) (by omega))
  clear et
  have C5 : Hid (cmpN s t = 1) := Lib.hid (by rw [← Es.out, ← Et.out]; exact cmpN_add h1)
  clear h1 h2 h3
  have Sx := Lib.hid (small_of hx (by omega) (by omega))
  have Nx : Hid ((nS x).size ≤ 80) := Lib.hid ((nS_size (by omega)).2 hx)
  have Sy := Lib.hid (small_of hy (by omega) (by omega))
  have Ny : Hid ((nS y).size ≤ 80) := Lib.hid ((nS_size (by omega)).2 hy)
  have Sz := Lib.hid (small_of hz (by omega) (by omega))
  have Nz : Hid ((nS z).size ≤ 80) := Lib.hid ((nS_size (by omega)).2 hz)
  clear hx hy hz
  have D0 : Below w.heap.size w w := Below.refl _ _
  have FW : Hid (few80 [nS x, nS y, nS z] = true) := Lib.hid (by simp only [few80, List.all_cons, List.all_nil, decide_eq_true Nx.out, decide_eq_true Ny.out, decide_eq_true Nz.out]; rfl)
  go_enter Tryd.func6, Tryd.ntmps6
  go_wp2_with fail
  refine (head_any _ HENV.out).mono ?_
  rintro e w1 ⟨rfl, hb⟩
  have D1 := D0.trans (hb.mono D0.size)
  clear hb D0
  go_wp2_with fail
  refine (few_lit3 _ (nS x) (nS y) (nS z) (by have := Nx.out; unfold maxLen; omega) (by have := Ny.out; unfold maxLen; omega) (by have := Nz.out; unfold maxLen; omega)).mono ?_
  rintro e w2 ⟨rfl, hb⟩
  have D2 := D1.trans (hb.mono D1.size)
  clear hb D1
  simp only [FW.out]
  go_wp2_with fail
  refine (cVal _ (small_valid Sx.out)).mono ?_
  rintro e w3 ⟨rfl, hb⟩
  have D3 := D2.trans (hb.mono D2.size)
  clear hb D2
  go_wp2_with fail
  refine (cVal _ (small_valid Sy.out)).mono ?_
  rintro e w4 ⟨rfl, hb⟩
  have D4 := D3.trans (hb.mono D3.size)
  clear hb D3
  go_wp2_with fail
  refine (cVal _ (small_valid Sz.out)).mono ?_
  rintro e w5 ⟨rfl, hb⟩
  have D5 := D4.trans (hb.mono D4.size)
  clear hb D4
  go_wp2_with fail
  refine (cCmp _ Sx.out Sy.out C1.out).mono ?_
  rintro e w6 ⟨rfl, hb⟩
  have D6 := D5.trans (hb.mono D5.size)
  clear hb D5
  go_wp2_with fail
  refine (cCmp _ Sy.out Sz.out C2.out).mono ?_
  rintro e w7 ⟨rfl, hb⟩
  have D7 := D6.trans (hb.mono D6.size)
  clear hb D6
  go_wp2_with fail
  refine (cCmp _ Sx.out Sz.out C3.out).mono ?_
  rintro e w8 ⟨rfl, hb⟩
  have D8 := D7.trans (hb.mono D7.size)
  clear hb D7
  go_wp2_with fail
  refine (cCmp _ Sy.out Sx.out C4.out).mono ?_
  rintro e w9 ⟨rfl, hb⟩
  have D9 := D8.trans (hb.mono D8.size)
  clear hb D8
  go_wp2_with fail
  refine (cAdd _ Sx.out Sz.out Ss.out Es.out).mono ?_
  rintro e w10 ⟨rfl, hb⟩
  have D10 := D9.trans (hb.mono D9.size)
  clear hb D9
  go_wp2_with fail
  refine (cAdd _ Sy.out Sz.out St.out Et.out).mono ?_
  rintro e w11 ⟨rfl, hb⟩
  have D11 := D10.trans (hb.mono D10.size)
  clear hb D10
  go_wp2_with fail
  refine (cSub _ Ss.out Sz.out (by rw [Nat.add_comm]; exact Es.out)).mono ?_
  rintro e w12 ⟨rfl, hb⟩
  have D12 := D11.trans (hb.mono D11.size)
  clear hb D11
  go_wp2_with fail
  refine (cCmp _ Ss.out St.out C5.out).mono ?_
  rintro e w13 ⟨rfl, hb⟩
  have D13 := D12.trans (hb.mono D12.size)
  clear hb D12
  go_wp2_with fail
  go_ret
  exact ⟨by simp, D13⟩
set_option maxRecDepth 100000 in
set_option maxHeartbeats 4000000 in
theorem order_pmp (x y z : Nat) (w : World) (henv : Env w) (hx : x < 10 ^ 80) (hy : y < 10 ^ 80) (hz : z < 10 ^ 80) (h1 : cmpN x y = 1) (h2 : cmpN y z = -1) (h3 : cmpN x z = 1) :
    Calls Tryd.prog 6 #[.string (nS x), .string (nS y), .string (nS z)] w fun e w' => e = .returned (.bool true) ∧ Below w.heap.size w w' := by
  have HENV := Lib.hid henv
  clear henv
  have C1 := Lib.hid h1
  have C2 := Lib.hid h2
  have C3 := Lib.hid h3
  have C4 : Hid (cmpN y x = -1) := Lib.hid (cmpN_flip h1)
  have EQ : ((nS x).toList == (nS y).toList) = false := by rw [eq_num]; exact decide_eq_false (by rcases cmpN_cases x y with h | h | h <;> omega)
  obtain ⟨s, es⟩ : ∃ k, x + z = k := ⟨_, rfl⟩
  have Es := Lib.hid es
  have Ss : Hid (Small s) := Lib.hid (by rw [← es]; exact small_of (sum_lt hx hz) (by omega) (by omega))
  clear es
  obtain ⟨t, et⟩ : ∃ k, y + z = k := ⟨_, rfl⟩
  have Et := Lib.hid et
  have St : Hid (Small t) := Lib.hid (by rw [← et]; exact small_of (sum_lt hy hz) (by omega) (by omega))
  clear et
  have C5 : Hid (cmpN s t = 1) := Lib.hid (by rw [← Es.out, ← Et.out]; exact cmpN_add h1)
  clear h1 h2 h3
  have Sx := Lib.hid (small_of hx (by omega) (by omega))
  have Nx : Hid ((nS x).size ≤ 80) := Lib.hid ((nS_size (by omega)).2 hx)
  have Sy := Lib.hid (small_of hy (by omega) (by omega))
  have Ny : Hid ((nS y).size ≤ 80) := Lib.hid ((nS_size (by omega)).2 hy)
  have Sz := Lib.hid (small_of hz (by omega) (by omega))
  have Nz : Hid ((nS z).size ≤ 80) := Lib.hid ((nS_size (by omega)).2 hz)
  clear hx hy hz
  have D0 : Below w.heap.size w w := Below.refl _ _
  have FW : Hid (few80 [nS x, nS y, nS z] = true) := Lib.hid (by simp only [few80, List.all_cons, List.all_nil, decide_eq_true Nx.out, decide_eq_true Ny.out, decide_eq_true Nz.out]; rfl)
  go_enter Tryd.func6, Tryd.ntmps6
  go_wp2_with fail
  refine (head_any _ HENV.out).mono ?_
  rintro e w1 ⟨rfl, hb⟩
  have D1 := D0.trans (hb.mono D0.size)
  clear hb D0
  go_wp2_with fail
  refine (few_lit3 _ (nS x) (nS y) (nS z) (by have := Nx.out; unfold maxLen; omega) (by have := Ny.out; unfold maxLen; omega) (by have := Nz.out; unfold maxLen; omega)).mono ?_
  rintro e w2 ⟨rfl, hb⟩
  have D2 := D1.trans (hb.mono D1.size)
  clear hb D1
  simp only [FW.out]
  go_wp2_with fail
  refine (cVal _ (small_valid Sx.out)).mono ?_
  rintro e w3 ⟨rfl, hb⟩
  have D3 := D2.trans (hb.mono D2.size)
  clear hb D2
  go_wp2_with fail
  refine (cVal _ (small_valid Sy.out)).mono ?_
  rintro e w4 ⟨rfl, hb⟩
  have D4 := D3.trans (hb.mono D3.size)
  clear hb D3
  go_wp2_with fail
  refine (cVal _ (small_valid Sz.out)).mono ?_
  rintro e w5 ⟨rfl, hb⟩
  have D5 := D4.trans (hb.mono D4.size)
  clear hb D4
  go_wp2_with fail
  refine (cCmp _ Sx.out Sy.out C1.out).mono ?_
  rintro e w6 ⟨rfl, hb⟩
  have D6 := D5.trans (hb.mono D5.size)
  clear hb D5
  go_wp2_with fail
  refine (cCmp _ Sy.out Sz.out C2.out).mono ?_
  rintro e w7 ⟨rfl, hb⟩
  have D7 := D6.trans (hb.mono D6.size)
  clear hb D6
  go_wp2_with fail
  refine (cCmp _ Sx.out Sz.out C3.out).mono ?_
  rintro e w8 ⟨rfl, hb⟩
  have D8 := D7.trans (hb.mono D7.size)
  clear hb D7
  go_wp2_with fail
  refine (cCmp _ Sy.out Sx.out C4.out).mono ?_
  rintro e w9 ⟨rfl, hb⟩
  have D9 := D8.trans (hb.mono D8.size)
  clear hb D8
  go_wp2_with fail
  refine (cAdd _ Sx.out Sz.out Ss.out Es.out).mono ?_
  rintro e w10 ⟨rfl, hb⟩
  have D10 := D9.trans (hb.mono D9.size)
  clear hb D9
  go_wp2_with fail
  refine (cAdd _ Sy.out Sz.out St.out Et.out).mono ?_
  rintro e w11 ⟨rfl, hb⟩
  have D11 := D10.trans (hb.mono D10.size)
  clear hb D10
  go_wp2_with fail
  refine (cSub _ Ss.out Sz.out (by rw [Nat.add_comm]; exact Es.out)).mono ?_
  rintro e w12 ⟨rfl, hb⟩
  have D12 := D11.trans (hb.mono D11.size)
  clear hb D11
  go_wp2_with fail
  refine (cCmp _ Ss.out St.out C5.out).mono ?_
  rintro e w13 ⟨rfl, hb⟩
  have D13 := D12.trans (hb.mono D12.size)
  clear hb D12
  go_wp2_with fail
  go_ret
  exact ⟨by simp, D13⟩
set_option maxRecDepth 100000 in
set_option maxHeartbeats 4000000 in
theorem order_pop (x y z : Nat) (w : World) (henv : Env w) (hx : x < 10 ^ 80) (hy : y < 10 ^ 80) (hz : z < 10 ^ 80) (h1 : cmpN x y = 1) (h2 : cmpN y z = 0) (h3 : cmpN x z = 1) :
    Calls Tryd.prog 6 #[.string (nS x), .string (nS y), .string (nS z)] w fun e w' => e = .returned (.bool true) ∧ Below w.heap.size w w' := by
  have HENV := Lib.hid henv
  clear henv
  have C1 := Lib.hid h1
  have C2 := Lib.hid h2
  have C3 := Lib.hid h3
  have C4 : Hid (cmpN y x = -1) := Lib.hid (cmpN_flip h1)
  have EQ : ((nS x).toList == (nS y).toList) = false := by rw [eq_num]; exact decide_eq_false (by rcases cmpN_cases x y with h | h | h <;> omega)
  obtain ⟨s, es⟩ : ∃ k, x + z = k := ⟨_, rfl⟩
  have Es := Lib.hid es
  have Ss : Hid (Small s) := Lib.hid (by rw [← es]; exact small_of (sum_lt hx hz) (by omega) (by omega))
  clear es
  obtain ⟨t, et⟩ : ∃ k, y + z = k := ⟨_, rfl⟩
  have Et := Lib.hid et
  have St : Hid (Small t) := Lib.hid (by rw [← et]; exact small_of (sum_lt hy hz) (by omega) (by omega))
  clear et
  have C5 : Hid (cmpN s t = 1) := Lib.hid (by rw [← Es.out, ← Et.out]; exact cmpN_add h1)
  clear h1 h2 h3
  have Sx := Lib.hid (small_of hx (by omega) (by omega))
  have Nx : Hid ((nS x).size ≤ 80) := Lib.hid ((nS_size (by omega)).2 hx)
  have Sy := Lib.hid (small_of hy (by omega) (by omega))
  have Ny : Hid ((nS y).size ≤ 80) := Lib.hid ((nS_size (by omega)).2 hy)
  have Sz := Lib.hid (small_of hz (by omega) (by omega))
  have Nz : Hid ((nS z).size ≤ 80) := Lib.hid ((nS_size (by omega)).2 hz)
  clear hx hy hz
  have D0 : Below w.heap.size w w := Below.refl _ _
  have FW : Hid (few80 [nS x, nS y, nS z] = true) := Lib.hid (by simp only [few80, List.all_cons, List.all_nil, decide_eq_true Nx.out, decide_eq_true Ny.out, decide_eq_true Nz.out]; rfl)
  go_enter Tryd.func6, Tryd.ntmps6
  go_wp2_with fail
  refine (head_any _ HENV.out).mono ?_
  rintro e w1 ⟨rfl, hb⟩
  have D1 := D0.trans (hb.mono D0.size)
  clear hb D0
  go_wp2_with fail
  refine (few_lit3 _ (nS x) (nS y) (nS z) (by have := Nx.out; unfold maxLen; omega) (by have := Ny.out; unfold maxLen; omega) (by have := Nz.out; unfold maxLen; omega)).mono ?_
  rintro e w2 ⟨rfl, hb⟩
  have D2 := D1.trans (hb.mono D1.size)
  clear hb D1
  simp only [FW.out]
  go_wp2_with fail
  refine (cVal _ (small_valid Sx.out)).mono ?_
  rintro e w3 ⟨rfl, hb⟩
  have D3 := D2.trans (hb.mono D2.size)
  clear hb D2
  go_wp2_with fail
  refine (cVal _ (small_valid Sy.out)).mono ?_
  rintro e w4 ⟨rfl, hb⟩
  have D4 := D3.trans (hb.mono D3.size)
  clear hb D3
  go_wp2_with fail
  refine (cVal _ (small_valid Sz.out)).mono ?_
  rintro e w5 ⟨rfl, hb⟩
  have D5 := D4.trans (hb.mono D4.size)
  clear hb D4
  go_wp2_with fail
  refine (cCmp _ Sx.out Sy.out C1.out).mono ?_
  rintro e w6 ⟨rfl, hb⟩
  have D6 := D5.trans (hb.mono D5.size)
  clear hb D5
  go_wp2_with fail
  refine (cCmp _ Sy.out Sz.out C2.out).mono ?_
  rintro e w7 ⟨rfl, hb⟩
  have D7 := D6.trans (hb.mono D6.size)
  clear hb D6
  go_wp2_with fail
  refine (cCmp _ Sx.out Sz.out C3.out).mono ?_
  rintro e w8 ⟨rfl, hb⟩
  have D8 := D7.trans (hb.mono D7.size)
  clear hb D7
  go_wp2_with fail
  refine (cCmp _ Sy.out Sx.out C4.out).mono ?_
  rintro e w9 ⟨rfl, hb⟩
  have D9 := D8.trans (hb.mono D8.size)
  clear hb D8
  go_wp2_with fail
  refine (cAdd _ Sx.out Sz.out Ss.out Es.out).mono ?_
  rintro e w10 ⟨rfl, hb⟩
  have D10 := D9.trans (hb.mono D9.size)
  clear hb D9
  go_wp2_with fail
  refine (cAdd _ Sy.out Sz.out St.out Et.out).mono ?_
  rintro e w11 ⟨rfl, hb⟩
  have D11 := D10.trans (hb.mono D10.size)
  clear hb D10
  go_wp2_with fail
  refine (cSub _ Ss.out Sz.out (by rw [Nat.add_comm]; exact Es.out)).mono ?_
  rintro e w12 ⟨rfl, hb⟩
  have D12 := D11.trans (hb.mono D11.size)
  clear hb D11
  go_wp2_with fail
  refine (cCmp _ Ss.out St.out C5.out).mono ?_
  rintro e w13 ⟨rfl, hb⟩
  have D13 := D12.trans (hb.mono D12.size)
  clear hb D12
  go_wp2_with fail
  go_ret
  exact ⟨by simp, D13⟩
set_option maxRecDepth 100000 in
set_option maxHeartbeats 4000000 in
theorem order_ppp (x y z : Nat) (w : World) (henv : Env w) (hx : x < 10 ^ 80) (hy : y < 10 ^ 80) (hz : z < 10 ^ 80) (h1 : cmpN x y = 1) (h2 : cmpN y z = 1) (h3 : cmpN x z = 1) :
    Calls Tryd.prog 6 #[.string (nS x), .string (nS y), .string (nS z)] w fun e w' => e = .returned (.bool true) ∧ Below w.heap.size w w' := by
  have HENV := Lib.hid henv
  clear henv
  have C1 := Lib.hid h1
  have C2 := Lib.hid h2
  have C3 := Lib.hid h3
  have C4 : Hid (cmpN y x = -1) := Lib.hid (cmpN_flip h1)
  have EQ : ((nS x).toList == (nS y).toList) = false := by rw [eq_num]; exact decide_eq_false (by rcases cmpN_cases x y with h | h | h <;> omega)
  obtain ⟨s, es⟩ : ∃ k, x + z = k := ⟨_, rfl⟩
  have Es := Lib.hid es
  have Ss : Hid (Small s) := Lib.hid (by rw [← es]; exact small_of (sum_lt hx hz) (by omega) (by omega))
  clear es
  obtain ⟨t, et⟩ : ∃ k, y + z = k := ⟨_, rfl⟩
  have Et := Lib.hid et
  have St : Hid (Small t) := Lib.hid (by rw [← et]; exact small_of (sum_lt hy hz) (by omega) (by omega))
  clear et
  have C5 : Hid (cmpN s t = 1) := Lib.hid (by rw [← Es.out, ← Et.out]; exact cmpN_add h1)
  clear h1 h2 h3
  have Sx := Lib.hid (small_of hx (by omega) (by omega))
  have Nx : Hid ((nS x).size ≤ 80) := Lib.hid ((nS_size (by omega)).2 hx)
  have Sy := Lib.hid (small_of hy (by omega) (by omega))
  have Ny : Hid ((nS y).size ≤ 80) := Lib.hid ((nS_size (by omega)).2 hy)
  have Sz := Lib.hid (small_of hz (by omega) (by omega))
  have Nz : Hid ((nS z).size ≤ 80) := Lib.hid ((nS_size (by omega)).2 hz)
  clear hx hy hz
  have D0 : Below w.heap.size w w := Below.refl _ _
  have FW : Hid (few80 [nS x, nS y, nS z] = true) := Lib.hid (by simp only [few80, List.all_cons, List.all_nil, decide_eq_true Nx.out, decide_eq_true Ny.out, decide_eq_true Nz.out]; rfl)
  go_enter Tryd.func6, Tryd.ntmps6
  go_wp2_with fail
  refine (head_any _ HENV.out).mono ?_
  rintro e w1 ⟨rfl, hb⟩
  have D1 := D0.trans (hb.mono D0.size)
  clear hb D0
  go_wp2_with fail
  refine (few_lit3 _ (nS x) (nS y) (nS z) (by have := Nx.out; unfold maxLen; omega) (by have := Ny.out; unfold maxLen; omega) (by have := Nz.out; unfold maxLen; omega)).mono ?_
  rintro e w2 ⟨rfl, hb⟩
  have D2 := D1.trans (hb.mono D1.size)
  clear hb D1
  simp only [FW.out]
  go_wp2_with fail
  refine (cVal _ (small_valid Sx.out)).mono ?_
  rintro e w3 ⟨rfl, hb⟩
  have D3 := D2.trans (hb.mono D2.size)
  clear hb D2
  go_wp2_with fail
  refine (cVal _ (small_valid Sy.out)).mono ?_
  rintro e w4 ⟨rfl, hb⟩
  have D4 := D3.trans (hb.mono D3.size)
  clear hb D3
  go_wp2_with fail
  refine (cVal _ (small_valid Sz.out)).mono ?_
  rintro e w5 ⟨rfl, hb⟩
  have D5 := D4.trans (hb.mono D4.size)
  clear hb D4
  go_wp2_with fail
  refine (cCmp _ Sx.out Sy.out C1.out).mono ?_
  rintro e w6 ⟨rfl, hb⟩
  have D6 := D5.trans (hb.mono D5.size)
  clear hb D5
  go_wp2_with fail
  refine (cCmp _ Sy.out Sz.out C2.out).mono ?_
  rintro e w7 ⟨rfl, hb⟩
  have D7 := D6.trans (hb.mono D6.size)
  clear hb D6
  go_wp2_with fail
  refine (cCmp _ Sx.out Sz.out C3.out).mono ?_
  rintro e w8 ⟨rfl, hb⟩
  have D8 := D7.trans (hb.mono D7.size)
  clear hb D7
  go_wp2_with fail
  refine (cCmp _ Sy.out Sx.out C4.out).mono ?_
  rintro e w9 ⟨rfl, hb⟩
  have D9 := D8.trans (hb.mono D8.size)
  clear hb D8
  go_wp2_with fail
  refine (cAdd _ Sx.out Sz.out Ss.out Es.out).mono ?_
  rintro e w10 ⟨rfl, hb⟩
  have D10 := D9.trans (hb.mono D9.size)
  clear hb D9
  go_wp2_with fail
  refine (cAdd _ Sy.out Sz.out St.out Et.out).mono ?_
  rintro e w11 ⟨rfl, hb⟩
  have D11 := D10.trans (hb.mono D10.size)
  clear hb D10
  go_wp2_with fail
  refine (cSub _ Ss.out Sz.out (by rw [Nat.add_comm]; exact Es.out)).mono ?_
  rintro e w12 ⟨rfl, hb⟩
  have D12 := D11.trans (hb.mono D11.size)
  clear hb D11
  go_wp2_with fail
  refine (cCmp _ Ss.out St.out C5.out).mono ?_
  rintro e w13 ⟨rfl, hb⟩
  have D13 := D12.trans (hb.mono D12.size)
  clear hb D12
  go_wp2_with fail
  go_ret
  exact ⟨by simp, D13⟩
theorem walkNaturalOrder (a b c : ByteArray) (w : World) (henv : Env w) (ha : a.size ≤ maxLen) (hb : b.size ≤ maxLen) (hc : c.size ≤ maxLen) :
    Calls Tryd.prog 6 #[.string a, .string b, .string c] w fun e w' => e = .returned (.bool true) ∧ Below w.heap.size w w' := by
  cases f : few80 [a, b, c] with
  | false => exact NaturalOrder_out0 a b c w henv ha hb hc f
  | true =>
    cases va : validB a with
    | false => exact NaturalOrder_out1 a b c w henv ha hb hc f va
    | true =>
      cases vb : validB b with
      | false => exact NaturalOrder_out2 a b c w henv ha hb hc f va vb
      | true =>
        cases vc : validB c with
        | false => exact NaturalOrder_out3 a b c w henv ha hb hc f va vb vc
        | true =>
          simp only [few80, List.all_cons, List.all_nil, Bool.and_eq_true, Bool.and_true, decide_eq_true_eq] at f
          obtain ⟨x, ex, kx⟩ := short_num va f.1
          obtain ⟨y, ey, ky⟩ := short_num vb f.2.1
          obtain ⟨z, ez, kz⟩ := short_num vc f.2.2
          subst ex ey ez
          rcases cmpN_cases x y with ⟨h1, l1⟩ | ⟨h1, l1⟩ | ⟨h1, l1⟩ <;> rcases cmpN_cases y z with ⟨h2, l2⟩ | ⟨h2, l2⟩ | ⟨h2, l2⟩ <;> rcases cmpN_cases x z with ⟨h3, l3⟩ | ⟨h3, l3⟩ | ⟨h3, l3⟩
          · exact order_mmm x y z w henv kx ky kz h1 h2 h3
          · omega
          · omega
          · exact order_mom x y z w henv kx ky kz h1 h2 h3
          · omega
          · omega
          · exact order_mpm x y z w henv kx ky kz h1 h2 h3
          · exact order_mpo x y z w henv kx ky kz h1 h2 h3
          · exact order_mpp x y z w henv kx ky kz h1 h2 h3
          · exact order_omm x y z w henv kx ky kz h1 h2 h3
          · omega
          · omega
          · omega
          · exact order_ooo x y z w henv kx ky kz h1 h2 h3
          · omega
          · omega
          · omega
          · exact order_opp x y z w henv kx ky kz h1 h2 h3
          · exact order_pmm x y z w henv kx ky kz h1 h2 h3
          · exact order_pmo x y z w henv kx ky kz h1 h2 h3
          · exact order_pmp x y z w henv kx ky kz h1 h2 h3
          · omega
          · omega
          · exact order_pop x y z w henv kx ky kz h1 h2 h3
          · omega
          · omega
          · exact order_ppp x y z w henv kx ky kz h1 h2 h3
end Go.Proofs.YtfkdhkbegfbkaaaDoor
