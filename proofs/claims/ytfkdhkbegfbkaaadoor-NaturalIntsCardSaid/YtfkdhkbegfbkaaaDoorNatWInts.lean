/-
  The walk of NaturalInts.
-/
import Derived.Test.YtfkdhkbegfbkaaaDoorNatLaw
set_option linter.unusedVariables false
set_option maxRecDepth 100000
namespace Go.Proofs.YtfkdhkbegfbkaaaDoor
open Go.RowKit
theorem small13 {n : Nat} (h : n ≤ 2000000000000) : Small n := small_of (k := 13) (Nat.lt_of_le_of_lt h (by decide)) (by omega) (by omega)
theorem cOf {n : Nat} (w : World) (he : Env w) (h : n ≤ 2000000000000) : Calls Tryd.prog 23 #[.int .i64 (n : Int)] w fun e w' => e = .returned (.tuple #[.string (nS n), .int .i64 0]) ∧ Below w.heap.size w w' := pOf_nat n w (by omega) he.tab
theorem cInt {v : Nat} (w : World) (he : Env w) (hv : Small v) (h : v ≤ 1000000000000) : Calls Tryd.prog 25 #[.string (nS v)] w fun e w' => e = .returned (.tuple #[.int .i64 (v : Int), .int .i64 0]) ∧ Below w.heap.size w w' := by
  have := pInt_any (nS v) w he
  rw [show intR (nS v) = ((v : Int), 0) by unfold intR; rw [if_pos (small_valid hv), val_nS, if_neg (by omega)]] at this
  exact this
theorem cInt_big {v : Nat} (w : World) (he : Env w) (hv : Small v) (h : 1000000000000 < v) : Calls Tryd.prog 25 #[.string (nS v)] w fun e w' => e = .returned (.tuple #[.int .i64 0, .int .i64 9]) ∧ Below w.heap.size w w' := by
  have := pInt_any (nS v) w he
  rw [show intR (nS v) = (0, 9) by unfold intR; rw [if_pos (small_valid hv), val_nS, if_pos h]] at this
  exact this
theorem cInt_none (w : World) (he : Env w) : Calls Tryd.prog 25 #[.string ⟨#[]⟩] w fun e w' => e = .returned (.tuple #[.int .i64 0, .int .i64 1]) ∧ Below w.heap.size w w' := by
  have := pInt_any ⟨#[]⟩ w he
  rw [show intR ⟨#[]⟩ = (0, 1) by unfold intR; rw [if_neg (by decide +kernel)]] at this
  exact this
set_option maxRecDepth 100000 in
set_option maxHeartbeats 4000000 in
theorem ints_a0 (a b : Int) (w : World) (henv : Env w) (h : a < 0) :
    Calls Tryd.prog 9 #[.int .i64 a, .int .i64 b] w fun e w' => e = .returned (.bool true) ∧ Below w.heap.size w w' := by
  have HENV := Lib.hid henv
  clear henv
  have D0 : Below w.heap.size w w := Below.refl _ _
  go_enter Tryd.func9, Tryd.ntmps9
  go_wp2_with fail
  refine (head_any _ HENV.out).mono ?_
  rintro e w1 ⟨rfl, hb⟩
  have D1 := D0.trans (hb.mono D0.size)
  clear hb D0
  go_wp2_with fail
  go_ret
  exact ⟨rfl, D1⟩
set_option maxRecDepth 100000 in
set_option maxHeartbeats 4000000 in
theorem ints_a1 (a b : Int) (w : World) (henv : Env w) (h0 : ¬ a < 0) (h : 1000000000000 < a) :
    Calls Tryd.prog 9 #[.int .i64 a, .int .i64 b] w fun e w' => e = .returned (.bool true) ∧ Below w.heap.size w w' := by
  have HENV := Lib.hid henv
  clear henv
  have D0 : Below w.heap.size w w := Below.refl _ _
  go_enter Tryd.func9, Tryd.ntmps9
  go_wp2_with fail
  refine (head_any _ HENV.out).mono ?_
  rintro e w1 ⟨rfl, hb⟩
  have D1 := D0.trans (hb.mono D0.size)
  clear hb D0
  go_wp2_with fail
  go_ret
  exact ⟨rfl, D1⟩
set_option maxRecDepth 100000 in
set_option maxHeartbeats 4000000 in
theorem ints_b0 (a b : Int) (w : World) (henv : Env w) (h0 : ¬ a < 0) (h1 : ¬ 1000000000000 < a) (h : b < 0) :
    Calls Tryd.prog 9 #[.int .i64 a, .int .i64 b] w fun e w' => e = .returned (.bool true) ∧ Below w.heap.size w w' := by
  have HENV := Lib.hid henv
  clear henv
  have D0 : Below w.heap.size w w := Below.refl _ _
  go_enter Tryd.func9, Tryd.ntmps9
  go_wp2_with fail
  refine (head_any _ HENV.out).mono ?_
  rintro e w1 ⟨rfl, hb⟩
  have D1 := D0.trans (hb.mono D0.size)
  clear hb D0
  go_wp2_with fail
  go_ret
  exact ⟨rfl, D1⟩
set_option maxRecDepth 100000 in
set_option maxHeartbeats 4000000 in
theorem ints_b1 (a b : Int) (w : World) (henv : Env w) (h0 : ¬ a < 0) (h1 : ¬ 1000000000000 < a) (h2 : ¬ b < 0) (h : 1000000000000 < b) :
    Calls Tryd.prog 9 #[.int .i64 a, .int .i64 b] w fun e w' => e = .returned (.bool true) ∧ Below w.heap.size w w' := by
  have HENV := Lib.hid henv
  clear henv
  have D0 : Below w.heap.size w w := Below.refl _ _
  go_enter Tryd.func9, Tryd.ntmps9
  go_wp2_with fail
  refine (head_any _ HENV.out).mono ?_
  rintro e w1 ⟨rfl, hb⟩
  have D1 := D0.trans (hb.mono D0.size)
  clear hb D0
  go_wp2_with fail
  go_ret
  exact ⟨rfl, D1⟩
set_option maxRecDepth 100000 in
set_option maxHeartbeats 4000000 in
theorem ints_lt_big_pos_no1 (m n : Nat) (w : World) (henv : Env w) (hm : m ≤ 1000000000000) (hn : n ≤ 1000000000000) (ho : m < n) (hs : 1000000000000 < m + n) (hz : 0 < n) (hf : 1000000 ≤ m) :
    Calls Tryd.prog 9 #[.int .i64 (m : Int), .int .i64 (n : Int)] w fun e w' => e = .returned (.bool true) ∧ Below w.heap.size w w' := by
  have HENV := Lib.hid henv
  clear henv
  have Sm := Lib.hid (small13 (n := m) (by omega))
  have Sn := Lib.hid (small13 (n := n) (by omega))
  have Hm := Lib.hid hm
  have Hn := Lib.hid hn
  obtain ⟨s, es⟩ : ∃ k, m + n = k := ⟨_, rfl⟩
  have Es := Lib.hid es
  have Ss := Lib.hid (small13 (n := s) (by omega))
  have i1 : (m : Int) + (n : Int) = (s : Int) := by omega
  have w1 : IntKind.i64.wrap (s : Int) = (s : Int) := IntWalk.i64_in _ (by omega)
  have Hs : Hid (1000000000000 < s) := Lib.hid (by omega)
  have i2 : (1000000000000 : Int) < (s : Int) := by omega
  have i3 : ¬ (s : Int) ≤ 1000000000000 := by omega
  have i3' : ¬ s ≤ 1000000000000 := by omega
  have i2' : 1000000000000 < s := by omega
  have Hc : Hid (cmpN m n = -1) := Lib.hid (by unfold cmpN; rw [if_pos ho])
  have Ho := Lib.hid ho
  have o1 : (m : Int) < (n : Int) := by omega
  have o2 : ¬ (n : Int) < (m : Int) := by omega
  have o3 : ¬ (n : Int) ≤ (m : Int) := by omega
  have o1' : m < n := ho
  have o2' : ¬ n < m := by omega
  have o3' : ¬ n ≤ m := by omega
  have Hz := Lib.hid hz
  have z1 : (0 : Int) < (n : Int) := by omega
  have z3 : ((n : Int) == 0) = false := beq_eq_false_iff_ne.2 (by omega)
  have z4 : ¬ n = 0 := by omega
  obtain ⟨q, eq⟩ : ∃ k, m / n = k := ⟨_, rfl⟩
  obtain ⟨r, er⟩ : ∃ k, m % n = k := ⟨_, rfl⟩
  have Eq := Lib.hid eq
  have Er := Lib.hid er
  have lq : q ≤ m := by rw [← eq]; exact Nat.div_le_self _ _
  have lr : r ≤ m := by rw [← er]; exact Nat.mod_le _ _
  have Sq := Lib.hid (small13 (n := q) (by omega))
  have Sr := Lib.hid (small13 (n := r) (by omega))
  have Hq : Hid (q ≤ 1000000000000) := Lib.hid (by omega)
  have Hr : Hid (r ≤ 1000000000000) := Lib.hid (by omega)
  have i5 : ((m : Int)).tdiv (n : Int) = (q : Int) := by rw [Int.tdiv_eq_ediv_of_nonneg (by omega), ← eq]; exact (Int.natCast_ediv _ _).symm
  have i6 : ((m : Int)).tmod (n : Int) = (r : Int) := by rw [Int.tmod_eq_emod_of_nonneg (by omega), ← er]; exact (Int.natCast_emod _ _).symm
  have w5 : IntKind.i64.wrap (q : Int) = (q : Int) := IntWalk.i64_in _ (by omega)
  have w6 : IntKind.i64.wrap (r : Int) = (r : Int) := IntWalk.i64_in _ (by omega)
  have f1 : decide ((1000000 : Int) ≤ (m : Int)) = true := decide_eq_true (by omega)
  have f1' : decide (1000000 ≤ m) = true := decide_eq_true hf
  have t1 : ¬ (1000000000000 : Int) < (m : Int) := by omega
  have t2 : ¬ (1000000000000 : Int) < (n : Int) := by omega
  have t3 : ¬ (m : Int) < 0 := by omega
  have t4 : ¬ (n : Int) < 0 := by omega
  clear es hs ho hz hf hm hn eq er lq lr
  have D0 : Below w.heap.size w w := Below.refl _ _
  go_enter Tryd.func9, Tryd.ntmps9
  go_wp2_with fail
  refine (head_any _ HENV.out).mono ?_
  rintro e w1 ⟨rfl, hb⟩
  have D1 := D0.trans (hb.mono D0.size)
  clear hb D0
  go_wp2_with fail
  refine (cOf _ (HENV.out.below D1) (by have := Hm.out; omega)).mono ?_
  rintro e w2 ⟨rfl, hb⟩
  have D2 := D1.trans (hb.mono D1.size)
  clear hb D1
  go_wp2_with fail
  refine (cOf _ (HENV.out.below D2) (by have := Hn.out; omega)).mono ?_
  rintro e w3 ⟨rfl, hb⟩
  have D3 := D2.trans (hb.mono D2.size)
  clear hb D2
  go_wp2_with fail
  refine (cInt _ (HENV.out.below D3) Sm.out Hm.out).mono ?_
  rintro e w4 ⟨rfl, hb⟩
  have D4 := D3.trans (hb.mono D3.size)
  clear hb D3
  go_wp2_with fail
  refine (cCmp _ Sm.out Sn.out Hc.out).mono ?_
  rintro e w5 ⟨rfl, hb⟩
  have D5 := D4.trans (hb.mono D4.size)
  clear hb D4
  go_wp2_with fail
  refine (cAdd _ Sm.out Sn.out Ss.out Es.out).mono ?_
  rintro e w6 ⟨rfl, hb⟩
  have D6 := D5.trans (hb.mono D5.size)
  clear hb D5
  go_wp2_with fail
  refine (cInt_big _ (HENV.out.below D6) Ss.out Hs.out).mono ?_
  rintro e w7 ⟨rfl, hb⟩
  have D7 := D6.trans (hb.mono D6.size)
  clear hb D6
  go_wp2_with fail
  refine (cSub_less _ Sm.out Sn.out Ho.out).mono ?_
  rintro e w8 ⟨rfl, hb⟩
  have D8 := D7.trans (hb.mono D7.size)
  clear hb D7
  go_wp2_with fail
  refine (cInt_none _ (HENV.out.below D8)).mono ?_
  rintro e w9 ⟨rfl, hb⟩
  have D9 := D8.trans (hb.mono D8.size)
  clear hb D8
  go_wp2_with fail
  refine (cDiv _ Sm.out Sn.out Hz.out Eq.out Er.out).mono ?_
  rintro e w10 ⟨rfl, hb⟩
  have D10 := D9.trans (hb.mono D9.size)
  clear hb D9
  go_wp2_with fail
  refine (cInt _ (HENV.out.below D10) Sq.out Hq.out).mono ?_
  rintro e w11 ⟨rfl, hb⟩
  have D11 := D10.trans (hb.mono D10.size)
  clear hb D10
  go_wp2_with fail
  refine (cInt _ (HENV.out.below D11) Sr.out Hr.out).mono ?_
  rintro e w12 ⟨rfl, hb⟩
  have D12 := D11.trans (hb.mono D11.size)
  clear hb D11
  go_wp2_with fail
  go_ret
  exact ⟨by simp, D12⟩
set_option maxRecDepth 100000 in
set_option maxHeartbeats 4000000 in
theorem ints_lt_big_pos_no2 (m n : Nat) (w : World) (henv : Env w) (hm : m ≤ 1000000000000) (hn : n ≤ 1000000000000) (ho : m < n) (hs : 1000000000000 < m + n) (hz : 0 < n) (hf1 : m < 1000000) (hf : 1000000 ≤ n) :
    Calls Tryd.prog 9 #[.int .i64 (m : Int), .int .i64 (n : Int)] w fun e w' => e = .returned (.bool true) ∧ Below w.heap.size w w' := by
  have HENV := Lib.hid henv
  clear henv
  have Sm := Lib.hid (small13 (n := m) (by omega))
  have Sn := Lib.hid (small13 (n := n) (by omega))
  have Hm := Lib.hid hm
  have Hn := Lib.hid hn
  obtain ⟨s, es⟩ : ∃ k, m + n = k := ⟨_, rfl⟩
  have Es := Lib.hid es
  have Ss := Lib.hid (small13 (n := s) (by omega))
  have i1 : (m : Int) + (n : Int) = (s : Int) := by omega
  have w1 : IntKind.i64.wrap (s : Int) = (s : Int) := IntWalk.i64_in _ (by omega)
  have Hs : Hid (1000000000000 < s) := Lib.hid (by omega)
  have i2 : (1000000000000 : Int) < (s : Int) := by omega
  have i3 : ¬ (s : Int) ≤ 1000000000000 := by omega
  have i3' : ¬ s ≤ 1000000000000 := by omega
  have i2' : 1000000000000 < s := by omega
  have Hc : Hid (cmpN m n = -1) := Lib.hid (by unfold cmpN; rw [if_pos ho])
  have Ho := Lib.hid ho
  have o1 : (m : Int) < (n : Int) := by omega
  have o2 : ¬ (n : Int) < (m : Int) := by omega
  have o3 : ¬ (n : Int) ≤ (m : Int) := by omega
  have o1' : m < n := ho
  have o2' : ¬ n < m := by omega
  have o3' : ¬ n ≤ m := by omega
  have Hz := Lib.hid hz
  have z1 : (0 : Int) < (n : Int) := by omega
  have z3 : ((n : Int) == 0) = false := beq_eq_false_iff_ne.2 (by omega)
  have z4 : ¬ n = 0 := by omega
  obtain ⟨q, eq⟩ : ∃ k, m / n = k := ⟨_, rfl⟩
  obtain ⟨r, er⟩ : ∃ k, m % n = k := ⟨_, rfl⟩
  have Eq := Lib.hid eq
  have Er := Lib.hid er
  have lq : q ≤ m := by rw [← eq]; exact Nat.div_le_self _ _
  have lr : r ≤ m := by rw [← er]; exact Nat.mod_le _ _
  have Sq := Lib.hid (small13 (n := q) (by omega))
  have Sr := Lib.hid (small13 (n := r) (by omega))
  have Hq : Hid (q ≤ 1000000000000) := Lib.hid (by omega)
  have Hr : Hid (r ≤ 1000000000000) := Lib.hid (by omega)
  have i5 : ((m : Int)).tdiv (n : Int) = (q : Int) := by rw [Int.tdiv_eq_ediv_of_nonneg (by omega), ← eq]; exact (Int.natCast_ediv _ _).symm
  have i6 : ((m : Int)).tmod (n : Int) = (r : Int) := by rw [Int.tmod_eq_emod_of_nonneg (by omega), ← er]; exact (Int.natCast_emod _ _).symm
  have w5 : IntKind.i64.wrap (q : Int) = (q : Int) := IntWalk.i64_in _ (by omega)
  have w6 : IntKind.i64.wrap (r : Int) = (r : Int) := IntWalk.i64_in _ (by omega)
  have f1 : decide ((1000000 : Int) ≤ (m : Int)) = false := decide_eq_false (by omega)
  have f1' : decide (1000000 ≤ m) = false := decide_eq_false (by omega)
  have f2 : decide ((1000000 : Int) ≤ (n : Int)) = true := decide_eq_true (by omega)
  have f2' : decide (1000000 ≤ n) = true := decide_eq_true hf
  have t1 : ¬ (1000000000000 : Int) < (m : Int) := by omega
  have t2 : ¬ (1000000000000 : Int) < (n : Int) := by omega
  have t3 : ¬ (m : Int) < 0 := by omega
  have t4 : ¬ (n : Int) < 0 := by omega
  clear es hs ho hz hf hm hn eq er lq lr hf1
  have D0 : Below w.heap.size w w := Below.refl _ _
  go_enter Tryd.func9, Tryd.ntmps9
  go_wp2_with fail
  refine (head_any _ HENV.out).mono ?_
  rintro e w1 ⟨rfl, hb⟩
  have D1 := D0.trans (hb.mono D0.size)
  clear hb D0
  go_wp2_with fail
  refine (cOf _ (HENV.out.below D1) (by have := Hm.out; omega)).mono ?_
  rintro e w2 ⟨rfl, hb⟩
  have D2 := D1.trans (hb.mono D1.size)
  clear hb D1
  go_wp2_with fail
  refine (cOf _ (HENV.out.below D2) (by have := Hn.out; omega)).mono ?_
  rintro e w3 ⟨rfl, hb⟩
  have D3 := D2.trans (hb.mono D2.size)
  clear hb D2
  go_wp2_with fail
  refine (cInt _ (HENV.out.below D3) Sm.out Hm.out).mono ?_
  rintro e w4 ⟨rfl, hb⟩
  have D4 := D3.trans (hb.mono D3.size)
  clear hb D3
  go_wp2_with fail
  refine (cCmp _ Sm.out Sn.out Hc.out).mono ?_
  rintro e w5 ⟨rfl, hb⟩
  have D5 := D4.trans (hb.mono D4.size)
  clear hb D4
  go_wp2_with fail
  refine (cAdd _ Sm.out Sn.out Ss.out Es.out).mono ?_
  rintro e w6 ⟨rfl, hb⟩
  have D6 := D5.trans (hb.mono D5.size)
  clear hb D5
  go_wp2_with fail
  refine (cInt_big _ (HENV.out.below D6) Ss.out Hs.out).mono ?_
  rintro e w7 ⟨rfl, hb⟩
  have D7 := D6.trans (hb.mono D6.size)
  clear hb D6
  go_wp2_with fail
  refine (cSub_less _ Sm.out Sn.out Ho.out).mono ?_
  rintro e w8 ⟨rfl, hb⟩
  have D8 := D7.trans (hb.mono D7.size)
  clear hb D7
  go_wp2_with fail
  refine (cInt_none _ (HENV.out.below D8)).mono ?_
  rintro e w9 ⟨rfl, hb⟩
  have D9 := D8.trans (hb.mono D8.size)
  clear hb D8
  go_wp2_with fail
  refine (cDiv _ Sm.out Sn.out Hz.out Eq.out Er.out).mono ?_
  rintro e w10 ⟨rfl, hb⟩
  have D10 := D9.trans (hb.mono D9.size)
  clear hb D9
  go_wp2_with fail
  refine (cInt _ (HENV.out.below D10) Sq.out Hq.out).mono ?_
  rintro e w11 ⟨rfl, hb⟩
  have D11 := D10.trans (hb.mono D10.size)
  clear hb D10
  go_wp2_with fail
  refine (cInt _ (HENV.out.below D11) Sr.out Hr.out).mono ?_
  rintro e w12 ⟨rfl, hb⟩
  have D12 := D11.trans (hb.mono D11.size)
  clear hb D11
  go_wp2_with fail
  go_ret
  exact ⟨by simp, D12⟩
set_option maxRecDepth 100000 in
set_option maxHeartbeats 4000000 in
theorem ints_lt_small_pos_fit (m n : Nat) (w : World) (henv : Env w) (hm : m ≤ 1000000000000) (hn : n ≤ 1000000000000) (ho : m < n) (hs : m + n ≤ 1000000000000) (hz : 0 < n) (hf : m < 1000000 ∧ n < 1000000) :
    Calls Tryd.prog 9 #[.int .i64 (m : Int), .int .i64 (n : Int)] w fun e w' => e = .returned (.bool true) ∧ Below w.heap.size w w' := by
  have HENV := Lib.hid henv
  clear henv
  have Sm := Lib.hid (small13 (n := m) (by omega))
  have Sn := Lib.hid (small13 (n := n) (by omega))
  have Hm := Lib.hid hm
  have Hn := Lib.hid hn
  obtain ⟨s, es⟩ : ∃ k, m + n = k := ⟨_, rfl⟩
  have Es := Lib.hid es
  have Ss := Lib.hid (small13 (n := s) (by omega))
  have i1 : (m : Int) + (n : Int) = (s : Int) := by omega
  have w1 : IntKind.i64.wrap (s : Int) = (s : Int) := IntWalk.i64_in _ (by omega)
  have Hs : Hid (s ≤ 1000000000000) := Lib.hid (by omega)
  have i2 : (s : Int) ≤ 1000000000000 := by omega
  have i3 : ¬ (1000000000000 : Int) < (s : Int) := by omega
  have i3' : ¬ 1000000000000 < s := by omega
  have i2' : s ≤ 1000000000000 := by omega
  have Hc : Hid (cmpN m n = -1) := Lib.hid (by unfold cmpN; rw [if_pos ho])
  have Ho := Lib.hid ho
  have o1 : (m : Int) < (n : Int) := by omega
  have o2 : ¬ (n : Int) < (m : Int) := by omega
  have o3 : ¬ (n : Int) ≤ (m : Int) := by omega
  have o1' : m < n := ho
  have o2' : ¬ n < m := by omega
  have o3' : ¬ n ≤ m := by omega
  have Hz := Lib.hid hz
  have z1 : (0 : Int) < (n : Int) := by omega
  have z3 : ((n : Int) == 0) = false := beq_eq_false_iff_ne.2 (by omega)
  have z4 : ¬ n = 0 := by omega
  obtain ⟨q, eq⟩ : ∃ k, m / n = k := ⟨_, rfl⟩
  obtain ⟨r, er⟩ : ∃ k, m % n = k := ⟨_, rfl⟩
  have Eq := Lib.hid eq
  have Er := Lib.hid er
  have lq : q ≤ m := by rw [← eq]; exact Nat.div_le_self _ _
  have lr : r ≤ m := by rw [← er]; exact Nat.mod_le _ _
  have Sq := Lib.hid (small13 (n := q) (by omega))
  have Sr := Lib.hid (small13 (n := r) (by omega))
  have Hq : Hid (q ≤ 1000000000000) := Lib.hid (by omega)
  have Hr : Hid (r ≤ 1000000000000) := Lib.hid (by omega)
  have i5 : ((m : Int)).tdiv (n : Int) = (q : Int) := by rw [Int.tdiv_eq_ediv_of_nonneg (by omega), ← eq]; exact (Int.natCast_ediv _ _).symm
  have i6 : ((m : Int)).tmod (n : Int) = (r : Int) := by rw [Int.tmod_eq_emod_of_nonneg (by omega), ← er]; exact (Int.natCast_emod _ _).symm
  have w5 : IntKind.i64.wrap (q : Int) = (q : Int) := IntWalk.i64_in _ (by omega)
  have w6 : IntKind.i64.wrap (r : Int) = (r : Int) := IntWalk.i64_in _ (by omega)
  have f1 : decide ((1000000 : Int) ≤ (m : Int)) = false := decide_eq_false (by omega)
  have f2 : decide ((1000000 : Int) ≤ (n : Int)) = false := decide_eq_false (by omega)
  have f1' : decide (1000000 ≤ m) = false := decide_eq_false (by omega)
  have f2' : decide (1000000 ≤ n) = false := decide_eq_false (by omega)
  obtain ⟨p, ep⟩ : ∃ k, m * n = k := ⟨_, rfl⟩
  have Ep := Lib.hid ep
  have lp : p ≤ 1000000 * 1000000 := by rw [← ep]; exact Nat.mul_le_mul (by omega) (by omega)
  have Sp := Lib.hid (small13 (n := p) (by omega))
  have Hp : Hid (p ≤ 1000000000000) := Lib.hid (by omega)
  have i7 : (m : Int) * (n : Int) = (p : Int) := by rw [← ep]; simp
  have w7 : IntKind.i64.wrap (p : Int) = (p : Int) := IntWalk.i64_in _ (by omega)
  have t1 : ¬ (1000000000000 : Int) < (m : Int) := by omega
  have t2 : ¬ (1000000000000 : Int) < (n : Int) := by omega
  have t3 : ¬ (m : Int) < 0 := by omega
  have t4 : ¬ (n : Int) < 0 := by omega
  clear es hs ho hz hf hm hn eq er lq lr ep lp
  have D0 : Below w.heap.size w w := Below.refl _ _
  go_enter Tryd.func9, Tryd.ntmps9
  go_wp2_with fail
  refine (head_any _ HENV.out).mono ?_
  rintro e w1 ⟨rfl, hb⟩
  have D1 := D0.trans (hb.mono D0.size)
  clear hb D0
  go_wp2_with fail
  refine (cOf _ (HENV.out.below D1) (by have := Hm.out; omega)).mono ?_
  rintro e w2 ⟨rfl, hb⟩
  have D2 := D1.trans (hb.mono D1.size)
  clear hb D1
  go_wp2_with fail
  refine (cOf _ (HENV.out.below D2) (by have := Hn.out; omega)).mono ?_
  rintro e w3 ⟨rfl, hb⟩
  have D3 := D2.trans (hb.mono D2.size)
  clear hb D2
  go_wp2_with fail
  refine (cInt _ (HENV.out.below D3) Sm.out Hm.out).mono ?_
  rintro e w4 ⟨rfl, hb⟩
  have D4 := D3.trans (hb.mono D3.size)
  clear hb D3
  go_wp2_with fail
  refine (cCmp _ Sm.out Sn.out Hc.out).mono ?_
  rintro e w5 ⟨rfl, hb⟩
  have D5 := D4.trans (hb.mono D4.size)
  clear hb D4
  go_wp2_with fail
  refine (cAdd _ Sm.out Sn.out Ss.out Es.out).mono ?_
  rintro e w6 ⟨rfl, hb⟩
  have D6 := D5.trans (hb.mono D5.size)
  clear hb D5
  go_wp2_with fail
  refine (cInt _ (HENV.out.below D6) Ss.out Hs.out).mono ?_
  rintro e w7 ⟨rfl, hb⟩
  have D7 := D6.trans (hb.mono D6.size)
  clear hb D6
  go_wp2_with fail
  refine (cSub_less _ Sm.out Sn.out Ho.out).mono ?_
  rintro e w8 ⟨rfl, hb⟩
  have D8 := D7.trans (hb.mono D7.size)
  clear hb D7
  go_wp2_with fail
  refine (cInt_none _ (HENV.out.below D8)).mono ?_
  rintro e w9 ⟨rfl, hb⟩
  have D9 := D8.trans (hb.mono D8.size)
  clear hb D8
  go_wp2_with fail
  refine (cDiv _ Sm.out Sn.out Hz.out Eq.out Er.out).mono ?_
  rintro e w10 ⟨rfl, hb⟩
  have D10 := D9.trans (hb.mono D9.size)
  clear hb D9
  go_wp2_with fail
  refine (cInt _ (HENV.out.below D10) Sq.out Hq.out).mono ?_
  rintro e w11 ⟨rfl, hb⟩
  have D11 := D10.trans (hb.mono D10.size)
  clear hb D10
  go_wp2_with fail
  refine (cInt _ (HENV.out.below D11) Sr.out Hr.out).mono ?_
  rintro e w12 ⟨rfl, hb⟩
  have D12 := D11.trans (hb.mono D11.size)
  clear hb D11
  go_wp2_with fail
  refine (cMul _ Sm.out Sn.out Sp.out Ep.out).mono ?_
  rintro e w13 ⟨rfl, hb⟩
  have D13 := D12.trans (hb.mono D12.size)
  clear hb D12
  go_wp2_with fail
  refine (cInt _ (HENV.out.below D13) Sp.out Hp.out).mono ?_
  rintro e w14 ⟨rfl, hb⟩
  have D14 := D13.trans (hb.mono D13.size)
  clear hb D13
  go_wp2_with fail
  go_ret
  exact ⟨by simp, D14⟩
set_option maxRecDepth 100000 in
set_option maxHeartbeats 4000000 in
theorem ints_lt_small_pos_no1 (m n : Nat) (w : World) (henv : Env w) (hm : m ≤ 1000000000000) (hn : n ≤ 1000000000000) (ho : m < n) (hs : m + n ≤ 1000000000000) (hz : 0 < n) (hf : 1000000 ≤ m) :
    Calls Tryd.prog 9 #[.int .i64 (m : Int), .int .i64 (n : Int)] w fun e w' => e = .returned (.bool true) ∧ Below w.heap.size w w' := by
  have HENV := Lib.hid henv
  clear henv
  have Sm := Lib.hid (small13 (n := m) (by omega))
  have Sn := Lib.hid (small13 (n := n) (by omega))
  have Hm := Lib.hid hm
  have Hn := Lib.hid hn
  obtain ⟨s, es⟩ : ∃ k, m + n = k := ⟨_, rfl⟩
  have Es := Lib.hid es
  have Ss := Lib.hid (small13 (n := s) (by omega))
  have i1 : (m : Int) + (n : Int) = (s : Int) := by omega
  have w1 : IntKind.i64.wrap (s : Int) = (s : Int) := IntWalk.i64_in _ (by omega)
  have Hs : Hid (s ≤ 1000000000000) := Lib.hid (by omega)
  have i2 : (s : Int) ≤ 1000000000000 := by omega
  have i3 : ¬ (1000000000000 : Int) < (s : Int) := by omega
  have i3' : ¬ 1000000000000 < s := by omega
  have i2' : s ≤ 1000000000000 := by omega
  have Hc : Hid (cmpN m n = -1) := Lib.hid (by unfold cmpN; rw [if_pos ho])
  have Ho := Lib.hid ho
  have o1 : (m : Int) < (n : Int) := by omega
  have o2 : ¬ (n : Int) < (m : Int) := by omega
  have o3 : ¬ (n : Int) ≤ (m : Int) := by omega
  have o1' : m < n := ho
  have o2' : ¬ n < m := by omega
  have o3' : ¬ n ≤ m := by omega
  have Hz := Lib.hid hz
  have z1 : (0 : Int) < (n : Int) := by omega
  have z3 : ((n : Int) == 0) = false := beq_eq_false_iff_ne.2 (by omega)
  have z4 : ¬ n = 0 := by omega
  obtain ⟨q, eq⟩ : ∃ k, m / n = k := ⟨_, rfl⟩
  obtain ⟨r, er⟩ : ∃ k, m % n = k := ⟨_, rfl⟩
  have Eq := Lib.hid eq
  have Er := Lib.hid er
  have lq : q ≤ m := by rw [← eq]; exact Nat.div_le_self _ _
  have lr : r ≤ m := by rw [← er]; exact Nat.mod_le _ _
  have Sq := Lib.hid (small13 (n := q) (by omega))
  have Sr := Lib.hid (small13 (n := r) (by omega))
  have Hq : Hid (q ≤ 1000000000000) := Lib.hid (by omega)
  have Hr : Hid (r ≤ 1000000000000) := Lib.hid (by omega)
  have i5 : ((m : Int)).tdiv (n : Int) = (q : Int) := by rw [Int.tdiv_eq_ediv_of_nonneg (by omega), ← eq]; exact (Int.natCast_ediv _ _).symm
  have i6 : ((m : Int)).tmod (n : Int) = (r : Int) := by rw [Int.tmod_eq_emod_of_nonneg (by omega), ← er]; exact (Int.natCast_emod _ _).symm
  have w5 : IntKind.i64.wrap (q : Int) = (q : Int) := IntWalk.i64_in _ (by omega)
  have w6 : IntKind.i64.wrap (r : Int) = (r : Int) := IntWalk.i64_in _ (by omega)
  have f1 : decide ((1000000 : Int) ≤ (m : Int)) = true := decide_eq_true (by omega)
  have f1' : decide (1000000 ≤ m) = true := decide_eq_true hf
  have t1 : ¬ (1000000000000 : Int) < (m : Int) := by omega
  have t2 : ¬ (1000000000000 : Int) < (n : Int) := by omega
  have t3 : ¬ (m : Int) < 0 := by omega
  have t4 : ¬ (n : Int) < 0 := by omega
  clear es hs ho hz hf hm hn eq er lq lr
  have D0 : Below w.heap.size w w := Below.refl _ _
  go_enter Tryd.func9, Tryd.ntmps9
  go_wp2_with fail
  refine (head_any _ HENV.out).mono ?_
  rintro e w1 ⟨rfl, hb⟩
  have D1 := D0.trans (hb.mono D0.size)
  clear hb D0
  go_wp2_with fail
  refine (cOf _ (HENV.out.below D1) (by have := Hm.out; omega)).mono ?_
  rintro e w2 ⟨rfl, hb⟩
  have D2 := D1.trans (hb.mono D1.size)
  clear hb D1
  go_wp2_with fail
  refine (cOf _ (HENV.out.below D2) (by have := Hn.out; omega)).mono ?_
  rintro e w3 ⟨rfl, hb⟩
  have D3 := D2.trans (hb.mono D2.size)
  clear hb D2
  go_wp2_with fail
  refine (cInt _ (HENV.out.below D3) Sm.out Hm.out).mono ?_
  rintro e w4 ⟨rfl, hb⟩
  have D4 := D3.trans (hb.mono D3.size)
  clear hb D3
  go_wp2_with fail
  refine (cCmp _ Sm.out Sn.out Hc.out).mono ?_
  rintro e w5 ⟨rfl, hb⟩
  have D5 := D4.trans (hb.mono D4.size)
  clear hb D4
  go_wp2_with fail
  refine (cAdd _ Sm.out Sn.out Ss.out Es.out).mono ?_
  rintro e w6 ⟨rfl, hb⟩
  have D6 := D5.trans (hb.mono D5.size)
  clear hb D5
  go_wp2_with fail
  refine (cInt _ (HENV.out.below D6) Ss.out Hs.out).mono ?_
  rintro e w7 ⟨rfl, hb⟩
  have D7 := D6.trans (hb.mono D6.size)
  clear hb D6
  go_wp2_with fail
  refine (cSub_less _ Sm.out Sn.out Ho.out).mono ?_
  rintro e w8 ⟨rfl, hb⟩
  have D8 := D7.trans (hb.mono D7.size)
  clear hb D7
  go_wp2_with fail
  refine (cInt_none _ (HENV.out.below D8)).mono ?_
  rintro e w9 ⟨rfl, hb⟩
  have D9 := D8.trans (hb.mono D8.size)
  clear hb D8
  go_wp2_with fail
  refine (cDiv _ Sm.out Sn.out Hz.out Eq.out Er.out).mono ?_
  rintro e w10 ⟨rfl, hb⟩
  have D10 := D9.trans (hb.mono D9.size)
  clear hb D9
  go_wp2_with fail
  refine (cInt _ (HENV.out.below D10) Sq.out Hq.out).mono ?_
  rintro e w11 ⟨rfl, hb⟩
  have D11 := D10.trans (hb.mono D10.size)
  clear hb D10
  go_wp2_with fail
  refine (cInt _ (HENV.out.below D11) Sr.out Hr.out).mono ?_
  rintro e w12 ⟨rfl, hb⟩
  have D12 := D11.trans (hb.mono D11.size)
  clear hb D11
  go_wp2_with fail
  go_ret
  exact ⟨by simp, D12⟩
set_option maxRecDepth 100000 in
set_option maxHeartbeats 4000000 in
theorem ints_lt_small_pos_no2 (m n : Nat) (w : World) (henv : Env w) (hm : m ≤ 1000000000000) (hn : n ≤ 1000000000000) (ho : m < n) (hs : m + n ≤ 1000000000000) (hz : 0 < n) (hf1 : m < 1000000) (hf : 1000000 ≤ n) :
    Calls Tryd.prog 9 #[.int .i64 (m : Int), .int .i64 (n : Int)] w fun e w' => e = .returned (.bool true) ∧ Below w.heap.size w w' := by
  have HENV := Lib.hid henv
  clear henv
  have Sm := Lib.hid (small13 (n := m) (by omega))
  have Sn := Lib.hid (small13 (n := n) (by omega))
  have Hm := Lib.hid hm
  have Hn := Lib.hid hn
  obtain ⟨s, es⟩ : ∃ k, m + n = k := ⟨_, rfl⟩
  have Es := Lib.hid es
  have Ss := Lib.hid (small13 (n := s) (by omega))
  have i1 : (m : Int) + (n : Int) = (s : Int) := by omega
  have w1 : IntKind.i64.wrap (s : Int) = (s : Int) := IntWalk.i64_in _ (by omega)
  have Hs : Hid (s ≤ 1000000000000) := Lib.hid (by omega)
  have i2 : (s : Int) ≤ 1000000000000 := by omega
  have i3 : ¬ (1000000000000 : Int) < (s : Int) := by omega
  have i3' : ¬ 1000000000000 < s := by omega
  have i2' : s ≤ 1000000000000 := by omega
  have Hc : Hid (cmpN m n = -1) := Lib.hid (by unfold cmpN; rw [if_pos ho])
  have Ho := Lib.hid ho
  have o1 : (m : Int) < (n : Int) := by omega
  have o2 : ¬ (n : Int) < (m : Int) := by omega
  have o3 : ¬ (n : Int) ≤ (m : Int) := by omega
  have o1' : m < n := ho
  have o2' : ¬ n < m := by omega
  have o3' : ¬ n ≤ m := by omega
  have Hz := Lib.hid hz
  have z1 : (0 : Int) < (n : Int) := by omega
  have z3 : ((n : Int) == 0) = false := beq_eq_false_iff_ne.2 (by omega)
  have z4 : ¬ n = 0 := by omega
  obtain ⟨q, eq⟩ : ∃ k, m / n = k := ⟨_, rfl⟩
  obtain ⟨r, er⟩ : ∃ k, m % n = k := ⟨_, rfl⟩
  have Eq := Lib.hid eq
  have Er := Lib.hid er
  have lq : q ≤ m := by rw [← eq]; exact Nat.div_le_self _ _
  have lr : r ≤ m := by rw [← er]; exact Nat.mod_le _ _
  have Sq := Lib.hid (small13 (n := q) (by omega))
  have Sr := Lib.hid (small13 (n := r) (by omega))
  have Hq : Hid (q ≤ 1000000000000) := Lib.hid (by omega)
  have Hr : Hid (r ≤ 1000000000000) := Lib.hid (by omega)
  have i5 : ((m : Int)).tdiv (n : Int) = (q : Int) := by rw [Int.tdiv_eq_ediv_of_nonneg (by omega), ← eq]; exact (Int.natCast_ediv _ _).symm
  have i6 : ((m : Int)).tmod (n : Int) = (r : Int) := by rw [Int.tmod_eq_emod_of_nonneg (by omega), ← er]; exact (Int.natCast_emod _ _).symm
  have w5 : IntKind.i64.wrap (q : Int) = (q : Int) := IntWalk.i64_in _ (by omega)
  have w6 : IntKind.i64.wrap (r : Int) = (r : Int) := IntWalk.i64_in _ (by omega)
  have f1 : decide ((1000000 : Int) ≤ (m : Int)) = false := decide_eq_false (by omega)
  have f1' : decide (1000000 ≤ m) = false := decide_eq_false (by omega)
  have f2 : decide ((1000000 : Int) ≤ (n : Int)) = true := decide_eq_true (by omega)
  have f2' : decide (1000000 ≤ n) = true := decide_eq_true hf
  have t1 : ¬ (1000000000000 : Int) < (m : Int) := by omega
  have t2 : ¬ (1000000000000 : Int) < (n : Int) := by omega
  have t3 : ¬ (m : Int) < 0 := by omega
  have t4 : ¬ (n : Int) < 0 := by omega
  clear es hs ho hz hf hm hn eq er lq lr hf1
  have D0 : Below w.heap.size w w := Below.refl _ _
  go_enter Tryd.func9, Tryd.ntmps9
  go_wp2_with fail
  refine (head_any _ HENV.out).mono ?_
  rintro e w1 ⟨rfl, hb⟩
  have D1 := D0.trans (hb.mono D0.size)
  clear hb D0
  go_wp2_with fail
  refine (cOf _ (HENV.out.below D1) (by have := Hm.out; omega)).mono ?_
  rintro e w2 ⟨rfl, hb⟩
  have D2 := D1.trans (hb.mono D1.size)
  clear hb D1
  go_wp2_with fail
  refine (cOf _ (HENV.out.below D2) (by have := Hn.out; omega)).mono ?_
  rintro e w3 ⟨rfl, hb⟩
  have D3 := D2.trans (hb.mono D2.size)
  clear hb D2
  go_wp2_with fail
  refine (cInt _ (HENV.out.below D3) Sm.out Hm.out).mono ?_
  rintro e w4 ⟨rfl, hb⟩
  have D4 := D3.trans (hb.mono D3.size)
  clear hb D3
  go_wp2_with fail
  refine (cCmp _ Sm.out Sn.out Hc.out).mono ?_
  rintro e w5 ⟨rfl, hb⟩
  have D5 := D4.trans (hb.mono D4.size)
  clear hb D4
  go_wp2_with fail
  refine (cAdd _ Sm.out Sn.out Ss.out Es.out).mono ?_
  rintro e w6 ⟨rfl, hb⟩
  have D6 := D5.trans (hb.mono D5.size)
  clear hb D5
  go_wp2_with fail
  refine (cInt _ (HENV.out.below D6) Ss.out Hs.out).mono ?_
  rintro e w7 ⟨rfl, hb⟩
  have D7 := D6.trans (hb.mono D6.size)
  clear hb D6
  go_wp2_with fail
  refine (cSub_less _ Sm.out Sn.out Ho.out).mono ?_
  rintro e w8 ⟨rfl, hb⟩
  have D8 := D7.trans (hb.mono D7.size)
  clear hb D7
  go_wp2_with fail
  refine (cInt_none _ (HENV.out.below D8)).mono ?_
  rintro e w9 ⟨rfl, hb⟩
  have D9 := D8.trans (hb.mono D8.size)
  clear hb D8
  go_wp2_with fail
  refine (cDiv _ Sm.out Sn.out Hz.out Eq.out Er.out).mono ?_
  rintro e w10 ⟨rfl, hb⟩
  have D10 := D9.trans (hb.mono D9.size)
  clear hb D9
  go_wp2_with fail
  refine (cInt _ (HENV.out.below D10) Sq.out Hq.out).mono ?_
  rintro e w11 ⟨rfl, hb⟩
  have D11 := D10.trans (hb.mono D10.size)
  clear hb D10
  go_wp2_with fail
  refine (cInt _ (HENV.out.below D11) Sr.out Hr.out).mono ?_
  rintro e w12 ⟨rfl, hb⟩
  have D12 := D11.trans (hb.mono D11.size)
  clear hb D11
  go_wp2_with fail
  go_ret
  exact ⟨by simp, D12⟩
set_option maxRecDepth 100000 in
set_option maxHeartbeats 4000000 in
theorem ints_eq_small_zero_fit (m n : Nat) (w : World) (henv : Env w) (hm : m ≤ 1000000000000) (hn : n ≤ 1000000000000) (ho : m = n) (hs : m + n ≤ 1000000000000) (hz : n = 0) (hf : m < 1000000 ∧ n < 1000000) :
    Calls Tryd.prog 9 #[.int .i64 (m : Int), .int .i64 (n : Int)] w fun e w' => e = .returned (.bool true) ∧ Below w.heap.size w w' := by
  have HENV := Lib.hid henv
  clear henv
  have Sm := Lib.hid (small13 (n := m) (by omega))
  have Sn := Lib.hid (small13 (n := n) (by omega))
  have Hm := Lib.hid hm
  have Hn := Lib.hid hn
  obtain ⟨s, es⟩ : ∃ k, m + n = k := ⟨_, rfl⟩
  have Es := Lib.hid es
  have Ss := Lib.hid (small13 (n := s) (by omega))
  have i1 : (m : Int) + (n : Int) = (s : Int) := by omega
  have w1 : IntKind.i64.wrap (s : Int) = (s : Int) := IntWalk.i64_in _ (by omega)
  have Hs : Hid (s ≤ 1000000000000) := Lib.hid (by omega)
  have i2 : (s : Int) ≤ 1000000000000 := by omega
  have i3 : ¬ (1000000000000 : Int) < (s : Int) := by omega
  have i3' : ¬ 1000000000000 < s := by omega
  have i2' : s ≤ 1000000000000 := by omega
  have Hc : Hid (cmpN m n = 0) := Lib.hid (by unfold cmpN; rw [if_neg (by omega), if_neg (by omega)])
  have o1 : ¬ (m : Int) < (n : Int) := by omega
  have o2 : ¬ (n : Int) < (m : Int) := by omega
  have o3 : (n : Int) ≤ (m : Int) := by omega
  have o1' : ¬ m < n := by omega
  have o2' : ¬ n < m := by omega
  have o3' : n ≤ m := by omega
  obtain ⟨d, ed⟩ : ∃ k, n + k = m := ⟨m - n, by omega⟩
  have Ed := Lib.hid ed
  have Sd := Lib.hid (small13 (n := d) (by omega))
  have Hd : Hid (d ≤ 1000000000000) := Lib.hid (by omega)
  have i4 : (m : Int) - (n : Int) = (d : Int) := by omega
  have w4 : IntKind.i64.wrap (d : Int) = (d : Int) := IntWalk.i64_in _ (by omega)
  have z1 : ¬ (0 : Int) < (n : Int) := by omega
  have z2 : ¬ 0 < n := by omega
  have f1 : decide ((1000000 : Int) ≤ (m : Int)) = false := decide_eq_false (by omega)
  have f2 : decide ((1000000 : Int) ≤ (n : Int)) = false := decide_eq_false (by omega)
  have f1' : decide (1000000 ≤ m) = false := decide_eq_false (by omega)
  have f2' : decide (1000000 ≤ n) = false := decide_eq_false (by omega)
  obtain ⟨p, ep⟩ : ∃ k, m * n = k := ⟨_, rfl⟩
  have Ep := Lib.hid ep
  have lp : p ≤ 1000000 * 1000000 := by rw [← ep]; exact Nat.mul_le_mul (by omega) (by omega)
  have Sp := Lib.hid (small13 (n := p) (by omega))
  have Hp : Hid (p ≤ 1000000000000) := Lib.hid (by omega)
  have i7 : (m : Int) * (n : Int) = (p : Int) := by rw [← ep]; simp
  have w7 : IntKind.i64.wrap (p : Int) = (p : Int) := IntWalk.i64_in _ (by omega)
  have t1 : ¬ (1000000000000 : Int) < (m : Int) := by omega
  have t2 : ¬ (1000000000000 : Int) < (n : Int) := by omega
  have t3 : ¬ (m : Int) < 0 := by omega
  have t4 : ¬ (n : Int) < 0 := by omega
  clear es hs ho hz hf hm hn ed ep lp
  have D0 : Below w.heap.size w w := Below.refl _ _
  go_enter Tryd.func9, Tryd.ntmps9
  go_wp2_with fail
  refine (head_any _ HENV.out).mono ?_
  rintro e w1 ⟨rfl, hb⟩
  have D1 := D0.trans (hb.mono D0.size)
  clear hb D0
  go_wp2_with fail
  refine (cOf _ (HENV.out.below D1) (by have := Hm.out; omega)).mono ?_
  rintro e w2 ⟨rfl, hb⟩
  have D2 := D1.trans (hb.mono D1.size)
  clear hb D1
  go_wp2_with fail
  refine (cOf _ (HENV.out.below D2) (by have := Hn.out; omega)).mono ?_
  rintro e w3 ⟨rfl, hb⟩
  have D3 := D2.trans (hb.mono D2.size)
  clear hb D2
  go_wp2_with fail
  refine (cInt _ (HENV.out.below D3) Sm.out Hm.out).mono ?_
  rintro e w4 ⟨rfl, hb⟩
  have D4 := D3.trans (hb.mono D3.size)
  clear hb D3
  go_wp2_with fail
  refine (cCmp _ Sm.out Sn.out Hc.out).mono ?_
  rintro e w5 ⟨rfl, hb⟩
  have D5 := D4.trans (hb.mono D4.size)
  clear hb D4
  go_wp2_with fail
  refine (cAdd _ Sm.out Sn.out Ss.out Es.out).mono ?_
  rintro e w6 ⟨rfl, hb⟩
  have D6 := D5.trans (hb.mono D5.size)
  clear hb D5
  go_wp2_with fail
  refine (cInt _ (HENV.out.below D6) Ss.out Hs.out).mono ?_
  rintro e w7 ⟨rfl, hb⟩
  have D7 := D6.trans (hb.mono D6.size)
  clear hb D6
  go_wp2_with fail
  refine (cSub _ Sm.out Sn.out Ed.out).mono ?_
  rintro e w8 ⟨rfl, hb⟩
  have D8 := D7.trans (hb.mono D7.size)
  clear hb D7
  go_wp2_with fail
  refine (cInt _ (HENV.out.below D8) Sd.out Hd.out).mono ?_
  rintro e w9 ⟨rfl, hb⟩
  have D9 := D8.trans (hb.mono D8.size)
  clear hb D8
  go_wp2_with fail
  refine (cMul _ Sm.out Sn.out Sp.out Ep.out).mono ?_
  rintro e w10 ⟨rfl, hb⟩
  have D10 := D9.trans (hb.mono D9.size)
  clear hb D9
  go_wp2_with fail
  refine (cInt _ (HENV.out.below D10) Sp.out Hp.out).mono ?_
  rintro e w11 ⟨rfl, hb⟩
  have D11 := D10.trans (hb.mono D10.size)
  clear hb D10
  go_wp2_with fail
  go_ret
  exact ⟨by simp, D11⟩
set_option maxRecDepth 100000 in
set_option maxHeartbeats 4000000 in
theorem ints_eq_big_pos_no1 (m n : Nat) (w : World) (henv : Env w) (hm : m ≤ 1000000000000) (hn : n ≤ 1000000000000) (ho : m = n) (hs : 1000000000000 < m + n) (hz : 0 < n) (hf : 1000000 ≤ m) :
    Calls Tryd.prog 9 #[.int .i64 (m : Int), .int .i64 (n : Int)] w fun e w' => e = .returned (.bool true) ∧ Below w.heap.size w w' := by
  have HENV := Lib.hid henv
  clear henv
  have Sm := Lib.hid (small13 (n := m) (by omega))
  have Sn := Lib.hid (small13 (n := n) (by omega))
  have Hm := Lib.hid hm
  have Hn := Lib.hid hn
  obtain ⟨s, es⟩ : ∃ k, m + n = k := ⟨_, rfl⟩
  have Es := Lib.hid es
  have Ss := Lib.hid (small13 (n := s) (by omega))
  have i1 : (m : Int) + (n : Int) = (s : Int) := by omega
  have w1 : IntKind.i64.wrap (s : Int) = (s : Int) := IntWalk.i64_in _ (by omega)
  have Hs : Hid (1000000000000 < s) := Lib.hid (by omega)
  have i2 : (1000000000000 : Int) < (s : Int) := by omega
  have i3 : ¬ (s : Int) ≤ 1000000000000 := by omega
  have i3' : ¬ s ≤ 1000000000000 := by omega
  have i2' : 1000000000000 < s := by omega
  have Hc : Hid (cmpN m n = 0) := Lib.hid (by unfold cmpN; rw [if_neg (by omega), if_neg (by omega)])
  have o1 : ¬ (m : Int) < (n : Int) := by omega
  have o2 : ¬ (n : Int) < (m : Int) := by omega
  have o3 : (n : Int) ≤ (m : Int) := by omega
  have o1' : ¬ m < n := by omega
  have o2' : ¬ n < m := by omega
  have o3' : n ≤ m := by omega
  obtain ⟨d, ed⟩ : ∃ k, n + k = m := ⟨m - n, by omega⟩
  have Ed := Lib.hid ed
  have Sd := Lib.hid (small13 (n := d) (by omega))
  have Hd : Hid (d ≤ 1000000000000) := Lib.hid (by omega)
  have i4 : (m : Int) - (n : Int) = (d : Int) := by omega
  have w4 : IntKind.i64.wrap (d : Int) = (d : Int) := IntWalk.i64_in _ (by omega)
  have Hz := Lib.hid hz
  have z1 : (0 : Int) < (n : Int) := by omega
  have z3 : ((n : Int) == 0) = false := beq_eq_false_iff_ne.2 (by omega)
  have z4 : ¬ n = 0 := by omega
  obtain ⟨q, eq⟩ : ∃ k, m / n = k := ⟨_, rfl⟩
  obtain ⟨r, er⟩ : ∃ k, m % n = k := ⟨_, rfl⟩
  have Eq := Lib.hid eq
  have Er := Lib.hid er
  have lq : q ≤ m := by rw [← eq]; exact Nat.div_le_self _ _
  have lr : r ≤ m := by rw [← er]; exact Nat.mod_le _ _
  have Sq := Lib.hid (small13 (n := q) (by omega))
  have Sr := Lib.hid (small13 (n := r) (by omega))
  have Hq : Hid (q ≤ 1000000000000) := Lib.hid (by omega)
  have Hr : Hid (r ≤ 1000000000000) := Lib.hid (by omega)
  have i5 : ((m : Int)).tdiv (n : Int) = (q : Int) := by rw [Int.tdiv_eq_ediv_of_nonneg (by omega), ← eq]; exact (Int.natCast_ediv _ _).symm
  have i6 : ((m : Int)).tmod (n : Int) = (r : Int) := by rw [Int.tmod_eq_emod_of_nonneg (by omega), ← er]; exact (Int.natCast_emod _ _).symm
  have w5 : IntKind.i64.wrap (q : Int) = (q : Int) := IntWalk.i64_in _ (by omega)
  have w6 : IntKind.i64.wrap (r : Int) = (r : Int) := IntWalk.i64_in _ (by omega)
  have f1 : decide ((1000000 : Int) ≤ (m : Int)) = true := decide_eq_true (by omega)
  have f1' : decide (1000000 ≤ m) = true := decide_eq_true hf
  have t1 : ¬ (1000000000000 : Int) < (m : Int) := by omega
  have t2 : ¬ (1000000000000 : Int) < (n : Int) := by omega
  have t3 : ¬ (m : Int) < 0 := by omega
  have t4 : ¬ (n : Int) < 0 := by omega
  clear es hs ho hz hf hm hn ed eq er lq lr
  have D0 : Below w.heap.size w w := Below.refl _ _
  go_enter Tryd.func9, Tryd.ntmps9
  go_wp2_with fail
  refine (head_any _ HENV.out).mono ?_
  rintro e w1 ⟨rfl, hb⟩
  have D1 := D0.trans (hb.mono D0.size)
  clear hb D0
  go_wp2_with fail
  refine (cOf _ (HENV.out.below D1) (by have := Hm.out; omega)).mono ?_
  rintro e w2 ⟨rfl, hb⟩
  have D2 := D1.trans (hb.mono D1.size)
  clear hb D1
  go_wp2_with fail
  refine (cOf _ (HENV.out.below D2) (by have := Hn.out; omega)).mono ?_
  rintro e w3 ⟨rfl, hb⟩
  have D3 := D2.trans (hb.mono D2.size)
  clear hb D2
  go_wp2_with fail
  refine (cInt _ (HENV.out.below D3) Sm.out Hm.out).mono ?_
  rintro e w4 ⟨rfl, hb⟩
  have D4 := D3.trans (hb.mono D3.size)
  clear hb D3
  go_wp2_with fail
  refine (cCmp _ Sm.out Sn.out Hc.out).mono ?_
  rintro e w5 ⟨rfl, hb⟩
  have D5 := D4.trans (hb.mono D4.size)
  clear hb D4
  go_wp2_with fail
  refine (cAdd _ Sm.out Sn.out Ss.out Es.out).mono ?_
  rintro e w6 ⟨rfl, hb⟩
  have D6 := D5.trans (hb.mono D5.size)
  clear hb D5
  go_wp2_with fail
  refine (cInt_big _ (HENV.out.below D6) Ss.out Hs.out).mono ?_
  rintro e w7 ⟨rfl, hb⟩
  have D7 := D6.trans (hb.mono D6.size)
  clear hb D6
  go_wp2_with fail
  refine (cSub _ Sm.out Sn.out Ed.out).mono ?_
  rintro e w8 ⟨rfl, hb⟩
  have D8 := D7.trans (hb.mono D7.size)
  clear hb D7
  go_wp2_with fail
  refine (cInt _ (HENV.out.below D8) Sd.out Hd.out).mono ?_
  rintro e w9 ⟨rfl, hb⟩
  have D9 := D8.trans (hb.mono D8.size)
  clear hb D8
  go_wp2_with fail
  refine (cDiv _ Sm.out Sn.out Hz.out Eq.out Er.out).mono ?_
  rintro e w10 ⟨rfl, hb⟩
  have D10 := D9.trans (hb.mono D9.size)
  clear hb D9
  go_wp2_with fail
  refine (cInt _ (HENV.out.below D10) Sq.out Hq.out).mono ?_
  rintro e w11 ⟨rfl, hb⟩
  have D11 := D10.trans (hb.mono D10.size)
  clear hb D10
  go_wp2_with fail
  refine (cInt _ (HENV.out.below D11) Sr.out Hr.out).mono ?_
  rintro e w12 ⟨rfl, hb⟩
  have D12 := D11.trans (hb.mono D11.size)
  clear hb D11
  go_wp2_with fail
  go_ret
  exact ⟨by simp, D12⟩
set_option maxRecDepth 100000 in
set_option maxHeartbeats 4000000 in
theorem ints_eq_big_pos_no2 (m n : Nat) (w : World) (henv : Env w) (hm : m ≤ 1000000000000) (hn : n ≤ 1000000000000) (ho : m = n) (hs : 1000000000000 < m + n) (hz : 0 < n) (hf1 : m < 1000000) (hf : 1000000 ≤ n) :
    Calls Tryd.prog 9 #[.int .i64 (m : Int), .int .i64 (n : Int)] w fun e w' => e = .returned (.bool true) ∧ Below w.heap.size w w' := by
  have HENV := Lib.hid henv
  clear henv
  have Sm := Lib.hid (small13 (n := m) (by omega))
  have Sn := Lib.hid (small13 (n := n) (by omega))
  have Hm := Lib.hid hm
  have Hn := Lib.hid hn
  obtain ⟨s, es⟩ : ∃ k, m + n = k := ⟨_, rfl⟩
  have Es := Lib.hid es
  have Ss := Lib.hid (small13 (n := s) (by omega))
  have i1 : (m : Int) + (n : Int) = (s : Int) := by omega
  have w1 : IntKind.i64.wrap (s : Int) = (s : Int) := IntWalk.i64_in _ (by omega)
  have Hs : Hid (1000000000000 < s) := Lib.hid (by omega)
  have i2 : (1000000000000 : Int) < (s : Int) := by omega
  have i3 : ¬ (s : Int) ≤ 1000000000000 := by omega
  have i3' : ¬ s ≤ 1000000000000 := by omega
  have i2' : 1000000000000 < s := by omega
  have Hc : Hid (cmpN m n = 0) := Lib.hid (by unfold cmpN; rw [if_neg (by omega), if_neg (by omega)])
  have o1 : ¬ (m : Int) < (n : Int) := by omega
  have o2 : ¬ (n : Int) < (m : Int) := by omega
  have o3 : (n : Int) ≤ (m : Int) := by omega
  have o1' : ¬ m < n := by omega
  have o2' : ¬ n < m := by omega
  have o3' : n ≤ m := by omega
  obtain ⟨d, ed⟩ : ∃ k, n + k = m := ⟨m - n, by omega⟩
  have Ed := Lib.hid ed
  have Sd := Lib.hid (small13 (n := d) (by omega))
  have Hd : Hid (d ≤ 1000000000000) := Lib.hid (by omega)
  have i4 : (m : Int) - (n : Int) = (d : Int) := by omega
  have w4 : IntKind.i64.wrap (d : Int) = (d : Int) := IntWalk.i64_in _ (by omega)
  have Hz := Lib.hid hz
  have z1 : (0 : Int) < (n : Int) := by omega
  have z3 : ((n : Int) == 0) = false := beq_eq_false_iff_ne.2 (by omega)
  have z4 : ¬ n = 0 := by omega
  obtain ⟨q, eq⟩ : ∃ k, m / n = k := ⟨_, rfl⟩
  obtain ⟨r, er⟩ : ∃ k, m % n = k := ⟨_, rfl⟩
  have Eq := Lib.hid eq
  have Er := Lib.hid er
  have lq : q ≤ m := by rw [← eq]; exact Nat.div_le_self _ _
  have lr : r ≤ m := by rw [← er]; exact Nat.mod_le _ _
  have Sq := Lib.hid (small13 (n := q) (by omega))
  have Sr := Lib.hid (small13 (n := r) (by omega))
  have Hq : Hid (q ≤ 1000000000000) := Lib.hid (by omega)
  have Hr : Hid (r ≤ 1000000000000) := Lib.hid (by omega)
  have i5 : ((m : Int)).tdiv (n : Int) = (q : Int) := by rw [Int.tdiv_eq_ediv_of_nonneg (by omega), ← eq]; exact (Int.natCast_ediv _ _).symm
  have i6 : ((m : Int)).tmod (n : Int) = (r : Int) := by rw [Int.tmod_eq_emod_of_nonneg (by omega), ← er]; exact (Int.natCast_emod _ _).symm
  have w5 : IntKind.i64.wrap (q : Int) = (q : Int) := IntWalk.i64_in _ (by omega)
  have w6 : IntKind.i64.wrap (r : Int) = (r : Int) := IntWalk.i64_in _ (by omega)
  have f1 : decide ((1000000 : Int) ≤ (m : Int)) = false := decide_eq_false (by omega)
  have f1' : decide (1000000 ≤ m) = false := decide_eq_false (by omega)
  have f2 : decide ((1000000 : Int) ≤ (n : Int)) = true := decide_eq_true (by omega)
  have f2' : decide (1000000 ≤ n) = true := decide_eq_true hf
  have t1 : ¬ (1000000000000 : Int) < (m : Int) := by omega
  have t2 : ¬ (1000000000000 : Int) < (n : Int) := by omega
  have t3 : ¬ (m : Int) < 0 := by omega
  have t4 : ¬ (n : Int) < 0 := by omega
  clear es hs ho hz hf hm hn ed eq er lq lr hf1
  have D0 : Below w.heap.size w w := Below.refl _ _
  go_enter Tryd.func9, Tryd.ntmps9
  go_wp2_with fail
  refine (head_any _ HENV.out).mono ?_
  rintro e w1 ⟨rfl, hb⟩
  have D1 := D0.trans (hb.mono D0.size)
  clear hb D0
  go_wp2_with fail
  refine (cOf _ (HENV.out.below D1) (by have := Hm.out; omega)).mono ?_
  rintro e w2 ⟨rfl, hb⟩
  have D2 := D1.trans (hb.mono D1.size)
  clear hb D1
  go_wp2_with fail
  refine (cOf _ (HENV.out.below D2) (by have := Hn.out; omega)).mono ?_
  rintro e w3 ⟨rfl, hb⟩
  have D3 := D2.trans (hb.mono D2.size)
  clear hb D2
  go_wp2_with fail
  refine (cInt _ (HENV.out.below D3) Sm.out Hm.out).mono ?_
  rintro e w4 ⟨rfl, hb⟩
  have D4 := D3.trans (hb.mono D3.size)
  clear hb D3
  go_wp2_with fail
  refine (cCmp _ Sm.out Sn.out Hc.out).mono ?_
  rintro e w5 ⟨rfl, hb⟩
  have D5 := D4.trans (hb.mono D4.size)
  clear hb D4
  go_wp2_with fail
  refine (cAdd _ Sm.out Sn.out Ss.out Es.out).mono ?_
  rintro e w6 ⟨rfl, hb⟩
  have D6 := D5.trans (hb.mono D5.size)
  clear hb D5
  go_wp2_with fail
  refine (cInt_big _ (HENV.out.below D6) Ss.out Hs.out).mono ?_
  rintro e w7 ⟨rfl, hb⟩
  have D7 := D6.trans (hb.mono D6.size)
  clear hb D6
  go_wp2_with fail
  refine (cSub _ Sm.out Sn.out Ed.out).mono ?_
  rintro e w8 ⟨rfl, hb⟩
  have D8 := D7.trans (hb.mono D7.size)
  clear hb D7
  go_wp2_with fail
  refine (cInt _ (HENV.out.below D8) Sd.out Hd.out).mono ?_
  rintro e w9 ⟨rfl, hb⟩
  have D9 := D8.trans (hb.mono D8.size)
  clear hb D8
  go_wp2_with fail
  refine (cDiv _ Sm.out Sn.out Hz.out Eq.out Er.out).mono ?_
  rintro e w10 ⟨rfl, hb⟩
  have D10 := D9.trans (hb.mono D9.size)
  clear hb D9
  go_wp2_with fail
  refine (cInt _ (HENV.out.below D10) Sq.out Hq.out).mono ?_
  rintro e w11 ⟨rfl, hb⟩
  have D11 := D10.trans (hb.mono D10.size)
  clear hb D10
  go_wp2_with fail
  refine (cInt _ (HENV.out.below D11) Sr.out Hr.out).mono ?_
  rintro e w12 ⟨rfl, hb⟩
  have D12 := D11.trans (hb.mono D11.size)
  clear hb D11
  go_wp2_with fail
  go_ret
  exact ⟨by simp, D12⟩
set_option maxRecDepth 100000 in
set_option maxHeartbeats 4000000 in
theorem ints_eq_small_pos_fit (m n : Nat) (w : World) (henv : Env w) (hm : m ≤ 1000000000000) (hn : n ≤ 1000000000000) (ho : m = n) (hs : m + n ≤ 1000000000000) (hz : 0 < n) (hf : m < 1000000 ∧ n < 1000000) :
    Calls Tryd.prog 9 #[.int .i64 (m : Int), .int .i64 (n : Int)] w fun e w' => e = .returned (.bool true) ∧ Below w.heap.size w w' := by
  have HENV := Lib.hid henv
  clear henv
  have Sm := Lib.hid (small13 (n := m) (by omega))
  have Sn := Lib.hid (small13 (n := n) (by omega))
  have Hm := Lib.hid hm
  have Hn := Lib.hid hn
  obtain ⟨s, es⟩ : ∃ k, m + n = k := ⟨_, rfl⟩
  have Es := Lib.hid es
  have Ss := Lib.hid (small13 (n := s) (by omega))
  have i1 : (m : Int) + (n : Int) = (s : Int) := by omega
  have w1 : IntKind.i64.wrap (s : Int) = (s : Int) := IntWalk.i64_in _ (by omega)
  have Hs : Hid (s ≤ 1000000000000) := Lib.hid (by omega)
  have i2 : (s : Int) ≤ 1000000000000 := by omega
  have i3 : ¬ (1000000000000 : Int) < (s : Int) := by omega
  have i3' : ¬ 1000000000000 < s := by omega
  have i2' : s ≤ 1000000000000 := by omega
  have Hc : Hid (cmpN m n = 0) := Lib.hid (by unfold cmpN; rw [if_neg (by omega), if_neg (by omega)])
  have o1 : ¬ (m : Int) < (n : Int) := by omega
  have o2 : ¬ (n : Int) < (m : Int) := by omega
  have o3 : (n : Int) ≤ (m : Int) := by omega
  have o1' : ¬ m < n := by omega
  have o2' : ¬ n < m := by omega
  have o3' : n ≤ m := by omega
  obtain ⟨d, ed⟩ : ∃ k, n + k = m := ⟨m - n, by omega⟩
  have Ed := Lib.hid ed
  have Sd := Lib.hid (small13 (n := d) (by omega))
  have Hd : Hid (d ≤ 1000000000000) := Lib.hid (by omega)
  have i4 : (m : Int) - (n : Int) = (d : Int) := by omega
  have w4 : IntKind.i64.wrap (d : Int) = (d : Int) := IntWalk.i64_in _ (by omega)
  have Hz := Lib.hid hz
  have z1 : (0 : Int) < (n : Int) := by omega
  have z3 : ((n : Int) == 0) = false := beq_eq_false_iff_ne.2 (by omega)
  have z4 : ¬ n = 0 := by omega
  obtain ⟨q, eq⟩ : ∃ k, m / n = k := ⟨_, rfl⟩
  obtain ⟨r, er⟩ : ∃ k, m % n = k := ⟨_, rfl⟩
  have Eq := Lib.hid eq
  have Er := Lib.hid er
  have lq : q ≤ m := by rw [← eq]; exact Nat.div_le_self _ _
  have lr : r ≤ m := by rw [← er]; exact Nat.mod_le _ _
  have Sq := Lib.hid (small13 (n := q) (by omega))
  have Sr := Lib.hid (small13 (n := r) (by omega))
  have Hq : Hid (q ≤ 1000000000000) := Lib.hid (by omega)
  have Hr : Hid (r ≤ 1000000000000) := Lib.hid (by omega)
  have i5 : ((m : Int)).tdiv (n : Int) = (q : Int) := by rw [Int.tdiv_eq_ediv_of_nonneg (by omega), ← eq]; exact (Int.natCast_ediv _ _).symm
  have i6 : ((m : Int)).tmod (n : Int) = (r : Int) := by rw [Int.tmod_eq_emod_of_nonneg (by omega), ← er]; exact (Int.natCast_emod _ _).symm
  have w5 : IntKind.i64.wrap (q : Int) = (q : Int) := IntWalk.i64_in _ (by omega)
  have w6 : IntKind.i64.wrap (r : Int) = (r : Int) := IntWalk.i64_in _ (by omega)
  have f1 : decide ((1000000 : Int) ≤ (m : Int)) = false := decide_eq_false (by omega)
  have f2 : decide ((1000000 : Int) ≤ (n : Int)) = false := decide_eq_false (by omega)
  have f1' : decide (1000000 ≤ m) = false := decide_eq_false (by omega)
  have f2' : decide (1000000 ≤ n) = false := decide_eq_false (by omega)
  obtain ⟨p, ep⟩ : ∃ k, m * n = k := ⟨_, rfl⟩
  have Ep := Lib.hid ep
  have lp : p ≤ 1000000 * 1000000 := by rw [← ep]; exact Nat.mul_le_mul (by omega) (by omega)
  have Sp := Lib.hid (small13 (n := p) (by omega))
  have Hp : Hid (p ≤ 1000000000000) := Lib.hid (by omega)
  have i7 : (m : Int) * (n : Int) = (p : Int) := by rw [← ep]; simp
  have w7 : IntKind.i64.wrap (p : Int) = (p : Int) := IntWalk.i64_in _ (by omega)
  have t1 : ¬ (1000000000000 : Int) < (m : Int) := by omega
  have t2 : ¬ (1000000000000 : Int) < (n : Int) := by omega
  have t3 : ¬ (m : Int) < 0 := by omega
  have t4 : ¬ (n : Int) < 0 := by omega
  clear es hs ho hz hf hm hn ed eq er lq lr ep lp
  have D0 : Below w.heap.size w w := Below.refl _ _
  go_enter Tryd.func9, Tryd.ntmps9
  go_wp2_with fail
  refine (head_any _ HENV.out).mono ?_
  rintro e w1 ⟨rfl, hb⟩
  have D1 := D0.trans (hb.mono D0.size)
  clear hb D0
  go_wp2_with fail
  refine (cOf _ (HENV.out.below D1) (by have := Hm.out; omega)).mono ?_
  rintro e w2 ⟨rfl, hb⟩
  have D2 := D1.trans (hb.mono D1.size)
  clear hb D1
  go_wp2_with fail
  refine (cOf _ (HENV.out.below D2) (by have := Hn.out; omega)).mono ?_
  rintro e w3 ⟨rfl, hb⟩
  have D3 := D2.trans (hb.mono D2.size)
  clear hb D2
  go_wp2_with fail
  refine (cInt _ (HENV.out.below D3) Sm.out Hm.out).mono ?_
  rintro e w4 ⟨rfl, hb⟩
  have D4 := D3.trans (hb.mono D3.size)
  clear hb D3
  go_wp2_with fail
  refine (cCmp _ Sm.out Sn.out Hc.out).mono ?_
  rintro e w5 ⟨rfl, hb⟩
  have D5 := D4.trans (hb.mono D4.size)
  clear hb D4
  go_wp2_with fail
  refine (cAdd _ Sm.out Sn.out Ss.out Es.out).mono ?_
  rintro e w6 ⟨rfl, hb⟩
  have D6 := D5.trans (hb.mono D5.size)
  clear hb D5
  go_wp2_with fail
  refine (cInt _ (HENV.out.below D6) Ss.out Hs.out).mono ?_
  rintro e w7 ⟨rfl, hb⟩
  have D7 := D6.trans (hb.mono D6.size)
  clear hb D6
  go_wp2_with fail
  refine (cSub _ Sm.out Sn.out Ed.out).mono ?_
  rintro e w8 ⟨rfl, hb⟩
  have D8 := D7.trans (hb.mono D7.size)
  clear hb D7
  go_wp2_with fail
  refine (cInt _ (HENV.out.below D8) Sd.out Hd.out).mono ?_
  rintro e w9 ⟨rfl, hb⟩
  have D9 := D8.trans (hb.mono D8.size)
  clear hb D8
  go_wp2_with fail
  refine (cDiv _ Sm.out Sn.out Hz.out Eq.out Er.out).mono ?_
  rintro e w10 ⟨rfl, hb⟩
  have D10 := D9.trans (hb.mono D9.size)
  clear hb D9
  go_wp2_with fail
  refine (cInt _ (HENV.out.below D10) Sq.out Hq.out).mono ?_
  rintro e w11 ⟨rfl, hb⟩
  have D11 := D10.trans (hb.mono D10.size)
  clear hb D10
  go_wp2_with fail
  refine (cInt _ (HENV.out.below D11) Sr.out Hr.out).mono ?_
  rintro e w12 ⟨rfl, hb⟩
  have D12 := D11.trans (hb.mono D11.size)
  clear hb D11
  go_wp2_with fail
  refine (cMul _ Sm.out Sn.out Sp.out Ep.out).mono ?_
  rintro e w13 ⟨rfl, hb⟩
  have D13 := D12.trans (hb.mono D12.size)
  clear hb D12
  go_wp2_with fail
  refine (cInt _ (HENV.out.below D13) Sp.out Hp.out).mono ?_
  rintro e w14 ⟨rfl, hb⟩
  have D14 := D13.trans (hb.mono D13.size)
  clear hb D13
  go_wp2_with fail
  go_ret
  exact ⟨by simp, D14⟩
set_option maxRecDepth 100000 in
set_option maxHeartbeats 4000000 in
theorem ints_eq_small_pos_no1 (m n : Nat) (w : World) (henv : Env w) (hm : m ≤ 1000000000000) (hn : n ≤ 1000000000000) (ho : m = n) (hs : m + n ≤ 1000000000000) (hz : 0 < n) (hf : 1000000 ≤ m) :
    Calls Tryd.prog 9 #[.int .i64 (m : Int), .int .i64 (n : Int)] w fun e w' => e = .returned (.bool true) ∧ Below w.heap.size w w' := by
  have HENV := Lib.hid henv
  clear henv
  have Sm := Lib.hid (small13 (n := m) (by omega))
  have Sn := Lib.hid (small13 (n := n) (by omega))
  have Hm := Lib.hid hm
  have Hn := Lib.hid hn
  obtain ⟨s, es⟩ : ∃ k, m + n = k := ⟨_, rfl⟩
  have Es := Lib.hid es
  have Ss := Lib.hid (small13 (n := s) (by omega))
  have i1 : (m : Int) + (n : Int) = (s : Int) := by omega
  have w1 : IntKind.i64.wrap (s : Int) = (s : Int) := IntWalk.i64_in _ (by omega)
  have Hs : Hid (s ≤ 1000000000000) := Lib.hid (by omega)
  have i2 : (s : Int) ≤ 1000000000000 := by omega
  have i3 : ¬ (1000000000000 : Int) < (s : Int) := by omega
  have i3' : ¬ 1000000000000 < s := by omega
  have i2' : s ≤ 1000000000000 := by omega
  have Hc : Hid (cmpN m n = 0) := Lib.hid (by unfold cmpN; rw [if_neg (by omega), if_neg (by omega)])
  have o1 : ¬ (m : Int) < (n : Int) := by omega
  have o2 : ¬ (n : Int) < (m : Int) := by omega
  have o3 : (n : Int) ≤ (m : Int) := by omega
  have o1' : ¬ m < n := by omega
  have o2' : ¬ n < m := by omega
  have o3' : n ≤ m := by omega
  obtain ⟨d, ed⟩ : ∃ k, n + k = m := ⟨m - n, by omega⟩
  have Ed := Lib.hid ed
  have Sd := Lib.hid (small13 (n := d) (by omega))
  have Hd : Hid (d ≤ 1000000000000) := Lib.hid (by omega)
  have i4 : (m : Int) - (n : Int) = (d : Int) := by omega
  have w4 : IntKind.i64.wrap (d : Int) = (d : Int) := IntWalk.i64_in _ (by omega)
  have Hz := Lib.hid hz
  have z1 : (0 : Int) < (n : Int) := by omega
  have z3 : ((n : Int) == 0) = false := beq_eq_false_iff_ne.2 (by omega)
  have z4 : ¬ n = 0 := by omega
  obtain ⟨q, eq⟩ : ∃ k, m / n = k := ⟨_, rfl⟩
  obtain ⟨r, er⟩ : ∃ k, m % n = k := ⟨_, rfl⟩
  have Eq := Lib.hid eq
  have Er := Lib.hid er
  have lq : q ≤ m := by rw [← eq]; exact Nat.div_le_self _ _
  have lr : r ≤ m := by rw [← er]; exact Nat.mod_le _ _
  have Sq := Lib.hid (small13 (n := q) (by omega))
  have Sr := Lib.hid (small13 (n := r) (by omega))
  have Hq : Hid (q ≤ 1000000000000) := Lib.hid (by omega)
  have Hr : Hid (r ≤ 1000000000000) := Lib.hid (by omega)
  have i5 : ((m : Int)).tdiv (n : Int) = (q : Int) := by rw [Int.tdiv_eq_ediv_of_nonneg (by omega), ← eq]; exact (Int.natCast_ediv _ _).symm
  have i6 : ((m : Int)).tmod (n : Int) = (r : Int) := by rw [Int.tmod_eq_emod_of_nonneg (by omega), ← er]; exact (Int.natCast_emod _ _).symm
  have w5 : IntKind.i64.wrap (q : Int) = (q : Int) := IntWalk.i64_in _ (by omega)
  have w6 : IntKind.i64.wrap (r : Int) = (r : Int) := IntWalk.i64_in _ (by omega)
  have f1 : decide ((1000000 : Int) ≤ (m : Int)) = true := decide_eq_true (by omega)
  have f1' : decide (1000000 ≤ m) = true := decide_eq_true hf
  have t1 : ¬ (1000000000000 : Int) < (m : Int) := by omega
  have t2 : ¬ (1000000000000 : Int) < (n : Int) := by omega
  have t3 : ¬ (m : Int) < 0 := by omega
  have t4 : ¬ (n : Int) < 0 := by omega
  clear es hs ho hz hf hm hn ed eq er lq lr
  have D0 : Below w.heap.size w w := Below.refl _ _
  go_enter Tryd.func9, Tryd.ntmps9
  go_wp2_with fail
  refine (head_any _ HENV.out).mono ?_
  rintro e w1 ⟨rfl, hb⟩
  have D1 := D0.trans (hb.mono D0.size)
  clear hb D0
  go_wp2_with fail
  refine (cOf _ (HENV.out.below D1) (by have := Hm.out; omega)).mono ?_
  rintro e w2 ⟨rfl, hb⟩
  have D2 := D1.trans (hb.mono D1.size)
  clear hb D1
  go_wp2_with fail
  refine (cOf _ (HENV.out.below D2) (by have := Hn.out; omega)).mono ?_
  rintro e w3 ⟨rfl, hb⟩
  have D3 := D2.trans (hb.mono D2.size)
  clear hb D2
  go_wp2_with fail
  refine (cInt _ (HENV.out.below D3) Sm.out Hm.out).mono ?_
  rintro e w4 ⟨rfl, hb⟩
  have D4 := D3.trans (hb.mono D3.size)
  clear hb D3
  go_wp2_with fail
  refine (cCmp _ Sm.out Sn.out Hc.out).mono ?_
  rintro e w5 ⟨rfl, hb⟩
  have D5 := D4.trans (hb.mono D4.size)
  clear hb D4
  go_wp2_with fail
  refine (cAdd _ Sm.out Sn.out Ss.out Es.out).mono ?_
  rintro e w6 ⟨rfl, hb⟩
  have D6 := D5.trans (hb.mono D5.size)
  clear hb D5
  go_wp2_with fail
  refine (cInt _ (HENV.out.below D6) Ss.out Hs.out).mono ?_
  rintro e w7 ⟨rfl, hb⟩
  have D7 := D6.trans (hb.mono D6.size)
  clear hb D6
  go_wp2_with fail
  refine (cSub _ Sm.out Sn.out Ed.out).mono ?_
  rintro e w8 ⟨rfl, hb⟩
  have D8 := D7.trans (hb.mono D7.size)
  clear hb D7
  go_wp2_with fail
  refine (cInt _ (HENV.out.below D8) Sd.out Hd.out).mono ?_
  rintro e w9 ⟨rfl, hb⟩
  have D9 := D8.trans (hb.mono D8.size)
  clear hb D8
  go_wp2_with fail
  refine (cDiv _ Sm.out Sn.out Hz.out Eq.out Er.out).mono ?_
  rintro e w10 ⟨rfl, hb⟩
  have D10 := D9.trans (hb.mono D9.size)
  clear hb D9
  go_wp2_with fail
  refine (cInt _ (HENV.out.below D10) Sq.out Hq.out).mono ?_
  rintro e w11 ⟨rfl, hb⟩
  have D11 := D10.trans (hb.mono D10.size)
  clear hb D10
  go_wp2_with fail
  refine (cInt _ (HENV.out.below D11) Sr.out Hr.out).mono ?_
  rintro e w12 ⟨rfl, hb⟩
  have D12 := D11.trans (hb.mono D11.size)
  clear hb D11
  go_wp2_with fail
  go_ret
  exact ⟨by simp, D12⟩
set_option maxRecDepth 100000 in
set_option maxHeartbeats 4000000 in
theorem ints_eq_small_pos_no2 (m n : Nat) (w : World) (henv : Env w) (hm : m ≤ 1000000000000) (hn : n ≤ 1000000000000) (ho : m = n) (hs : m + n ≤ 1000000000000) (hz : 0 < n) (hf1 : m < 1000000) (hf : 1000000 ≤ n) :
    Calls Tryd.prog 9 #[.int .i64 (m : Int), .int .i64 (n : Int)] w fun e w' => e = .returned (.bool true) ∧ Below w.heap.size w w' := by
  have HENV := Lib.hid henv
  clear henv
  have Sm := Lib.hid (small13 (n := m) (by omega))
  have Sn := Lib.hid (small13 (n := n) (by omega))
  have Hm := Lib.hid hm
  have Hn := Lib.hid hn
  obtain ⟨s, es⟩ : ∃ k, m + n = k := ⟨_, rfl⟩
  have Es := Lib.hid es
  have Ss := Lib.hid (small13 (n := s) (by omega))
  have i1 : (m : Int) + (n : Int) = (s : Int) := by omega
  have w1 : IntKind.i64.wrap (s : Int) = (s : Int) := IntWalk.i64_in _ (by omega)
  have Hs : Hid (s ≤ 1000000000000) := Lib.hid (by omega)
  have i2 : (s : Int) ≤ 1000000000000 := by omega
  have i3 : ¬ (1000000000000 : Int) < (s : Int) := by omega
  have i3' : ¬ 1000000000000 < s := by omega
  have i2' : s ≤ 1000000000000 := by omega
  have Hc : Hid (cmpN m n = 0) := Lib.hid (by unfold cmpN; rw [if_neg (by omega), if_neg (by omega)])
  have o1 : ¬ (m : Int) < (n : Int) := by omega
  have o2 : ¬ (n : Int) < (m : Int) := by omega
  have o3 : (n : Int) ≤ (m : Int) := by omega
  have o1' : ¬ m < n := by omega
  have o2' : ¬ n < m := by omega
  have o3' : n ≤ m := by omega
  obtain ⟨d, ed⟩ : ∃ k, n + k = m := ⟨m - n, by omega⟩
  have Ed := Lib.hid ed
  have Sd := Lib.hid (small13 (n := d) (by omega))
  have Hd : Hid (d ≤ 1000000000000) := Lib.hid (by omega)
  have i4 : (m : Int) - (n : Int) = (d : Int) := by omega
  have w4 : IntKind.i64.wrap (d : Int) = (d : Int) := IntWalk.i64_in _ (by omega)
  have Hz := Lib.hid hz
  have z1 : (0 : Int) < (n : Int) := by omega
  have z3 : ((n : Int) == 0) = false := beq_eq_false_iff_ne.2 (by omega)
  have z4 : ¬ n = 0 := by omega
  obtain ⟨q, eq⟩ : ∃ k, m / n = k := ⟨_, rfl⟩
  obtain ⟨r, er⟩ : ∃ k, m % n = k := ⟨_, rfl⟩
  have Eq := Lib.hid eq
  have Er := Lib.hid er
  have lq : q ≤ m := by rw [← eq]; exact Nat.div_le_self _ _
  have lr : r ≤ m := by rw [← er]; exact Nat.mod_le _ _
  have Sq := Lib.hid (small13 (n := q) (by omega))
  have Sr := Lib.hid (small13 (n := r) (by omega))
  have Hq : Hid (q ≤ 1000000000000) := Lib.hid (by omega)
  have Hr : Hid (r ≤ 1000000000000) := Lib.hid (by omega)
  have i5 : ((m : Int)).tdiv (n : Int) = (q : Int) := by rw [Int.tdiv_eq_ediv_of_nonneg (by omega), ← eq]; exact (Int.natCast_ediv _ _).symm
  have i6 : ((m : Int)).tmod (n : Int) = (r : Int) := by rw [Int.tmod_eq_emod_of_nonneg (by omega), ← er]; exact (Int.natCast_emod _ _).symm
  have w5 : IntKind.i64.wrap (q : Int) = (q : Int) := IntWalk.i64_in _ (by omega)
  have w6 : IntKind.i64.wrap (r : Int) = (r : Int) := IntWalk.i64_in _ (by omega)
  have f1 : decide ((1000000 : Int) ≤ (m : Int)) = false := decide_eq_false (by omega)
  have f1' : decide (1000000 ≤ m) = false := decide_eq_false (by omega)
  have f2 : decide ((1000000 : Int) ≤ (n : Int)) = true := decide_eq_true (by omega)
  have f2' : decide (1000000 ≤ n) = true := decide_eq_true hf
  have t1 : ¬ (1000000000000 : Int) < (m : Int) := by omega
  have t2 : ¬ (1000000000000 : Int) < (n : Int) := by omega
  have t3 : ¬ (m : Int) < 0 := by omega
  have t4 : ¬ (n : Int) < 0 := by omega
  clear es hs ho hz hf hm hn ed eq er lq lr hf1
  have D0 : Below w.heap.size w w := Below.refl _ _
  go_enter Tryd.func9, Tryd.ntmps9
  go_wp2_with fail
  refine (head_any _ HENV.out).mono ?_
  rintro e w1 ⟨rfl, hb⟩
  have D1 := D0.trans (hb.mono D0.size)
  clear hb D0
  go_wp2_with fail
  refine (cOf _ (HENV.out.below D1) (by have := Hm.out; omega)).mono ?_
  rintro e w2 ⟨rfl, hb⟩
  have D2 := D1.trans (hb.mono D1.size)
  clear hb D1
  go_wp2_with fail
  refine (cOf _ (HENV.out.below D2) (by have := Hn.out; omega)).mono ?_
  rintro e w3 ⟨rfl, hb⟩
  have D3 := D2.trans (hb.mono D2.size)
  clear hb D2
  go_wp2_with fail
  refine (cInt _ (HENV.out.below D3) Sm.out Hm.out).mono ?_
  rintro e w4 ⟨rfl, hb⟩
  have D4 := D3.trans (hb.mono D3.size)
  clear hb D3
  go_wp2_with fail
  refine (cCmp _ Sm.out Sn.out Hc.out).mono ?_
  rintro e w5 ⟨rfl, hb⟩
  have D5 := D4.trans (hb.mono D4.size)
  clear hb D4
  go_wp2_with fail
  refine (cAdd _ Sm.out Sn.out Ss.out Es.out).mono ?_
  rintro e w6 ⟨rfl, hb⟩
  have D6 := D5.trans (hb.mono D5.size)
  clear hb D5
  go_wp2_with fail
  refine (cInt _ (HENV.out.below D6) Ss.out Hs.out).mono ?_
  rintro e w7 ⟨rfl, hb⟩
  have D7 := D6.trans (hb.mono D6.size)
  clear hb D6
  go_wp2_with fail
  refine (cSub _ Sm.out Sn.out Ed.out).mono ?_
  rintro e w8 ⟨rfl, hb⟩
  have D8 := D7.trans (hb.mono D7.size)
  clear hb D7
  go_wp2_with fail
  refine (cInt _ (HENV.out.below D8) Sd.out Hd.out).mono ?_
  rintro e w9 ⟨rfl, hb⟩
  have D9 := D8.trans (hb.mono D8.size)
  clear hb D8
  go_wp2_with fail
  refine (cDiv _ Sm.out Sn.out Hz.out Eq.out Er.out).mono ?_
  rintro e w10 ⟨rfl, hb⟩
  have D10 := D9.trans (hb.mono D9.size)
  clear hb D9
  go_wp2_with fail
  refine (cInt _ (HENV.out.below D10) Sq.out Hq.out).mono ?_
  rintro e w11 ⟨rfl, hb⟩
  have D11 := D10.trans (hb.mono D10.size)
  clear hb D10
  go_wp2_with fail
  refine (cInt _ (HENV.out.below D11) Sr.out Hr.out).mono ?_
  rintro e w12 ⟨rfl, hb⟩
  have D12 := D11.trans (hb.mono D11.size)
  clear hb D11
  go_wp2_with fail
  go_ret
  exact ⟨by simp, D12⟩
set_option maxRecDepth 100000 in
set_option maxHeartbeats 4000000 in
theorem ints_gt_small_zero_fit (m n : Nat) (w : World) (henv : Env w) (hm : m ≤ 1000000000000) (hn : n ≤ 1000000000000) (ho : n < m) (hs : m + n ≤ 1000000000000) (hz : n = 0) (hf : m < 1000000 ∧ n < 1000000) :
    Calls Tryd.prog 9 #[.int .i64 (m : Int), .int .i64 (n : Int)] w fun e w' => e = .returned (.bool true) ∧ Below w.heap.size w w' := by
  have HENV := Lib.hid henv
  clear henv
  have Sm := Lib.hid (small13 (n := m) (by omega))
  have Sn := Lib.hid (small13 (n := n) (by omega))
  have Hm := Lib.hid hm
  have Hn := Lib.hid hn
  obtain ⟨s, es⟩ : ∃ k, m + n = k := ⟨_, rfl⟩
  have Es := Lib.hid es
  have Ss := Lib.hid (small13 (n := s) (by omega))
  have i1 : (m : Int) + (n : Int) = (s : Int) := by omega
  have w1 : IntKind.i64.wrap (s : Int) = (s : Int) := IntWalk.i64_in _ (by omega)
  have Hs : Hid (s ≤ 1000000000000) := Lib.hid (by omega)
  have i2 : (s : Int) ≤ 1000000000000 := by omega
  have i3 : ¬ (1000000000000 : Int) < (s : Int) := by omega
  have i3' : ¬ 1000000000000 < s := by omega
  have i2' : s ≤ 1000000000000 := by omega
  have Hc : Hid (cmpN m n = 1) := Lib.hid (by unfold cmpN; rw [if_neg (by omega), if_pos ho])
  have o1 : ¬ (m : Int) < (n : Int) := by omega
  have o2 : (n : Int) < (m : Int) := by omega
  have o3 : (n : Int) ≤ (m : Int) := by omega
  have o1' : ¬ m < n := by omega
  have o2' : n < m := by omega
  have o3' : n ≤ m := by omega
  obtain ⟨d, ed⟩ : ∃ k, n + k = m := ⟨m - n, by omega⟩
  have Ed := Lib.hid ed
  have Sd := Lib.hid (small13 (n := d) (by omega))
  have Hd : Hid (d ≤ 1000000000000) := Lib.hid (by omega)
  have i4 : (m : Int) - (n : Int) = (d : Int) := by omega
  have w4 : IntKind.i64.wrap (d : Int) = (d : Int) := IntWalk.i64_in _ (by omega)
  have z1 : ¬ (0 : Int) < (n : Int) := by omega
  have z2 : ¬ 0 < n := by omega
  have f1 : decide ((1000000 : Int) ≤ (m : Int)) = false := decide_eq_false (by omega)
  have f2 : decide ((1000000 : Int) ≤ (n : Int)) = false := decide_eq_false (by omega)
  have f1' : decide (1000000 ≤ m) = false := decide_eq_false (by omega)
  have f2' : decide (1000000 ≤ n) = false := decide_eq_false (by omega)
  obtain ⟨p, ep⟩ : ∃ k, m * n = k := ⟨_, rfl⟩
  have Ep := Lib.hid ep
  have lp : p ≤ 1000000 * 1000000 := by rw [← ep]; exact Nat.mul_le_mul (by omega) (by omega)
  have Sp := Lib.hid (small13 (n := p) (by omega))
  have Hp : Hid (p ≤ 1000000000000) := Lib.hid (by omega)
  have i7 : (m : Int) * (n : Int) = (p : Int) := by rw [← ep]; simp
  have w7 : IntKind.i64.wrap (p : Int) = (p : Int) := IntWalk.i64_in _ (by omega)
  have t1 : ¬ (1000000000000 : Int) < (m : Int) := by omega
  have t2 : ¬ (1000000000000 : Int) < (n : Int) := by omega
  have t3 : ¬ (m : Int) < 0 := by omega
  have t4 : ¬ (n : Int) < 0 := by omega
  clear es hs ho hz hf hm hn ed ep lp
  have D0 : Below w.heap.size w w := Below.refl _ _
  go_enter Tryd.func9, Tryd.ntmps9
  go_wp2_with fail
  refine (head_any _ HENV.out).mono ?_
  rintro e w1 ⟨rfl, hb⟩
  have D1 := D0.trans (hb.mono D0.size)
  clear hb D0
  go_wp2_with fail
  refine (cOf _ (HENV.out.below D1) (by have := Hm.out; omega)).mono ?_
  rintro e w2 ⟨rfl, hb⟩
  have D2 := D1.trans (hb.mono D1.size)
  clear hb D1
  go_wp2_with fail
  refine (cOf _ (HENV.out.below D2) (by have := Hn.out; omega)).mono ?_
  rintro e w3 ⟨rfl, hb⟩
  have D3 := D2.trans (hb.mono D2.size)
  clear hb D2
  go_wp2_with fail
  refine (cInt _ (HENV.out.below D3) Sm.out Hm.out).mono ?_
  rintro e w4 ⟨rfl, hb⟩
  have D4 := D3.trans (hb.mono D3.size)
  clear hb D3
  go_wp2_with fail
  refine (cCmp _ Sm.out Sn.out Hc.out).mono ?_
  rintro e w5 ⟨rfl, hb⟩
  have D5 := D4.trans (hb.mono D4.size)
  clear hb D4
  go_wp2_with fail
  refine (cAdd _ Sm.out Sn.out Ss.out Es.out).mono ?_
  rintro e w6 ⟨rfl, hb⟩
  have D6 := D5.trans (hb.mono D5.size)
  clear hb D5
  go_wp2_with fail
  refine (cInt _ (HENV.out.below D6) Ss.out Hs.out).mono ?_
  rintro e w7 ⟨rfl, hb⟩
  have D7 := D6.trans (hb.mono D6.size)
  clear hb D6
  go_wp2_with fail
  refine (cSub _ Sm.out Sn.out Ed.out).mono ?_
  rintro e w8 ⟨rfl, hb⟩
  have D8 := D7.trans (hb.mono D7.size)
  clear hb D7
  go_wp2_with fail
  refine (cInt _ (HENV.out.below D8) Sd.out Hd.out).mono ?_
  rintro e w9 ⟨rfl, hb⟩
  have D9 := D8.trans (hb.mono D8.size)
  clear hb D8
  go_wp2_with fail
  refine (cMul _ Sm.out Sn.out Sp.out Ep.out).mono ?_
  rintro e w10 ⟨rfl, hb⟩
  have D10 := D9.trans (hb.mono D9.size)
  clear hb D9
  go_wp2_with fail
  refine (cInt _ (HENV.out.below D10) Sp.out Hp.out).mono ?_
  rintro e w11 ⟨rfl, hb⟩
  have D11 := D10.trans (hb.mono D10.size)
  clear hb D10
  go_wp2_with fail
  go_ret
  exact ⟨by simp, D11⟩
set_option maxRecDepth 100000 in
set_option maxHeartbeats 4000000 in
theorem ints_gt_small_zero_no1 (m n : Nat) (w : World) (henv : Env w) (hm : m ≤ 1000000000000) (hn : n ≤ 1000000000000) (ho : n < m) (hs : m + n ≤ 1000000000000) (hz : n = 0) (hf : 1000000 ≤ m) :
    Calls Tryd.prog 9 #[.int .i64 (m : Int), .int .i64 (n : Int)] w fun e w' => e = .returned (.bool true) ∧ Below w.heap.size w w' := by
  have HENV := Lib.hid henv
  clear henv
  have Sm := Lib.hid (small13 (n := m) (by omega))
  have Sn := Lib.hid (small13 (n := n) (by omega))
  have Hm := Lib.hid hm
  have Hn := Lib.hid hn
  obtain ⟨s, es⟩ : ∃ k, m + n = k := ⟨_, rfl⟩
  have Es := Lib.hid es
  have Ss := Lib.hid (small13 (n := s) (by omega))
  have i1 : (m : Int) + (n : Int) = (s : Int) := by omega
  have w1 : IntKind.i64.wrap (s : Int) = (s : Int) := IntWalk.i64_in _ (by omega)
  have Hs : Hid (s ≤ 1000000000000) := Lib.hid (by omega)
  have i2 : (s : Int) ≤ 1000000000000 := by omega
  have i3 : ¬ (1000000000000 : Int) < (s : Int) := by omega
  have i3' : ¬ 1000000000000 < s := by omega
  have i2' : s ≤ 1000000000000 := by omega
  have Hc : Hid (cmpN m n = 1) := Lib.hid (by unfold cmpN; rw [if_neg (by omega), if_pos ho])
  have o1 : ¬ (m : Int) < (n : Int) := by omega
  have o2 : (n : Int) < (m : Int) := by omega
  have o3 : (n : Int) ≤ (m : Int) := by omega
  have o1' : ¬ m < n := by omega
  have o2' : n < m := by omega
  have o3' : n ≤ m := by omega
  obtain ⟨d, ed⟩ : ∃ k, n + k = m := ⟨m - n, by omega⟩
  have Ed := Lib.hid ed
  have Sd := Lib.hid (small13 (n := d) (by omega))
  have Hd : Hid (d ≤ 1000000000000) := Lib.hid (by omega)
  have i4 : (m : Int) - (n : Int) = (d : Int) := by omega
  have w4 : IntKind.i64.wrap (d : Int) = (d : Int) := IntWalk.i64_in _ (by omega)
  have z1 : ¬ (0 : Int) < (n : Int) := by omega
  have z2 : ¬ 0 < n := by omega
  have f1 : decide ((1000000 : Int) ≤ (m : Int)) = true := decide_eq_true (by omega)
  have f1' : decide (1000000 ≤ m) = true := decide_eq_true hf
  have t1 : ¬ (1000000000000 : Int) < (m : Int) := by omega
  have t2 : ¬ (1000000000000 : Int) < (n : Int) := by omega
  have t3 : ¬ (m : Int) < 0 := by omega
  have t4 : ¬ (n : Int) < 0 := by omega
  clear es hs ho hz hf hm hn ed
  have D0 : Below w.heap.size w w := Below.refl _ _
  go_enter Tryd.func9, Tryd.ntmps9
  go_wp2_with fail
  refine (head_any _ HENV.out).mono ?_
  rintro e w1 ⟨rfl, hb⟩
  have D1 := D0.trans (hb.mono D0.size)
  clear hb D0
  go_wp2_with fail
  refine (cOf _ (HENV.out.below D1) (by have := Hm.out; omega)).mono ?_
  rintro e w2 ⟨rfl, hb⟩
  have D2 := D1.trans (hb.mono D1.size)
  clear hb D1
  go_wp2_with fail
  refine (cOf _ (HENV.out.below D2) (by have := Hn.out; omega)).mono ?_
  rintro e w3 ⟨rfl, hb⟩
  have D3 := D2.trans (hb.mono D2.size)
  clear hb D2
  go_wp2_with fail
  refine (cInt _ (HENV.out.below D3) Sm.out Hm.out).mono ?_
  rintro e w4 ⟨rfl, hb⟩
  have D4 := D3.trans (hb.mono D3.size)
  clear hb D3
  go_wp2_with fail
  refine (cCmp _ Sm.out Sn.out Hc.out).mono ?_
  rintro e w5 ⟨rfl, hb⟩
  have D5 := D4.trans (hb.mono D4.size)
  clear hb D4
  go_wp2_with fail
  refine (cAdd _ Sm.out Sn.out Ss.out Es.out).mono ?_
  rintro e w6 ⟨rfl, hb⟩
  have D6 := D5.trans (hb.mono D5.size)
  clear hb D5
  go_wp2_with fail
  refine (cInt _ (HENV.out.below D6) Ss.out Hs.out).mono ?_
  rintro e w7 ⟨rfl, hb⟩
  have D7 := D6.trans (hb.mono D6.size)
  clear hb D6
  go_wp2_with fail
  refine (cSub _ Sm.out Sn.out Ed.out).mono ?_
  rintro e w8 ⟨rfl, hb⟩
  have D8 := D7.trans (hb.mono D7.size)
  clear hb D7
  go_wp2_with fail
  refine (cInt _ (HENV.out.below D8) Sd.out Hd.out).mono ?_
  rintro e w9 ⟨rfl, hb⟩
  have D9 := D8.trans (hb.mono D8.size)
  clear hb D8
  go_wp2_with fail
  go_ret
  exact ⟨by simp, D9⟩
set_option maxRecDepth 100000 in
set_option maxHeartbeats 4000000 in
theorem ints_gt_small_zero_no2 (m n : Nat) (w : World) (henv : Env w) (hm : m ≤ 1000000000000) (hn : n ≤ 1000000000000) (ho : n < m) (hs : m + n ≤ 1000000000000) (hz : n = 0) (hf1 : m < 1000000) (hf : 1000000 ≤ n) :
    Calls Tryd.prog 9 #[.int .i64 (m : Int), .int .i64 (n : Int)] w fun e w' => e = .returned (.bool true) ∧ Below w.heap.size w w' := by
  have HENV := Lib.hid henv
  clear henv
  have Sm := Lib.hid (small13 (n := m) (by omega))
  have Sn := Lib.hid (small13 (n := n) (by omega))
  have Hm := Lib.hid hm
  have Hn := Lib.hid hn
  obtain ⟨s, es⟩ : ∃ k, m + n = k := ⟨_, rfl⟩
  have Es := Lib.hid es
  have Ss := Lib.hid (small13 (n := s) (by omega))
  have i1 : (m : Int) + (n : Int) = (s : Int) := by omega
  have w1 : IntKind.i64.wrap (s : Int) = (s : Int) := IntWalk.i64_in _ (by omega)
  have Hs : Hid (s ≤ 1000000000000) := Lib.hid (by omega)
  have i2 : (s : Int) ≤ 1000000000000 := by omega
  have i3 : ¬ (1000000000000 : Int) < (s : Int) := by omega
  have i3' : ¬ 1000000000000 < s := by omega
  have i2' : s ≤ 1000000000000 := by omega
  have Hc : Hid (cmpN m n = 1) := Lib.hid (by unfold cmpN; rw [if_neg (by omega), if_pos ho])
  have o1 : ¬ (m : Int) < (n : Int) := by omega
  have o2 : (n : Int) < (m : Int) := by omega
  have o3 : (n : Int) ≤ (m : Int) := by omega
  have o1' : ¬ m < n := by omega
  have o2' : n < m := by omega
  have o3' : n ≤ m := by omega
  obtain ⟨d, ed⟩ : ∃ k, n + k = m := ⟨m - n, by omega⟩
  have Ed := Lib.hid ed
  have Sd := Lib.hid (small13 (n := d) (by omega))
  have Hd : Hid (d ≤ 1000000000000) := Lib.hid (by omega)
  have i4 : (m : Int) - (n : Int) = (d : Int) := by omega
  have w4 : IntKind.i64.wrap (d : Int) = (d : Int) := IntWalk.i64_in _ (by omega)
  have z1 : ¬ (0 : Int) < (n : Int) := by omega
  have z2 : ¬ 0 < n := by omega
  have f1 : decide ((1000000 : Int) ≤ (m : Int)) = false := decide_eq_false (by omega)
  have f1' : decide (1000000 ≤ m) = false := decide_eq_false (by omega)
  have f2 : decide ((1000000 : Int) ≤ (n : Int)) = true := decide_eq_true (by omega)
  have f2' : decide (1000000 ≤ n) = true := decide_eq_true hf
  have t1 : ¬ (1000000000000 : Int) < (m : Int) := by omega
  have t2 : ¬ (1000000000000 : Int) < (n : Int) := by omega
  have t3 : ¬ (m : Int) < 0 := by omega
  have t4 : ¬ (n : Int) < 0 := by omega
  clear es hs ho hz hf hm hn ed hf1
  have D0 : Below w.heap.size w w := Below.refl _ _
  go_enter Tryd.func9, Tryd.ntmps9
  go_wp2_with fail
  refine (head_any _ HENV.out).mono ?_
  rintro e w1 ⟨rfl, hb⟩
  have D1 := D0.trans (hb.mono D0.size)
  clear hb D0
  go_wp2_with fail
  refine (cOf _ (HENV.out.below D1) (by have := Hm.out; omega)).mono ?_
  rintro e w2 ⟨rfl, hb⟩
  have D2 := D1.trans (hb.mono D1.size)
  clear hb D1
  go_wp2_with fail
  refine (cOf _ (HENV.out.below D2) (by have := Hn.out; omega)).mono ?_
  rintro e w3 ⟨rfl, hb⟩
  have D3 := D2.trans (hb.mono D2.size)
  clear hb D2
  go_wp2_with fail
  refine (cInt _ (HENV.out.below D3) Sm.out Hm.out).mono ?_
  rintro e w4 ⟨rfl, hb⟩
  have D4 := D3.trans (hb.mono D3.size)
  clear hb D3
  go_wp2_with fail
  refine (cCmp _ Sm.out Sn.out Hc.out).mono ?_
  rintro e w5 ⟨rfl, hb⟩
  have D5 := D4.trans (hb.mono D4.size)
  clear hb D4
  go_wp2_with fail
  refine (cAdd _ Sm.out Sn.out Ss.out Es.out).mono ?_
  rintro e w6 ⟨rfl, hb⟩
  have D6 := D5.trans (hb.mono D5.size)
  clear hb D5
  go_wp2_with fail
  refine (cInt _ (HENV.out.below D6) Ss.out Hs.out).mono ?_
  rintro e w7 ⟨rfl, hb⟩
  have D7 := D6.trans (hb.mono D6.size)
  clear hb D6
  go_wp2_with fail
  refine (cSub _ Sm.out Sn.out Ed.out).mono ?_
  rintro e w8 ⟨rfl, hb⟩
  have D8 := D7.trans (hb.mono D7.size)
  clear hb D7
  go_wp2_with fail
  refine (cInt _ (HENV.out.below D8) Sd.out Hd.out).mono ?_
  rintro e w9 ⟨rfl, hb⟩
  have D9 := D8.trans (hb.mono D8.size)
  clear hb D8
  go_wp2_with fail
  go_ret
  exact ⟨by simp, D9⟩
set_option maxRecDepth 100000 in
set_option maxHeartbeats 4000000 in
theorem ints_gt_big_pos_no1 (m n : Nat) (w : World) (henv : Env w) (hm : m ≤ 1000000000000) (hn : n ≤ 1000000000000) (ho : n < m) (hs : 1000000000000 < m + n) (hz : 0 < n) (hf : 1000000 ≤ m) :
    Calls Tryd.prog 9 #[.int .i64 (m : Int), .int .i64 (n : Int)] w fun e w' => e = .returned (.bool true) ∧ Below w.heap.size w w' := by
  have HENV := Lib.hid henv
  clear henv
  have Sm := Lib.hid (small13 (n := m) (by omega))
  have Sn := Lib.hid (small13 (n := n) (by omega))
  have Hm := Lib.hid hm
  have Hn := Lib.hid hn
  obtain ⟨s, es⟩ : ∃ k, m + n = k := ⟨_, rfl⟩
  have Es := Lib.hid es
  have Ss := Lib.hid (small13 (n := s) (by omega))
  have i1 : (m : Int) + (n : Int) = (s : Int) := by omega
  have w1 : IntKind.i64.wrap (s : Int) = (s : Int) := IntWalk.i64_in _ (by omega)
  have Hs : Hid (1000000000000 < s) := Lib.hid (by omega)
  have i2 : (1000000000000 : Int) < (s : Int) := by omega
  have i3 : ¬ (s : Int) ≤ 1000000000000 := by omega
  have i3' : ¬ s ≤ 1000000000000 := by omega
  have i2' : 1000000000000 < s := by omega
  have Hc : Hid (cmpN m n = 1) := Lib.hid (by unfold cmpN; rw [if_neg (by omega), if_pos ho])
  have o1 : ¬ (m : Int) < (n : Int) := by omega
  have o2 : (n : Int) < (m : Int) := by omega
  have o3 : (n : Int) ≤ (m : Int) := by omega
  have o1' : ¬ m < n := by omega
  have o2' : n < m := by omega
  have o3' : n ≤ m := by omega
  obtain ⟨d, ed⟩ : ∃ k, n + k = m := ⟨m - n, by omega⟩
  have Ed := Lib.hid ed
  have Sd := Lib.hid (small13 (n := d) (by omega))
  have Hd : Hid (d ≤ 1000000000000) := Lib.hid (by omega)
  have i4 : (m : Int) - (n : Int) = (d : Int) := by omega
  have w4 : IntKind.i64.wrap (d : Int) = (d : Int) := IntWalk.i64_in _ (by omega)
  have Hz := Lib.hid hz
  have z1 : (0 : Int) < (n : Int) := by omega
  have z3 : ((n : Int) == 0) = false := beq_eq_false_iff_ne.2 (by omega)
  have z4 : ¬ n = 0 := by omega
  obtain ⟨q, eq⟩ : ∃ k, m / n = k := ⟨_, rfl⟩
  obtain ⟨r, er⟩ : ∃ k, m % n = k := ⟨_, rfl⟩
  have Eq := Lib.hid eq
  have Er := Lib.hid er
  have lq : q ≤ m := by rw [← eq]; exact Nat.div_le_self _ _
  have lr : r ≤ m := by rw [← er]; exact Nat.mod_le _ _
  have Sq := Lib.hid (small13 (n := q) (by omega))
  have Sr := Lib.hid (small13 (n := r) (by omega))
  have Hq : Hid (q ≤ 1000000000000) := Lib.hid (by omega)
  have Hr : Hid (r ≤ 1000000000000) := Lib.hid (by omega)
  have i5 : ((m : Int)).tdiv (n : Int) = (q : Int) := by rw [Int.tdiv_eq_ediv_of_nonneg (by omega), ← eq]; exact (Int.natCast_ediv _ _).symm
  have i6 : ((m : Int)).tmod (n : Int) = (r : Int) := by rw [Int.tmod_eq_emod_of_nonneg (by omega), ← er]; exact (Int.natCast_emod _ _).symm
  have w5 : IntKind.i64.wrap (q : Int) = (q : Int) := IntWalk.i64_in _ (by omega)
  have w6 : IntKind.i64.wrap (r : Int) = (r : Int) := IntWalk.i64_in _ (by omega)
  have f1 : decide ((1000000 : Int) ≤ (m : Int)) = true := decide_eq_true (by omega)
  have f1' : decide (1000000 ≤ m) = true := decide_eq_true hf
  have t1 : ¬ (1000000000000 : Int) < (m : Int) := by omega
  have t2 : ¬ (1000000000000 : Int) < (n : Int) := by omega
  have t3 : ¬ (m : Int) < 0 := by omega
  have t4 : ¬ (n : Int) < 0 := by omega
  clear es hs ho hz hf hm hn ed eq er lq lr
  have D0 : Below w.heap.size w w := Below.refl _ _
  go_enter Tryd.func9, Tryd.ntmps9
  go_wp2_with fail
  refine (head_any _ HENV.out).mono ?_
  rintro e w1 ⟨rfl, hb⟩
  have D1 := D0.trans (hb.mono D0.size)
  clear hb D0
  go_wp2_with fail
  refine (cOf _ (HENV.out.below D1) (by have := Hm.out; omega)).mono ?_
  rintro e w2 ⟨rfl, hb⟩
  have D2 := D1.trans (hb.mono D1.size)
  clear hb D1
  go_wp2_with fail
  refine (cOf _ (HENV.out.below D2) (by have := Hn.out; omega)).mono ?_
  rintro e w3 ⟨rfl, hb⟩
  have D3 := D2.trans (hb.mono D2.size)
  clear hb D2
  go_wp2_with fail
  refine (cInt _ (HENV.out.below D3) Sm.out Hm.out).mono ?_
  rintro e w4 ⟨rfl, hb⟩
  have D4 := D3.trans (hb.mono D3.size)
  clear hb D3
  go_wp2_with fail
  refine (cCmp _ Sm.out Sn.out Hc.out).mono ?_
  rintro e w5 ⟨rfl, hb⟩
  have D5 := D4.trans (hb.mono D4.size)
  clear hb D4
  go_wp2_with fail
  refine (cAdd _ Sm.out Sn.out Ss.out Es.out).mono ?_
  rintro e w6 ⟨rfl, hb⟩
  have D6 := D5.trans (hb.mono D5.size)
  clear hb D5
  go_wp2_with fail
  refine (cInt_big _ (HENV.out.below D6) Ss.out Hs.out).mono ?_
  rintro e w7 ⟨rfl, hb⟩
  have D7 := D6.trans (hb.mono D6.size)
  clear hb D6
  go_wp2_with fail
  refine (cSub _ Sm.out Sn.out Ed.out).mono ?_
  rintro e w8 ⟨rfl, hb⟩
  have D8 := D7.trans (hb.mono D7.size)
  clear hb D7
  go_wp2_with fail
  refine (cInt _ (HENV.out.below D8) Sd.out Hd.out).mono ?_
  rintro e w9 ⟨rfl, hb⟩
  have D9 := D8.trans (hb.mono D8.size)
  clear hb D8
  go_wp2_with fail
  refine (cDiv _ Sm.out Sn.out Hz.out Eq.out Er.out).mono ?_
  rintro e w10 ⟨rfl, hb⟩
  have D10 := D9.trans (hb.mono D9.size)
  clear hb D9
  go_wp2_with fail
  refine (cInt _ (HENV.out.below D10) Sq.out Hq.out).mono ?_
  rintro e w11 ⟨rfl, hb⟩
  have D11 := D10.trans (hb.mono D10.size)
  clear hb D10
  go_wp2_with fail
  refine (cInt _ (HENV.out.below D11) Sr.out Hr.out).mono ?_
  rintro e w12 ⟨rfl, hb⟩
  have D12 := D11.trans (hb.mono D11.size)
  clear hb D11
  go_wp2_with fail
  go_ret
  exact ⟨by simp, D12⟩
set_option maxRecDepth 100000 in
set_option maxHeartbeats 4000000 in
theorem ints_gt_big_pos_no2 (m n : Nat) (w : World) (henv : Env w) (hm : m ≤ 1000000000000) (hn : n ≤ 1000000000000) (ho : n < m) (hs : 1000000000000 < m + n) (hz : 0 < n) (hf1 : m < 1000000) (hf : 1000000 ≤ n) :
    Calls Tryd.prog 9 #[.int .i64 (m : Int), .int .i64 (n : Int)] w fun e w' => e = .returned (.bool true) ∧ Below w.heap.size w w' := by
  have HENV := Lib.hid henv
  clear henv
  have Sm := Lib.hid (small13 (n := m) (by omega))
  have Sn := Lib.hid (small13 (n := n) (by omega))
  have Hm := Lib.hid hm
  have Hn := Lib.hid hn
  obtain ⟨s, es⟩ : ∃ k, m + n = k := ⟨_, rfl⟩
  have Es := Lib.hid es
  have Ss := Lib.hid (small13 (n := s) (by omega))
  have i1 : (m : Int) + (n : Int) = (s : Int) := by omega
  have w1 : IntKind.i64.wrap (s : Int) = (s : Int) := IntWalk.i64_in _ (by omega)
  have Hs : Hid (1000000000000 < s) := Lib.hid (by omega)
  have i2 : (1000000000000 : Int) < (s : Int) := by omega
  have i3 : ¬ (s : Int) ≤ 1000000000000 := by omega
  have i3' : ¬ s ≤ 1000000000000 := by omega
  have i2' : 1000000000000 < s := by omega
  have Hc : Hid (cmpN m n = 1) := Lib.hid (by unfold cmpN; rw [if_neg (by omega), if_pos ho])
  have o1 : ¬ (m : Int) < (n : Int) := by omega
  have o2 : (n : Int) < (m : Int) := by omega
  have o3 : (n : Int) ≤ (m : Int) := by omega
  have o1' : ¬ m < n := by omega
  have o2' : n < m := by omega
  have o3' : n ≤ m := by omega
  obtain ⟨d, ed⟩ : ∃ k, n + k = m := ⟨m - n, by omega⟩
  have Ed := Lib.hid ed
  have Sd := Lib.hid (small13 (n := d) (by omega))
  have Hd : Hid (d ≤ 1000000000000) := Lib.hid (by omega)
  have i4 : (m : Int) - (n : Int) = (d : Int) := by omega
  have w4 : IntKind.i64.wrap (d : Int) = (d : Int) := IntWalk.i64_in _ (by omega)
  have Hz := Lib.hid hz
  have z1 : (0 : Int) < (n : Int) := by omega
  have z3 : ((n : Int) == 0) = false := beq_eq_false_iff_ne.2 (by omega)
  have z4 : ¬ n = 0 := by omega
  obtain ⟨q, eq⟩ : ∃ k, m / n = k := ⟨_, rfl⟩
  obtain ⟨r, er⟩ : ∃ k, m % n = k := ⟨_, rfl⟩
  have Eq := Lib.hid eq
  have Er := Lib.hid er
  have lq : q ≤ m := by rw [← eq]; exact Nat.div_le_self _ _
  have lr : r ≤ m := by rw [← er]; exact Nat.mod_le _ _
  have Sq := Lib.hid (small13 (n := q) (by omega))
  have Sr := Lib.hid (small13 (n := r) (by omega))
  have Hq : Hid (q ≤ 1000000000000) := Lib.hid (by omega)
  have Hr : Hid (r ≤ 1000000000000) := Lib.hid (by omega)
  have i5 : ((m : Int)).tdiv (n : Int) = (q : Int) := by rw [Int.tdiv_eq_ediv_of_nonneg (by omega), ← eq]; exact (Int.natCast_ediv _ _).symm
  have i6 : ((m : Int)).tmod (n : Int) = (r : Int) := by rw [Int.tmod_eq_emod_of_nonneg (by omega), ← er]; exact (Int.natCast_emod _ _).symm
  have w5 : IntKind.i64.wrap (q : Int) = (q : Int) := IntWalk.i64_in _ (by omega)
  have w6 : IntKind.i64.wrap (r : Int) = (r : Int) := IntWalk.i64_in _ (by omega)
  have f1 : decide ((1000000 : Int) ≤ (m : Int)) = false := decide_eq_false (by omega)
  have f1' : decide (1000000 ≤ m) = false := decide_eq_false (by omega)
  have f2 : decide ((1000000 : Int) ≤ (n : Int)) = true := decide_eq_true (by omega)
  have f2' : decide (1000000 ≤ n) = true := decide_eq_true hf
  have t1 : ¬ (1000000000000 : Int) < (m : Int) := by omega
  have t2 : ¬ (1000000000000 : Int) < (n : Int) := by omega
  have t3 : ¬ (m : Int) < 0 := by omega
  have t4 : ¬ (n : Int) < 0 := by omega
  clear es hs ho hz hf hm hn ed eq er lq lr hf1
  have D0 : Below w.heap.size w w := Below.refl _ _
  go_enter Tryd.func9, Tryd.ntmps9
  go_wp2_with fail
  refine (head_any _ HENV.out).mono ?_
  rintro e w1 ⟨rfl, hb⟩
  have D1 := D0.trans (hb.mono D0.size)
  clear hb D0
  go_wp2_with fail
  refine (cOf _ (HENV.out.below D1) (by have := Hm.out; omega)).mono ?_
  rintro e w2 ⟨rfl, hb⟩
  have D2 := D1.trans (hb.mono D1.size)
  clear hb D1
  go_wp2_with fail
  refine (cOf _ (HENV.out.below D2) (by have := Hn.out; omega)).mono ?_
  rintro e w3 ⟨rfl, hb⟩
  have D3 := D2.trans (hb.mono D2.size)
  clear hb D2
  go_wp2_with fail
  refine (cInt _ (HENV.out.below D3) Sm.out Hm.out).mono ?_
  rintro e w4 ⟨rfl, hb⟩
  have D4 := D3.trans (hb.mono D3.size)
  clear hb D3
  go_wp2_with fail
  refine (cCmp _ Sm.out Sn.out Hc.out).mono ?_
  rintro e w5 ⟨rfl, hb⟩
  have D5 := D4.trans (hb.mono D4.size)
  clear hb D4
  go_wp2_with fail
  refine (cAdd _ Sm.out Sn.out Ss.out Es.out).mono ?_
  rintro e w6 ⟨rfl, hb⟩
  have D6 := D5.trans (hb.mono D5.size)
  clear hb D5
  go_wp2_with fail
  refine (cInt_big _ (HENV.out.below D6) Ss.out Hs.out).mono ?_
  rintro e w7 ⟨rfl, hb⟩
  have D7 := D6.trans (hb.mono D6.size)
  clear hb D6
  go_wp2_with fail
  refine (cSub _ Sm.out Sn.out Ed.out).mono ?_
  rintro e w8 ⟨rfl, hb⟩
  have D8 := D7.trans (hb.mono D7.size)
  clear hb D7
  go_wp2_with fail
  refine (cInt _ (HENV.out.below D8) Sd.out Hd.out).mono ?_
  rintro e w9 ⟨rfl, hb⟩
  have D9 := D8.trans (hb.mono D8.size)
  clear hb D8
  go_wp2_with fail
  refine (cDiv _ Sm.out Sn.out Hz.out Eq.out Er.out).mono ?_
  rintro e w10 ⟨rfl, hb⟩
  have D10 := D9.trans (hb.mono D9.size)
  clear hb D9
  go_wp2_with fail
  refine (cInt _ (HENV.out.below D10) Sq.out Hq.out).mono ?_
  rintro e w11 ⟨rfl, hb⟩
  have D11 := D10.trans (hb.mono D10.size)
  clear hb D10
  go_wp2_with fail
  refine (cInt _ (HENV.out.below D11) Sr.out Hr.out).mono ?_
  rintro e w12 ⟨rfl, hb⟩
  have D12 := D11.trans (hb.mono D11.size)
  clear hb D11
  go_wp2_with fail
  go_ret
  exact ⟨by simp, D12⟩
set_option maxRecDepth 100000 in
set_option maxHeartbeats 4000000 in
theorem ints_gt_small_pos_fit (m n : Nat) (w : World) (henv : Env w) (hm : m ≤ 1000000000000) (hn : n ≤ 1000000000000) (ho : n < m) (hs : m + n ≤ 1000000000000) (hz : 0 < n) (hf : m < 1000000 ∧ n < 1000000) :
    Calls Tryd.prog 9 #[.int .i64 (m : Int), .int .i64 (n : Int)] w fun e w' => e = .returned (.bool true) ∧ Below w.heap.size w w' := by
  have HENV := Lib.hid henv
  clear henv
  have Sm := Lib.hid (small13 (n := m) (by omega))
  have Sn := Lib.hid (small13 (n := n) (by omega))
  have Hm := Lib.hid hm
  have Hn := Lib.hid hn
  obtain ⟨s, es⟩ : ∃ k, m + n = k := ⟨_, rfl⟩
  have Es := Lib.hid es
  have Ss := Lib.hid (small13 (n := s) (by omega))
  have i1 : (m : Int) + (n : Int) = (s : Int) := by omega
  have w1 : IntKind.i64.wrap (s : Int) = (s : Int) := IntWalk.i64_in _ (by omega)
  have Hs : Hid (s ≤ 1000000000000) := Lib.hid (by omega)
  have i2 : (s : Int) ≤ 1000000000000 := by omega
  have i3 : ¬ (1000000000000 : Int) < (s : Int) := by omega
  have i3' : ¬ 1000000000000 < s := by omega
  have i2' : s ≤ 1000000000000 := by omega
  have Hc : Hid (cmpN m n = 1) := Lib.hid (by unfold cmpN; rw [if_neg (by omega), if_pos ho])
  have o1 : ¬ (m : Int) < (n : Int) := by omega
  have o2 : (n : Int) < (m : Int) := by omega
  have o3 : (n : Int) ≤ (m : Int) := by omega
  have o1' : ¬ m < n := by omega
  have o2' : n < m := by omega
  have o3' : n ≤ m := by omega
  obtain ⟨d, ed⟩ : ∃ k, n + k = m := ⟨m - n, by omega⟩
  have Ed := Lib.hid ed
  have Sd := Lib.hid (small13 (n := d) (by omega))
  have Hd : Hid (d ≤ 1000000000000) := Lib.hid (by omega)
  have i4 : (m : Int) - (n : Int) = (d : Int) := by omega
  have w4 : IntKind.i64.wrap (d : Int) = (d : Int) := IntWalk.i64_in _ (by omega)
  have Hz := Lib.hid hz
  have z1 : (0 : Int) < (n : Int) := by omega
  have z3 : ((n : Int) == 0) = false := beq_eq_false_iff_ne.2 (by omega)
  have z4 : ¬ n = 0 := by omega
  obtain ⟨q, eq⟩ : ∃ k, m / n = k := ⟨_, rfl⟩
  obtain ⟨r, er⟩ : ∃ k, m % n = k := ⟨_, rfl⟩
  have Eq := Lib.hid eq
  have Er := Lib.hid er
  have lq : q ≤ m := by rw [← eq]; exact Nat.div_le_self _ _
  have lr : r ≤ m := by rw [← er]; exact Nat.mod_le _ _
  have Sq := Lib.hid (small13 (n := q) (by omega))
  have Sr := Lib.hid (small13 (n := r) (by omega))
  have Hq : Hid (q ≤ 1000000000000) := Lib.hid (by omega)
  have Hr : Hid (r ≤ 1000000000000) := Lib.hid (by omega)
  have i5 : ((m : Int)).tdiv (n : Int) = (q : Int) := by rw [Int.tdiv_eq_ediv_of_nonneg (by omega), ← eq]; exact (Int.natCast_ediv _ _).symm
  have i6 : ((m : Int)).tmod (n : Int) = (r : Int) := by rw [Int.tmod_eq_emod_of_nonneg (by omega), ← er]; exact (Int.natCast_emod _ _).symm
  have w5 : IntKind.i64.wrap (q : Int) = (q : Int) := IntWalk.i64_in _ (by omega)
  have w6 : IntKind.i64.wrap (r : Int) = (r : Int) := IntWalk.i64_in _ (by omega)
  have f1 : decide ((1000000 : Int) ≤ (m : Int)) = false := decide_eq_false (by omega)
  have f2 : decide ((1000000 : Int) ≤ (n : Int)) = false := decide_eq_false (by omega)
  have f1' : decide (1000000 ≤ m) = false := decide_eq_false (by omega)
  have f2' : decide (1000000 ≤ n) = false := decide_eq_false (by omega)
  obtain ⟨p, ep⟩ : ∃ k, m * n = k := ⟨_, rfl⟩
  have Ep := Lib.hid ep
  have lp : p ≤ 1000000 * 1000000 := by rw [← ep]; exact Nat.mul_le_mul (by omega) (by omega)
  have Sp := Lib.hid (small13 (n := p) (by omega))
  have Hp : Hid (p ≤ 1000000000000) := Lib.hid (by omega)
  have i7 : (m : Int) * (n : Int) = (p : Int) := by rw [← ep]; simp
  have w7 : IntKind.i64.wrap (p : Int) = (p : Int) := IntWalk.i64_in _ (by omega)
  have t1 : ¬ (1000000000000 : Int) < (m : Int) := by omega
  have t2 : ¬ (1000000000000 : Int) < (n : Int) := by omega
  have t3 : ¬ (m : Int) < 0 := by omega
  have t4 : ¬ (n : Int) < 0 := by omega
  clear es hs ho hz hf hm hn ed eq er lq lr ep lp
  have D0 : Below w.heap.size w w := Below.refl _ _
  go_enter Tryd.func9, Tryd.ntmps9
  go_wp2_with fail
  refine (head_any _ HENV.out).mono ?_
  rintro e w1 ⟨rfl, hb⟩
  have D1 := D0.trans (hb.mono D0.size)
  clear hb D0
  go_wp2_with fail
  refine (cOf _ (HENV.out.below D1) (by have := Hm.out; omega)).mono ?_
  rintro e w2 ⟨rfl, hb⟩
  have D2 := D1.trans (hb.mono D1.size)
  clear hb D1
  go_wp2_with fail
  refine (cOf _ (HENV.out.below D2) (by have := Hn.out; omega)).mono ?_
  rintro e w3 ⟨rfl, hb⟩
  have D3 := D2.trans (hb.mono D2.size)
  clear hb D2
  go_wp2_with fail
  refine (cInt _ (HENV.out.below D3) Sm.out Hm.out).mono ?_
  rintro e w4 ⟨rfl, hb⟩
  have D4 := D3.trans (hb.mono D3.size)
  clear hb D3
  go_wp2_with fail
  refine (cCmp _ Sm.out Sn.out Hc.out).mono ?_
  rintro e w5 ⟨rfl, hb⟩
  have D5 := D4.trans (hb.mono D4.size)
  clear hb D4
  go_wp2_with fail
  refine (cAdd _ Sm.out Sn.out Ss.out Es.out).mono ?_
  rintro e w6 ⟨rfl, hb⟩
  have D6 := D5.trans (hb.mono D5.size)
  clear hb D5
  go_wp2_with fail
  refine (cInt _ (HENV.out.below D6) Ss.out Hs.out).mono ?_
  rintro e w7 ⟨rfl, hb⟩
  have D7 := D6.trans (hb.mono D6.size)
  clear hb D6
  go_wp2_with fail
  refine (cSub _ Sm.out Sn.out Ed.out).mono ?_
  rintro e w8 ⟨rfl, hb⟩
  have D8 := D7.trans (hb.mono D7.size)
  clear hb D7
  go_wp2_with fail
  refine (cInt _ (HENV.out.below D8) Sd.out Hd.out).mono ?_
  rintro e w9 ⟨rfl, hb⟩
  have D9 := D8.trans (hb.mono D8.size)
  clear hb D8
  go_wp2_with fail
  refine (cDiv _ Sm.out Sn.out Hz.out Eq.out Er.out).mono ?_
  rintro e w10 ⟨rfl, hb⟩
  have D10 := D9.trans (hb.mono D9.size)
  clear hb D9
  go_wp2_with fail
  refine (cInt _ (HENV.out.below D10) Sq.out Hq.out).mono ?_
  rintro e w11 ⟨rfl, hb⟩
  have D11 := D10.trans (hb.mono D10.size)
  clear hb D10
  go_wp2_with fail
  refine (cInt _ (HENV.out.below D11) Sr.out Hr.out).mono ?_
  rintro e w12 ⟨rfl, hb⟩
  have D12 := D11.trans (hb.mono D11.size)
  clear hb D11
  go_wp2_with fail
  refine (cMul _ Sm.out Sn.out Sp.out Ep.out).mono ?_
  rintro e w13 ⟨rfl, hb⟩
  have D13 := D12.trans (hb.mono D12.size)
  clear hb D12
  go_wp2_with fail
  refine (cInt _ (HENV.out.below D13) Sp.out Hp.out).mono ?_
  rintro e w14 ⟨rfl, hb⟩
  have D14 := D13.trans (hb.mono D13.size)
  clear hb D13
  go_wp2_with fail
  go_ret
  exact ⟨by simp, D14⟩
set_option maxRecDepth 100000 in
set_option maxHeartbeats 4000000 in
theorem ints_gt_small_pos_no1 (m n : Nat) (w : World) (henv : Env w) (hm : m ≤ 1000000000000) (hn : n ≤ 1000000000000) (ho : n < m) (hs : m + n ≤ 1000000000000) (hz : 0 < n) (hf : 1000000 ≤ m) :
    Calls Tryd.prog 9 #[.int .i64 (m : Int), .int .i64 (n : Int)] w fun e w' => e = .returned (.bool true) ∧ Below w.heap.size w w' := by
  have HENV := Lib.hid henv
  clear henv
  have Sm := Lib.hid (small13 (n := m) (by omega))
  have Sn := Lib.hid (small13 (n := n) (by omega))
  have Hm := Lib.hid hm
  have Hn := Lib.hid hn
  obtain ⟨s, es⟩ : ∃ k, m + n = k := ⟨_, rfl⟩
  have Es := Lib.hid es
  have Ss := Lib.hid (small13 (n := s) (by omega))
  have i1 : (m : Int) + (n : Int) = (s : Int) := by omega
  have w1 : IntKind.i64.wrap (s : Int) = (s : Int) := IntWalk.i64_in _ (by omega)
  have Hs : Hid (s ≤ 1000000000000) := Lib.hid (by omega)
  have i2 : (s : Int) ≤ 1000000000000 := by omega
  have i3 : ¬ (1000000000000 : Int) < (s : Int) := by omega
  have i3' : ¬ 1000000000000 < s := by omega
  have i2' : s ≤ 1000000000000 := by omega
  have Hc : Hid (cmpN m n = 1) := Lib.hid (by unfold cmpN; rw [if_neg (by omega), if_pos ho])
  have o1 : ¬ (m : Int) < (n : Int) := by omega
  have o2 : (n : Int) < (m : Int) := by omega
  have o3 : (n : Int) ≤ (m : Int) := by omega
  have o1' : ¬ m < n := by omega
  have o2' : n < m := by omega
  have o3' : n ≤ m := by omega
  obtain ⟨d, ed⟩ : ∃ k, n + k = m := ⟨m - n, by omega⟩
  have Ed := Lib.hid ed
  have Sd := Lib.hid (small13 (n := d) (by omega))
  have Hd : Hid (d ≤ 1000000000000) := Lib.hid (by omega)
  have i4 : (m : Int) - (n : Int) = (d : Int) := by omega
  have w4 : IntKind.i64.wrap (d : Int) = (d : Int) := IntWalk.i64_in _ (by omega)
  have Hz := Lib.hid hz
  have z1 : (0 : Int) < (n : Int) := by omega
  have z3 : ((n : Int) == 0) = false := beq_eq_false_iff_ne.2 (by omega)
  have z4 : ¬ n = 0 := by omega
  obtain ⟨q, eq⟩ : ∃ k, m / n = k := ⟨_, rfl⟩
  obtain ⟨r, er⟩ : ∃ k, m % n = k := ⟨_, rfl⟩
  have Eq := Lib.hid eq
  have Er := Lib.hid er
  have lq : q ≤ m := by rw [← eq]; exact Nat.div_le_self _ _
  have lr : r ≤ m := by rw [← er]; exact Nat.mod_le _ _
  have Sq := Lib.hid (small13 (n := q) (by omega))
  have Sr := Lib.hid (small13 (n := r) (by omega))
  have Hq : Hid (q ≤ 1000000000000) := Lib.hid (by omega)
  have Hr : Hid (r ≤ 1000000000000) := Lib.hid (by omega)
  have i5 : ((m : Int)).tdiv (n : Int) = (q : Int) := by rw [Int.tdiv_eq_ediv_of_nonneg (by omega), ← eq]; exact (Int.natCast_ediv _ _).symm
  have i6 : ((m : Int)).tmod (n : Int) = (r : Int) := by rw [Int.tmod_eq_emod_of_nonneg (by omega), ← er]; exact (Int.natCast_emod _ _).symm
  have w5 : IntKind.i64.wrap (q : Int) = (q : Int) := IntWalk.i64_in _ (by omega)
  have w6 : IntKind.i64.wrap (r : Int) = (r : Int) := IntWalk.i64_in _ (by omega)
  have f1 : decide ((1000000 : Int) ≤ (m : Int)) = true := decide_eq_true (by omega)
  have f1' : decide (1000000 ≤ m) = true := decide_eq_true hf
  have t1 : ¬ (1000000000000 : Int) < (m : Int) := by omega
  have t2 : ¬ (1000000000000 : Int) < (n : Int) := by omega
  have t3 : ¬ (m : Int) < 0 := by omega
  have t4 : ¬ (n : Int) < 0 := by omega
  clear es hs ho hz hf hm hn ed eq er lq lr
  have D0 : Below w.heap.size w w := Below.refl _ _
  go_enter Tryd.func9, Tryd.ntmps9
  go_wp2_with fail
  refine (head_any _ HENV.out).mono ?_
  rintro e w1 ⟨rfl, hb⟩
  have D1 := D0.trans (hb.mono D0.size)
  clear hb D0
  go_wp2_with fail
  refine (cOf _ (HENV.out.below D1) (by have := Hm.out; omega)).mono ?_
  rintro e w2 ⟨rfl, hb⟩
  have D2 := D1.trans (hb.mono D1.size)
  clear hb D1
  go_wp2_with fail
  refine (cOf _ (HENV.out.below D2) (by have := Hn.out; omega)).mono ?_
  rintro e w3 ⟨rfl, hb⟩
  have D3 := D2.trans (hb.mono D2.size)
  clear hb D2
  go_wp2_with fail
  refine (cInt _ (HENV.out.below D3) Sm.out Hm.out).mono ?_
  rintro e w4 ⟨rfl, hb⟩
  have D4 := D3.trans (hb.mono D3.size)
  clear hb D3
  go_wp2_with fail
  refine (cCmp _ Sm.out Sn.out Hc.out).mono ?_
  rintro e w5 ⟨rfl, hb⟩
  have D5 := D4.trans (hb.mono D4.size)
  clear hb D4
  go_wp2_with fail
  refine (cAdd _ Sm.out Sn.out Ss.out Es.out).mono ?_
  rintro e w6 ⟨rfl, hb⟩
  have D6 := D5.trans (hb.mono D5.size)
  clear hb D5
  go_wp2_with fail
  refine (cInt _ (HENV.out.below D6) Ss.out Hs.out).mono ?_
  rintro e w7 ⟨rfl, hb⟩
  have D7 := D6.trans (hb.mono D6.size)
  clear hb D6
  go_wp2_with fail
  refine (cSub _ Sm.out Sn.out Ed.out).mono ?_
  rintro e w8 ⟨rfl, hb⟩
  have D8 := D7.trans (hb.mono D7.size)
  clear hb D7
  go_wp2_with fail
  refine (cInt _ (HENV.out.below D8) Sd.out Hd.out).mono ?_
  rintro e w9 ⟨rfl, hb⟩
  have D9 := D8.trans (hb.mono D8.size)
  clear hb D8
  go_wp2_with fail
  refine (cDiv _ Sm.out Sn.out Hz.out Eq.out Er.out).mono ?_
  rintro e w10 ⟨rfl, hb⟩
  have D10 := D9.trans (hb.mono D9.size)
  clear hb D9
  go_wp2_with fail
  refine (cInt _ (HENV.out.below D10) Sq.out Hq.out).mono ?_
  rintro e w11 ⟨rfl, hb⟩
  have D11 := D10.trans (hb.mono D10.size)
  clear hb D10
  go_wp2_with fail
  refine (cInt _ (HENV.out.below D11) Sr.out Hr.out).mono ?_
  rintro e w12 ⟨rfl, hb⟩
  have D12 := D11.trans (hb.mono D11.size)
  clear hb D11
  go_wp2_with fail
  go_ret
  exact ⟨by simp, D12⟩
set_option maxRecDepth 100000 in
set_option maxHeartbeats 4000000 in
theorem ints_gt_small_pos_no2 (m n : Nat) (w : World) (henv : Env w) (hm : m ≤ 1000000000000) (hn : n ≤ 1000000000000) (ho : n < m) (hs : m + n ≤ 1000000000000) (hz : 0 < n) (hf1 : m < 1000000) (hf : 1000000 ≤ n) :
    Calls Tryd.prog 9 #[.int .i64 (m : Int), .int .i64 (n : Int)] w fun e w' => e = .returned (.bool true) ∧ Below w.heap.size w w' := by
  have HENV := Lib.hid henv
  clear henv
  have Sm := Lib.hid (small13 (n := m) (by omega))
  have Sn := Lib.hid (small13 (n := n) (by omega))
  have Hm := Lib.hid hm
  have Hn := Lib.hid hn
  obtain ⟨s, es⟩ : ∃ k, m + n = k := ⟨_, rfl⟩
  have Es := Lib.hid es
  have Ss := Lib.hid (small13 (n := s) (by omega))
  have i1 : (m : Int) + (n : Int) = (s : Int) := by omega
  have w1 : IntKind.i64.wrap (s : Int) = (s : Int) := IntWalk.i64_in _ (by omega)
  have Hs : Hid (s ≤ 1000000000000) := Lib.hid (by omega)
  have i2 : (s : Int) ≤ 1000000000000 := by omega
  have i3 : ¬ (1000000000000 : Int) < (s : Int) := by omega
  have i3' : ¬ 1000000000000 < s := by omega
  have i2' : s ≤ 1000000000000 := by omega
  have Hc : Hid (cmpN m n = 1) := Lib.hid (by unfold cmpN; rw [if_neg (by omega), if_pos ho])
  have o1 : ¬ (m : Int) < (n : Int) := by omega
  have o2 : (n : Int) < (m : Int) := by omega
  have o3 : (n : Int) ≤ (m : Int) := by omega
  have o1' : ¬ m < n := by omega
  have o2' : n < m := by omega
  have o3' : n ≤ m := by omega
  obtain ⟨d, ed⟩ : ∃ k, n + k = m := ⟨m - n, by omega⟩
  have Ed := Lib.hid ed
  have Sd := Lib.hid (small13 (n := d) (by omega))
  have Hd : Hid (d ≤ 1000000000000) := Lib.hid (by omega)
  have i4 : (m : Int) - (n : Int) = (d : Int) := by omega
  have w4 : IntKind.i64.wrap (d : Int) = (d : Int) := IntWalk.i64_in _ (by omega)
  have Hz := Lib.hid hz
  have z1 : (0 : Int) < (n : Int) := by omega
  have z3 : ((n : Int) == 0) = false := beq_eq_false_iff_ne.2 (by omega)
  have z4 : ¬ n = 0 := by omega
  obtain ⟨q, eq⟩ : ∃ k, m / n = k := ⟨_, rfl⟩
  obtain ⟨r, er⟩ : ∃ k, m % n = k := ⟨_, rfl⟩
  have Eq := Lib.hid eq
  have Er := Lib.hid er
  have lq : q ≤ m := by rw [← eq]; exact Nat.div_le_self _ _
  have lr : r ≤ m := by rw [← er]; exact Nat.mod_le _ _
  have Sq := Lib.hid (small13 (n := q) (by omega))
  have Sr := Lib.hid (small13 (n := r) (by omega))
  have Hq : Hid (q ≤ 1000000000000) := Lib.hid (by omega)
  have Hr : Hid (r ≤ 1000000000000) := Lib.hid (by omega)
  have i5 : ((m : Int)).tdiv (n : Int) = (q : Int) := by rw [Int.tdiv_eq_ediv_of_nonneg (by omega), ← eq]; exact (Int.natCast_ediv _ _).symm
  have i6 : ((m : Int)).tmod (n : Int) = (r : Int) := by rw [Int.tmod_eq_emod_of_nonneg (by omega), ← er]; exact (Int.natCast_emod _ _).symm
  have w5 : IntKind.i64.wrap (q : Int) = (q : Int) := IntWalk.i64_in _ (by omega)
  have w6 : IntKind.i64.wrap (r : Int) = (r : Int) := IntWalk.i64_in _ (by omega)
  have f1 : decide ((1000000 : Int) ≤ (m : Int)) = false := decide_eq_false (by omega)
  have f1' : decide (1000000 ≤ m) = false := decide_eq_false (by omega)
  have f2 : decide ((1000000 : Int) ≤ (n : Int)) = true := decide_eq_true (by omega)
  have f2' : decide (1000000 ≤ n) = true := decide_eq_true hf
  have t1 : ¬ (1000000000000 : Int) < (m : Int) := by omega
  have t2 : ¬ (1000000000000 : Int) < (n : Int) := by omega
  have t3 : ¬ (m : Int) < 0 := by omega
  have t4 : ¬ (n : Int) < 0 := by omega
  clear es hs ho hz hf hm hn ed eq er lq lr hf1
  have D0 : Below w.heap.size w w := Below.refl _ _
  go_enter Tryd.func9, Tryd.ntmps9
  go_wp2_with fail
  refine (head_any _ HENV.out).mono ?_
  rintro e w1 ⟨rfl, hb⟩
  have D1 := D0.trans (hb.mono D0.size)
  clear hb D0
  go_wp2_with fail
  refine (cOf _ (HENV.out.below D1) (by have := Hm.out; omega)).mono ?_
  rintro e w2 ⟨rfl, hb⟩
  have D2 := D1.trans (hb.mono D1.size)
  clear hb D1
  go_wp2_with fail
  refine (cOf _ (HENV.out.below D2) (by have := Hn.out; omega)).mono ?_
  rintro e w3 ⟨rfl, hb⟩
  have D3 := D2.trans (hb.mono D2.size)
  clear hb D2
  go_wp2_with fail
  refine (cInt _ (HENV.out.below D3) Sm.out Hm.out).mono ?_
  rintro e w4 ⟨rfl, hb⟩
  have D4 := D3.trans (hb.mono D3.size)
  clear hb D3
  go_wp2_with fail
  refine (cCmp _ Sm.out Sn.out Hc.out).mono ?_
  rintro e w5 ⟨rfl, hb⟩
  have D5 := D4.trans (hb.mono D4.size)
  clear hb D4
  go_wp2_with fail
  refine (cAdd _ Sm.out Sn.out Ss.out Es.out).mono ?_
  rintro e w6 ⟨rfl, hb⟩
  have D6 := D5.trans (hb.mono D5.size)
  clear hb D5
  go_wp2_with fail
  refine (cInt _ (HENV.out.below D6) Ss.out Hs.out).mono ?_
  rintro e w7 ⟨rfl, hb⟩
  have D7 := D6.trans (hb.mono D6.size)
  clear hb D6
  go_wp2_with fail
  refine (cSub _ Sm.out Sn.out Ed.out).mono ?_
  rintro e w8 ⟨rfl, hb⟩
  have D8 := D7.trans (hb.mono D7.size)
  clear hb D7
  go_wp2_with fail
  refine (cInt _ (HENV.out.below D8) Sd.out Hd.out).mono ?_
  rintro e w9 ⟨rfl, hb⟩
  have D9 := D8.trans (hb.mono D8.size)
  clear hb D8
  go_wp2_with fail
  refine (cDiv _ Sm.out Sn.out Hz.out Eq.out Er.out).mono ?_
  rintro e w10 ⟨rfl, hb⟩
  have D10 := D9.trans (hb.mono D9.size)
  clear hb D9
  go_wp2_with fail
  refine (cInt _ (HENV.out.below D10) Sq.out Hq.out).mono ?_
  rintro e w11 ⟨rfl, hb⟩
  have D11 := D10.trans (hb.mono D10.size)
  clear hb D10
  go_wp2_with fail
  refine (cInt _ (HENV.out.below D11) Sr.out Hr.out).mono ?_
  rintro e w12 ⟨rfl, hb⟩
  have D12 := D11.trans (hb.mono D11.size)
  clear hb D11
  go_wp2_with fail
  go_ret
  exact ⟨by simp, D12⟩
theorem walkNaturalInts (a b : Int) (w : World) (henv : Env w) (ha : -9223372036854775808 ≤ a ∧ a ≤ 9223372036854775807) (hb : -9223372036854775808 ≤ b ∧ b ≤ 9223372036854775807) :
    Calls Tryd.prog 9 #[.int .i64 a, .int .i64 b] w fun e w' => e = .returned (.bool true) ∧ Below w.heap.size w w' := by
  by_cases a0 : a < 0
  · exact ints_a0 a b w henv a0
  by_cases a1 : 1000000000000 < a
  · exact ints_a1 a b w henv a0 a1
  by_cases b0 : b < 0
  · exact ints_b0 a b w henv a0 a1 b0
  by_cases b1 : 1000000000000 < b
  · exact ints_b1 a b w henv a0 a1 b0 b1
  obtain ⟨m, rfl⟩ : ∃ m : Nat, a = (m : Int) := ⟨a.toNat, by omega⟩
  obtain ⟨n, rfl⟩ : ∃ n : Nat, b = (n : Int) := ⟨b.toNat, by omega⟩
  have hm : m ≤ 1000000000000 := by omega
  have hn : n ≤ 1000000000000 := by omega
  clear a0 a1 b0 b1 ha hb
  rcases Nat.lt_trichotomy m n with ho | ho | ho
  · have hz : 0 < n := by omega
    by_cases hs : 1000000000000 < m + n
    · skip
      by_cases f1 : 1000000 ≤ m
      · exact ints_lt_big_pos_no1 m n w henv hm hn ho hs hz f1
      by_cases f2 : 1000000 ≤ n
      · exact ints_lt_big_pos_no2 m n w henv hm hn ho hs hz (by omega) f2
      omega
    have hs : m + n ≤ 1000000000000 := by omega
    by_cases f1 : 1000000 ≤ m
    · exact ints_lt_small_pos_no1 m n w henv hm hn ho hs hz f1
    by_cases f2 : 1000000 ≤ n
    · exact ints_lt_small_pos_no2 m n w henv hm hn ho hs hz (by omega) f2
    exact ints_lt_small_pos_fit m n w henv hm hn ho hs hz ⟨by omega, by omega⟩
  · by_cases hz : n = 0
    · exact ints_eq_small_zero_fit m n w henv hm hn ho (by omega) hz ⟨by omega, by omega⟩
    have hz : 0 < n := by omega
    by_cases hs : 1000000000000 < m + n
    · skip
      by_cases f1 : 1000000 ≤ m
      · exact ints_eq_big_pos_no1 m n w henv hm hn ho hs hz f1
      by_cases f2 : 1000000 ≤ n
      · exact ints_eq_big_pos_no2 m n w henv hm hn ho hs hz (by omega) f2
      omega
    have hs : m + n ≤ 1000000000000 := by omega
    by_cases f1 : 1000000 ≤ m
    · exact ints_eq_small_pos_no1 m n w henv hm hn ho hs hz f1
    by_cases f2 : 1000000 ≤ n
    · exact ints_eq_small_pos_no2 m n w henv hm hn ho hs hz (by omega) f2
    exact ints_eq_small_pos_fit m n w henv hm hn ho hs hz ⟨by omega, by omega⟩
  · by_cases hz : n = 0
    · have hs : m + n ≤ 1000000000000 := by omega
      by_cases f1 : 1000000 ≤ m
      · exact ints_gt_small_zero_no1 m n w henv hm hn ho hs hz f1
      exact ints_gt_small_zero_fit m n w henv hm hn ho hs hz ⟨by omega, by omega⟩
    have hz : 0 < n := by omega
    by_cases hs : 1000000000000 < m + n
    · skip
      by_cases f1 : 1000000 ≤ m
      · exact ints_gt_big_pos_no1 m n w henv hm hn ho hs hz f1
      by_cases f2 : 1000000 ≤ n
      · exact ints_gt_big_pos_no2 m n w henv hm hn ho hs hz (by omega) f2
      omega
    have hs : m + n ≤ 1000000000000 := by omega
    by_cases f1 : 1000000 ≤ m
    · exact ints_gt_small_pos_no1 m n w henv hm hn ho hs hz f1
    by_cases f2 : 1000000 ≤ n
    · exact ints_gt_small_pos_no2 m n w henv hm hn ho hs hz (by omega) f2
    exact ints_gt_small_pos_fit m n w henv hm hn ho hs hz ⟨by omega, by omega⟩
end Go.Proofs.YtfkdhkbegfbkaaaDoor
