/-
  The reference's Of, Int, Compare and Few of layer 3.
-/
import Derived.Test.YtfkdhkbegfbkaaaDoorNatFns
set_option linter.unusedVariables false
set_option maxRecDepth 100000
namespace Go.Proofs.YtfkdhkbegfbkaaaDoor
open Go.RowKit
theorem refOf_neg (n : Int) (w : World) (h : n < 0) :
    Calls Tryd.prog 24 #[.int .i64 n] w fun e w' => e = .returned (.tuple #[.string ⟨#[]⟩, .int .i64 9]) ∧ w = w' := by
  go_enter Tryd.func24, Tryd.ntmps24
  go_wp2_with fail
  go_ret2
  exact ⟨rfl, rfl⟩
/-- the digits taken from a number, the last one first, and what is left of it -/
structure Taken (n k m : Nat) (D : List Nat) : Prop where
  len : D.length = k
  small : ∀ d ∈ D, d < 10
  sum : Dec.valR D + m * 10 ^ k = n
theorem Taken.zero (n : Nat) : Taken n 0 n [] := ⟨rfl, fun d hd => by (cases hd), by simp [Dec.valR]⟩
theorem Taken.next {n k m : Nat} {D : List Nat} (h : Taken n k m D) : Taken n (k + 1) (m / 10) (D ++ [m % 10]) := by
  refine ⟨by rw [List.length_append, h.len]; rfl, ?_, ?_⟩
  · intro d hd
    rcases List.mem_append.1 hd with hd | hd
    · exact h.small d hd
    · simp only [List.mem_singleton] at hd; subst hd; exact Nat.mod_lt _ (by omega)
  · have hs := h.sum
    rw [Dec.valR_snoc, h.len, Nat.pow_succ]
    generalize 10 ^ k = t at hs
    have e : m % 10 * t + m / 10 * (t * 10) = m * t := by
      rw [← Nat.mul_assoc, Nat.mul_right_comm, ← Nat.add_mul]
      congr 1; omega
    omega
theorem Taken.bound {n k m : Nat} {D : List Nat} (h : Taken n k m D) (hm : 0 < m) (hn : n < 9223372036854775808) : k < 19 := by
  have hs := h.sum
  rcases Nat.lt_or_ge k 19 with h' | h'
  · exact h'
  · have h1 := Nat.pow_le_pow_right (show 0 < 10 by omega) h'
    have h2 : 1 * 10 ^ k ≤ m * 10 ^ k := Nat.mul_le_mul_right _ hm
    have h3 : (10 : Nat) ^ 19 = 10000000000000000000 := by decide
    omega
set_option maxHeartbeats 1000000 in
theorem refOf_pos (n : Nat) (w : World) (h : n < 9223372036854775808) :
    Calls Tryd.prog 24 #[.int .i64 (n : Int)] w fun e w' => e = .returned (.tuple #[.string (nS n), .int .i64 0]) ∧ Below w.heap.size w w' := by
  have t0 : decide ((n : Int) < 0) = false := by simp
  go_enter Tryd.func24, Tryd.ntmps24
  go_wp2_with fail
  go_loopw [0, 4, 5] (fun nv ov iv wr => ∃ (k m : Nat) (D : List Nat), nv = .int .i64 (m : Int) ∧ iv = .int .i64 (k : Int) ∧ m < 9223372036854775808 ∧ k ≤ 20 ∧ Hid (Taken n k m D) ∧ OwnN w.heap.size wr ov D ∧ Below w.heap.size w wr) (fun nv _ iv _ => (intOf nv).toNat + (1 - (intOf iv).toNat))
  case atStart => exact ⟨0, n, [], rfl, rfl, h, by omega, Lib.hid (Taken.zero n), OwnN.nil _ _, Below.refl _ _⟩
  case round =>
    obtain ⟨k, m, D, rfl, rfl, hm, hk, hT, hown, hB⟩ := hrel
    by_cases c0 : k = 0
    · skip
      have t2 : ((k : Int) == 0) = true := by rw [c0]; rfl
      have hDl : D.length = k := hT.out.len
      obtain ⟨d, hd⟩ : ∃ d, d = m % 10 := ⟨_, rfl⟩
      obtain ⟨x, hx⟩ : ∃ x, x = m / 10 := ⟨_, rfl⟩
      have hd10 : d < 10 := by rw [hd]; exact Nat.mod_lt _ (by omega)
      have hxm : x ≤ m / 10 := by omega
      have hT' : Hid (Taken n (k + 1) x (D ++ [d])) := Lib.hid (by rw [hd, hx]; exact hT.out.next)
      have r1 : ((m : Int)).tmod 10 = (d : Int) := by rw [Int.tmod_eq_emod_of_nonneg (by omega)]; omega
      have r2 : ((m : Int)).tdiv 10 = (x : Int) := by rw [Int.tdiv_eq_ediv_of_nonneg (by omega)]; omega
      have w3 := u8_in hd10
      have w4 : IntKind.i64.wrap ((k : Int) + 1) = (k : Int) + 1 := IntWalk.i64_in _ (by omega)
      have w5 : IntKind.i64.wrap (d : Int) = (d : Int) := IntWalk.i64_in _ (by omega)
      have w6 : IntKind.i64.wrap (x : Int) = (x : Int) := IntWalk.i64_in _ (by omega)
      have HDL : Hid (D.length + 1 ≤ 1099511627776) := Lib.hid (by omega)
      clear hd hx hDl
      go_wp2_with (at_builtin; refine wpList_snocN _ (by rfl) _ _ (by rfl) w.heap.size _ D d (by rfl) (by rfl) hown HDL.out hB.size ?_)
      intro v7 w7 hown7 hgrow7
      have hB7 := below_snoc hB hown hgrow7
      go_wp2_with fail
      go_roundw
      case rel => exact ⟨k + 1, x, D ++ [d], by go_num, by go_num, by omega, by omega, hT', hown7, hB7⟩
      case measure => simp [intOf]; omega
    · by_cases c1 : 0 < m
      · skip
        have t2 : ((k : Int) == 0) = false := beq_eq_false_iff_ne.2 (by omega)
        have t3 : decide ((0 : Int) < (m : Int)) = true := decide_eq_true (by omega)
        have t4 : decide (0 < m) = true := decide_eq_true c1
        have hk19 := hT.out.bound c1 h
        have hDl : D.length = k := hT.out.len
        obtain ⟨d, hd⟩ : ∃ d, d = m % 10 := ⟨_, rfl⟩
        obtain ⟨x, hx⟩ : ∃ x, x = m / 10 := ⟨_, rfl⟩
        have hd10 : d < 10 := by rw [hd]; exact Nat.mod_lt _ (by omega)
        have hxm : x ≤ m / 10 := by omega
        have hT' : Hid (Taken n (k + 1) x (D ++ [d])) := Lib.hid (by rw [hd, hx]; exact hT.out.next)
        have r1 : ((m : Int)).tmod 10 = (d : Int) := by rw [Int.tmod_eq_emod_of_nonneg (by omega)]; omega
        have r2 : ((m : Int)).tdiv 10 = (x : Int) := by rw [Int.tdiv_eq_ediv_of_nonneg (by omega)]; omega
        have w3 := u8_in hd10
        have w4 : IntKind.i64.wrap ((k : Int) + 1) = (k : Int) + 1 := IntWalk.i64_in _ (by omega)
        have w5 : IntKind.i64.wrap (d : Int) = (d : Int) := IntWalk.i64_in _ (by omega)
        have w6 : IntKind.i64.wrap (x : Int) = (x : Int) := IntWalk.i64_in _ (by omega)
        have HDL : Hid (D.length + 1 ≤ 1099511627776) := Lib.hid (by omega)
        clear hd hx hDl
        go_wp2_with (at_builtin; refine wpList_snocN _ (by rfl) _ _ (by rfl) w.heap.size _ D d (by rfl) (by rfl) hown HDL.out hB.size ?_)
        intro v7 w7 hown7 hgrow7
        have hB7 := below_snoc hB hown hgrow7
        go_wp2_with fail
        go_roundw
        case rel => exact ⟨k + 1, x, D ++ [d], by go_num, by go_num, by omega, by omega, hT', hown7, hB7⟩
        case measure => simp [intOf]; omega
      · skip
        have hm0 : m = 0 := by omega
        have hDl : D.length = k := hT.out.len
        have hval : Dec.valR D = n := by have := hT.out.sum; rw [hm0, Nat.zero_mul] at this; exact this
        have t2 : ((k : Int) == 0) = false := beq_eq_false_iff_ne.2 (by omega)
        have t3 : decide ((0 : Int) < (m : Int)) = false := decide_eq_false (by omega)
        have t4 : decide (0 < m) = false := decide_eq_false c1
        have HV := Lib.hid hval
        have HSM := Lib.hid hT.out.small
        have HD0 : Hid (0 < D.length) := Lib.hid (by omega)
        have HDL : Hid (D.length ≤ 1099511627776) := Lib.hid (by omega)
        clear hval hDl hm0
        go_wp2_with fail
        refine (reftext_any _ _ D _ hown HD0.out HDL.out HSM.out).mono ?_
        rintro e w2 ⟨rfl, hb2⟩
        rw [HV.out]
        go_wp2_with fail
        go_ret2
        exact ⟨rfl, hB.trans (hb2.mono hB.size)⟩
/-- what Of answers -/
def ofR (n : Int) : ByteArray × Int := if n < 0 then (⟨#[]⟩, 9) else (nS n.toNat, 0)
theorem refOf_any (n : Int) (w : World) (h : n ≤ 9223372036854775807) : Calls Tryd.prog 24 #[.int .i64 n] w (Gives2 (ofR n) w) := by
  by_cases h0 : n < 0
  · have e : ofR n = (⟨#[]⟩, 9) := by unfold ofR; rw [if_pos h0]
    rw [e]
    refine (refOf_neg n w h0).mono ?_
    rintro e w' ⟨rfl, rfl⟩
    exact ⟨rfl, Below.refl _ _⟩
  · obtain ⟨k, rfl⟩ : ∃ k : Nat, n = k := ⟨n.toNat, by omega⟩
    have e : ofR (k : Int) = (nS k, 0) := by unfold ofR; rw [if_neg h0]; rfl
    rw [e]
    exact refOf_pos k w (by omega)
/-- what Compare answers -/
def cmpR (a b : ByteArray) : Int := if validB a && validB b then (if Dec.val (tl a) < Dec.val (tl b) then -1 else if Dec.val (tl b) < Dec.val (tl a) then 1 else 0) else 0
theorem refCompare_bad1 (a b : ByteArray) (w : World) (ha : validB a = false) :
    Calls Tryd.prog 30 #[.string a, .string b] w fun e w' => e = .returned (.int .i64 0) ∧ w = w' := by
  have HA := Lib.hid ha
  clear ha
  go_enter Tryd.func30, Tryd.ntmps30
  go_wp2_with fail
  refine (refvalid_any a _).mono ?_
  rintro e w1 ⟨rfl, rfl⟩
  rw [HA.out]
  go_wp2_with fail
  go_ret
  exact ⟨rfl, rfl⟩
theorem refCompare_bad2 (a b : ByteArray) (w : World) (ha : validB a = true) (hb : validB b = false) :
    Calls Tryd.prog 30 #[.string a, .string b] w fun e w' => e = .returned (.int .i64 0) ∧ w = w' := by
  have HA := Lib.hid ha
  have HB := Lib.hid hb
  clear ha hb
  go_enter Tryd.func30, Tryd.ntmps30
  go_wp2_with fail
  refine (refvalid_any a _).mono ?_
  rintro e w1 ⟨rfl, rfl⟩
  rw [HA.out]
  go_wp2_with fail
  refine (refvalid_any b _).mono ?_
  rintro e w1 ⟨rfl, rfl⟩
  rw [HB.out]
  go_wp2_with fail
  go_ret
  exact ⟨rfl, rfl⟩
theorem refCompare_eq (a b : ByteArray) (w : World) (ha : validB a = true) (hb : validB b = true) (q : (a.toList == b.toList) = true) :
    Calls Tryd.prog 30 #[.string a, .string b] w fun e w' => e = .returned (.int .i64 0) ∧ w = w' := by
  have HA := Lib.hid ha
  have HB := Lib.hid hb
  clear ha hb
  go_enter Tryd.func30, Tryd.ntmps30
  go_wp2_with fail
  refine (refvalid_any a _).mono ?_
  rintro e w1 ⟨rfl, rfl⟩
  rw [HA.out]
  go_wp2_with fail
  refine (refvalid_any b _).mono ?_
  rintro e w1 ⟨rfl, rfl⟩
  rw [HB.out]
  go_wp2_with fail
  go_ret
  exact ⟨rfl, rfl⟩
theorem refCompare_lt (a b : ByteArray) (w : World) (ha : validB a = true) (hb : validB b = true) (q : (a.toList == b.toList) = false) (h : Dec.val (tl a) < Dec.val (tl b)) :
    Calls Tryd.prog 30 #[.string a, .string b] w fun e w' => e = .returned (.int .i64 (-1)) ∧ w = w' := by
  have HA := Lib.hid ha
  have HB := Lib.hid hb
  have H := Lib.hid (decide_eq_true h)
  clear ha hb h
  go_enter Tryd.func30, Tryd.ntmps30
  go_wp2_with fail
  refine (refvalid_any a _).mono ?_
  rintro e w1 ⟨rfl, rfl⟩
  rw [HA.out]
  go_wp2_with fail
  refine (refvalid_any b _).mono ?_
  rintro e w1 ⟨rfl, rfl⟩
  rw [HB.out]
  go_wp2_with fail
  refine (refless_any a b _).mono ?_
  rintro e w1 ⟨rfl, rfl⟩
  rw [Dec.lessL_val (valid_norm HA.out) (valid_norm HB.out), H.out]
  go_wp2_with fail
  go_ret
  exact ⟨rfl, rfl⟩
theorem refCompare_gt (a b : ByteArray) (w : World) (ha : validB a = true) (hb : validB b = true) (q : (a.toList == b.toList) = false) (h : ¬ Dec.val (tl a) < Dec.val (tl b)) :
    Calls Tryd.prog 30 #[.string a, .string b] w fun e w' => e = .returned (.int .i64 1) ∧ w = w' := by
  have HA := Lib.hid ha
  have HB := Lib.hid hb
  have H := Lib.hid (decide_eq_false h)
  clear ha hb h
  go_enter Tryd.func30, Tryd.ntmps30
  go_wp2_with fail
  refine (refvalid_any a _).mono ?_
  rintro e w1 ⟨rfl, rfl⟩
  rw [HA.out]
  go_wp2_with fail
  refine (refvalid_any b _).mono ?_
  rintro e w1 ⟨rfl, rfl⟩
  rw [HB.out]
  go_wp2_with fail
  refine (refless_any a b _).mono ?_
  rintro e w1 ⟨rfl, rfl⟩
  rw [Dec.lessL_val (valid_norm HA.out) (valid_norm HB.out), H.out]
  go_wp2_with fail
  go_ret
  exact ⟨rfl, rfl⟩
theorem refCompare_any (a b : ByteArray) (w : World) :
    Calls Tryd.prog 30 #[.string a, .string b] w fun e w' => e = .returned (.int .i64 (cmpR a b)) ∧ w = w' := by
  by_cases ha : validB a = true
  · by_cases hb : validB b = true
    · by_cases h : Dec.val (tl a) = Dec.val (tl b)
      · have e : cmpR a b = 0 := by unfold cmpR; rw [ha, hb, if_pos (by rfl), if_neg (by omega), if_neg (by omega)]
        rw [e]; exact refCompare_eq a b w ha hb (by rw [str_beq]; exact decide_eq_true (valid_inj ha hb h))
      · have q : (a.toList == b.toList) = false := by rw [str_beq]; exact decide_eq_false (fun e => h (by rw [e]))
        by_cases h2 : Dec.val (tl a) < Dec.val (tl b)
        · have e : cmpR a b = -1 := by unfold cmpR; rw [ha, hb, if_pos (by rfl), if_pos h2]
          rw [e]; exact refCompare_lt a b w ha hb q h2
        · have e : cmpR a b = 1 := by unfold cmpR; rw [ha, hb, if_pos (by rfl), if_neg h2, if_pos (by omega)]
          rw [e]; exact refCompare_gt a b w ha hb q h2
    · have e : cmpR a b = 0 := by unfold cmpR; rw [two_not (fun h => hb h.2)]; rfl
      rw [e]; exact refCompare_bad2 a b w ha (by simpa using hb)
  · have e : cmpR a b = 0 := by unfold cmpR; rw [two_not (fun h => ha h.1)]; rfl
    rw [e]; exact refCompare_bad1 a b w (by simpa using ha)
end Go.Proofs.YtfkdhkbegfbkaaaDoor
