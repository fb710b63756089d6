/-
  The program's rational package: Compare.
-/
import Derived.Test.YtbcoblpnihdhgaaDoorRmH
import Derived.Laws.StructEq
set_option linter.unusedVariables false
set_option maxRecDepth 100000
namespace Go.Proofs.YtbcoblpnihdhgaaDoor
open Go.RowKit
open Rt
/-- two numbers are the same, as == of two structs finds it -/
def sameR (a b : Raw) : Bool := decide (a.neg = b.neg ∧ a.num = b.num ∧ a.den = b.den)
theorem sameR_iff {a b : Raw} : sameR a b = true ↔ a = b := by
  unfold sameR; rw [decide_eq_true_iff]
  exact ⟨fun h => Raw.eq_of h.1 h.2.1 h.2.2, fun h => by rw [h]; exact ⟨rfl, rfl, rfl⟩⟩
theorem run_eql_rat (a b : Raw) (w : World) : (binOp .eql 24 (.agg #[.bool a.neg, .string a.num, .string a.den]) (.agg #[.bool b.neg, .string b.num, .string b.den])).run Tryd.prog w = .ok (.bool (sameR a b)) w := by
  have h1 := str_beq a.num b.num
  have h2 := str_beq a.den b.den
  by_cases e0 : a.neg = b.neg
  · by_cases e1 : a.num = b.num
    · by_cases e2 : a.den = b.den
      · have hs : sameR a b = true := sameR_iff.2 (Raw.eq_of e0 e1 e2)
        rw [hs, e0, e1, e2]
        simp [go_sem, run_eql_struct, Program.fieldsOf]
      · have hs : sameR a b = false := Bool.eq_false_iff.2 (fun h => e2 (by rw [sameR_iff.1 h]))
        rw [decide_eq_false e2] at h2
        rw [hs, e0, e1]
        simp [go_sem, run_eql_struct, Program.fieldsOf, h2]
    · have hs : sameR a b = false := Bool.eq_false_iff.2 (fun h => e1 (by rw [sameR_iff.1 h]))
      rw [decide_eq_false e1] at h1
      rw [hs, e0]
      simp [go_sem, run_eql_struct, Program.fieldsOf, h1]
  · have hs : sameR a b = false := Bool.eq_false_iff.2 (fun h => e0 (by rw [sameR_iff.1 h]))
    have h0 : (a.neg == b.neg) = false := by simpa using e0
    rw [hs]
    simp [go_sem, run_eql_struct, Program.fieldsOf, h0]
theorem two_boxes (a b : Raw) (w : World) : Below w.heap.size w ((w.alloc (ratO a)).alloc (ratO b)) ∧ RatAt w.heap.size a ((w.alloc (ratO a)).alloc (ratO b)) ∧ RatAt (w.heap.size + 1) b ((w.alloc (ratO a)).alloc (ratO b)) := by
  have e0 := heap_lastM w (ratO a)
  have e1 := heap_lastM (w.alloc (ratO a)) (ratO b)
  have s1 : (w.alloc (ratO a)).heap.size = w.heap.size + 1 := by simp
  rw [s1] at e1
  refine ⟨((Below.refl _ _).alloc (Nat.le_refl _) _).alloc (by simp) _, ⟨?_⟩, ⟨e1⟩⟩
  rw [Lib.alloc_old _ _ _ (by rw [s1]; omega)]; exact e0
set_option maxHeartbeats 4000000 in
theorem pratcmp_bad1 (a b : Raw) (w : World) (h : okR a = false) : Calls Tryd.prog 36 #[.agg #[.bool a.neg, .string a.num, .string a.den], .agg #[.bool b.neg, .string b.num, .string b.den]] w fun e w' => e = .returned (.int .i64 0) ∧ Below w.heap.size w w' := by
  obtain ⟨hT, hA, hB⟩ := two_boxes a b w
  have HT := Lib.hid hT
  have HA := Lib.hid hA
  have HB := Lib.hid hB
  have heq : ∀ w, (binOp .eql 24 (.agg #[.bool a.neg, .string a.num, .string a.den]) (.agg #[.bool b.neg, .string b.num, .string b.den])).run Tryd.prog w = .ok (.bool (sameR a b)) w := run_eql_rat a b
  have hva : Hid (∀ w, Calls Tryd.prog 21 #[.agg #[.bool a.neg, .string a.num, .string a.den]] w (GivesB (okR a) w)) := Lib.hid (fun w => pratvalid_any a w)
  have hvb : Hid (∀ w, Calls Tryd.prog 21 #[.agg #[.bool b.neg, .string b.num, .string b.den]] w (GivesB (okR b) w)) := Lib.hid (fun w => pratvalid_any b w)
  rw [h] at hva
  clear h
  go_enter Tryd.func36, Tryd.ntmps36
  go_wp2_with fail
  refine (hva.out _).mono ?_
  rintro en w1 ⟨rfl, hb1⟩
  have hA1 := HA.out.bel hb1
  have hB1 := HB.out.bel hb1
  have a0 := hA1.c0
  have a1 := hA1.c1
  have a2 := hA1.c2
  have b0 := hB1.c0
  have b1 := hB1.c1
  have b2 := hB1.c2
  have HA1 := Lib.hid hA1
  have HB1 := Lib.hid hB1
  have HW1 := Lib.hid (HT.out.trans (hb1.mono HT.out.size))
  clear hb1 hA1 hB1
  go_wp2_with fail
  go_ret
  exact ⟨rfl, HW1.out⟩
set_option maxHeartbeats 4000000 in
theorem pratcmp_bad2 (a b : Raw) (w : World) (h : okR a = true) (h' : okR b = false) : Calls Tryd.prog 36 #[.agg #[.bool a.neg, .string a.num, .string a.den], .agg #[.bool b.neg, .string b.num, .string b.den]] w fun e w' => e = .returned (.int .i64 0) ∧ Below w.heap.size w w' := by
  obtain ⟨hT, hA, hB⟩ := two_boxes a b w
  have HT := Lib.hid hT
  have HA := Lib.hid hA
  have HB := Lib.hid hB
  have heq : ∀ w, (binOp .eql 24 (.agg #[.bool a.neg, .string a.num, .string a.den]) (.agg #[.bool b.neg, .string b.num, .string b.den])).run Tryd.prog w = .ok (.bool (sameR a b)) w := run_eql_rat a b
  have hva : Hid (∀ w, Calls Tryd.prog 21 #[.agg #[.bool a.neg, .string a.num, .string a.den]] w (GivesB (okR a) w)) := Lib.hid (fun w => pratvalid_any a w)
  have hvb : Hid (∀ w, Calls Tryd.prog 21 #[.agg #[.bool b.neg, .string b.num, .string b.den]] w (GivesB (okR b) w)) := Lib.hid (fun w => pratvalid_any b w)
  rw [h] at hva
  rw [h'] at hvb
  clear h h'
  go_enter Tryd.func36, Tryd.ntmps36
  go_wp2_with fail
  refine (hva.out _).mono ?_
  rintro en w1 ⟨rfl, hb1⟩
  have hA1 := HA.out.bel hb1
  have hB1 := HB.out.bel hb1
  have a0 := hA1.c0
  have a1 := hA1.c1
  have a2 := hA1.c2
  have b0 := hB1.c0
  have b1 := hB1.c1
  have b2 := hB1.c2
  have HA1 := Lib.hid hA1
  have HB1 := Lib.hid hB1
  have HW1 := Lib.hid (HT.out.trans (hb1.mono HT.out.size))
  clear hb1 hA1 hB1
  go_wp2_with fail
  clear a0 a1 a2 b0 b1 b2
  refine (hvb.out _).mono ?_
  rintro en w2 ⟨rfl, hb2⟩
  have hA2 := HA1.out.bel hb2
  have hB2 := HB1.out.bel hb2
  have a0 := hA2.c0
  have a1 := hA2.c1
  have a2 := hA2.c2
  have b0 := hB2.c0
  have b1 := hB2.c1
  have b2 := hB2.c2
  have HA2 := Lib.hid hA2
  have HB2 := Lib.hid hB2
  have HW2 := Lib.hid (HW1.out.trans (hb2.mono HW1.out.size))
  clear hb2 hA2 hB2
  go_wp2_with fail
  go_ret
  exact ⟨rfl, HW2.out⟩
set_option maxHeartbeats 4000000 in
theorem pratcmp_same (a b : Raw) (w : World) (h : okR a = true) (h' : okR b = true) (hs : sameR a b = true) : Calls Tryd.prog 36 #[.agg #[.bool a.neg, .string a.num, .string a.den], .agg #[.bool b.neg, .string b.num, .string b.den]] w fun e w' => e = .returned (.int .i64 0) ∧ Below w.heap.size w w' := by
  obtain ⟨hT, hA, hB⟩ := two_boxes a b w
  have HT := Lib.hid hT
  have HA := Lib.hid hA
  have HB := Lib.hid hB
  have heq : ∀ w, (binOp .eql 24 (.agg #[.bool a.neg, .string a.num, .string a.den]) (.agg #[.bool b.neg, .string b.num, .string b.den])).run Tryd.prog w = .ok (.bool (sameR a b)) w := run_eql_rat a b
  have hva : Hid (∀ w, Calls Tryd.prog 21 #[.agg #[.bool a.neg, .string a.num, .string a.den]] w (GivesB (okR a) w)) := Lib.hid (fun w => pratvalid_any a w)
  have hvb : Hid (∀ w, Calls Tryd.prog 21 #[.agg #[.bool b.neg, .string b.num, .string b.den]] w (GivesB (okR b) w)) := Lib.hid (fun w => pratvalid_any b w)
  rw [h] at hva
  rw [h'] at hvb
  rw [hs] at heq
  clear h h' hs
  go_enter Tryd.func36, Tryd.ntmps36
  go_wp2_with fail
  refine (hva.out _).mono ?_
  rintro en w1 ⟨rfl, hb1⟩
  have hA1 := HA.out.bel hb1
  have hB1 := HB.out.bel hb1
  have a0 := hA1.c0
  have a1 := hA1.c1
  have a2 := hA1.c2
  have b0 := hB1.c0
  have b1 := hB1.c1
  have b2 := hB1.c2
  have HA1 := Lib.hid hA1
  have HB1 := Lib.hid hB1
  have HW1 := Lib.hid (HT.out.trans (hb1.mono HT.out.size))
  clear hb1 hA1 hB1
  go_wp2_with fail
  clear a0 a1 a2 b0 b1 b2
  refine (hvb.out _).mono ?_
  rintro en w2 ⟨rfl, hb2⟩
  have hA2 := HA1.out.bel hb2
  have hB2 := HB1.out.bel hb2
  have a0 := hA2.c0
  have a1 := hA2.c1
  have a2 := hA2.c2
  have b0 := hB2.c0
  have b1 := hB2.c1
  have b2 := hB2.c2
  have HA2 := Lib.hid hA2
  have HB2 := Lib.hid hB2
  have HW2 := Lib.hid (HW1.out.trans (hb2.mono HW1.out.size))
  clear hb2 hA2 hB2
  go_wp2_with fail
  go_ret
  exact ⟨rfl, HW2.out⟩
theorem raw_sm {a : Q} (h : okR a.raw = true) : a.ok ∧ Sm a.num ∧ Sm a.den := by
  have h0 := okR_of h
  have h1 := h0.1
  rw [Q.raw_q] at h1
  exact ⟨h1, h0.2.2.1, h0.2.2.2⟩
set_option maxHeartbeats 4000000 in
theorem pratcmp_tt (xa ya xb yb : Nat) (w : World) (h : okR (⟨true, nS xa, nS ya⟩ : Raw) = true) (h' : okR (⟨true, nS xb, nS yb⟩ : Raw) = true) (hs : sameR (⟨true, nS xa, nS ya⟩ : Raw) (⟨true, nS xb, nS yb⟩ : Raw) = false) (hsm : Sm xa ∧ Sm ya ∧ Sm xb ∧ Sm yb ∧ 0 < ya ∧ 0 < yb) : Calls Tryd.prog 36 #[.agg #[.bool true, .string (nS xa), .string (nS ya)], .agg #[.bool true, .string (nS xb), .string (nS yb)]] w fun e w' => e = .returned (.int .i64 (sgnI ((xb : Int) * ya - (xa : Int) * yb))) ∧ Below w.heap.size w w' := by
  have HS := Lib.hid hsm
  obtain ⟨hT, hA, hB⟩ := two_boxes (⟨true, nS xa, nS ya⟩ : Raw) (⟨true, nS xb, nS yb⟩ : Raw) w
  have HT := Lib.hid hT
  have HA := Lib.hid hA
  have HB := Lib.hid hB
  have heq : ∀ w, (binOp .eql 24 (.agg #[.bool true, .string (nS xa), .string (nS ya)]) (.agg #[.bool true, .string (nS xb), .string (nS yb)])).run Tryd.prog w = .ok (.bool (sameR (⟨true, nS xa, nS ya⟩ : Raw) (⟨true, nS xb, nS yb⟩ : Raw))) w := run_eql_rat (⟨true, nS xa, nS ya⟩ : Raw) (⟨true, nS xb, nS yb⟩ : Raw)
  have hva : Hid (∀ w, Calls Tryd.prog 21 #[.agg #[.bool true, .string (nS xa), .string (nS ya)]] w (GivesB (okR (⟨true, nS xa, nS ya⟩ : Raw)) w)) := Lib.hid (fun w => pratvalid_any (⟨true, nS xa, nS ya⟩ : Raw) w)
  have hvb : Hid (∀ w, Calls Tryd.prog 21 #[.agg #[.bool true, .string (nS xb), .string (nS yb)]] w (GivesB (okR (⟨true, nS xb, nS yb⟩ : Raw)) w)) := Lib.hid (fun w => pratvalid_any (⟨true, nS xb, nS yb⟩ : Raw) w)
  rw [h] at hva
  rw [h'] at hvb
  rw [hs] at heq
  clear h h' hs hsm
  go_enter Tryd.func36, Tryd.ntmps36
  go_wp2_with fail
  refine (hva.out _).mono ?_
  rintro en w1 ⟨rfl, hb1⟩
  have hA1 := HA.out.bel hb1
  have hB1 := HB.out.bel hb1
  have a0 := hA1.c0
  have a1 := hA1.c1
  have a2 := hA1.c2
  have b0 := hB1.c0
  have b1 := hB1.c1
  have b2 := hB1.c2
  have HA1 := Lib.hid hA1
  have HB1 := Lib.hid hB1
  have HW1 := Lib.hid (HT.out.trans (hb1.mono HT.out.size))
  clear hb1 hA1 hB1
  go_wp2_with fail
  clear a0 a1 a2 b0 b1 b2
  refine (hvb.out _).mono ?_
  rintro en w2 ⟨rfl, hb2⟩
  have hA2 := HA1.out.bel hb2
  have hB2 := HB1.out.bel hb2
  have a0 := hA2.c0
  have a1 := hA2.c1
  have a2 := hA2.c2
  have b0 := hB2.c0
  have b1 := hB2.c1
  have b2 := hB2.c2
  have HA2 := Lib.hid hA2
  have HB2 := Lib.hid hB2
  have HW2 := Lib.hid (HW1.out.trans (hb2.mono HW1.out.size))
  clear hb2 hA2 hB2
  go_wp2_with fail
  refine (pcsizes_any ⟨true, xb, yb⟩ ⟨true, xa, ya⟩ true true w2 HS.out.2.2.1 HS.out.2.2.2.1 HS.out.1 HS.out.2.1 HS.out.2.2.2.2.2 HS.out.2.2.2.2.1).mono ?_
  rintro en w3 ⟨rfl, hb3⟩
  go_wp2_with fail
  go_ret
  exact ⟨rfl, HW2.out.trans (hb3.mono HW2.out.size)⟩
set_option maxHeartbeats 4000000 in
theorem pratcmp_tf (xa ya xb yb : Nat) (w : World) (h : okR (⟨true, nS xa, nS ya⟩ : Raw) = true) (h' : okR (⟨false, nS xb, nS yb⟩ : Raw) = true) (hs : sameR (⟨true, nS xa, nS ya⟩ : Raw) (⟨false, nS xb, nS yb⟩ : Raw) = false) (hsm : Sm xa ∧ Sm ya ∧ Sm xb ∧ Sm yb ∧ 0 < ya ∧ 0 < yb) : Calls Tryd.prog 36 #[.agg #[.bool true, .string (nS xa), .string (nS ya)], .agg #[.bool false, .string (nS xb), .string (nS yb)]] w fun e w' => e = .returned (.int .i64 (-1)) ∧ Below w.heap.size w w' := by
  have HS := Lib.hid hsm
  obtain ⟨hT, hA, hB⟩ := two_boxes (⟨true, nS xa, nS ya⟩ : Raw) (⟨false, nS xb, nS yb⟩ : Raw) w
  have HT := Lib.hid hT
  have HA := Lib.hid hA
  have HB := Lib.hid hB
  have heq : ∀ w, (binOp .eql 24 (.agg #[.bool true, .string (nS xa), .string (nS ya)]) (.agg #[.bool false, .string (nS xb), .string (nS yb)])).run Tryd.prog w = .ok (.bool (sameR (⟨true, nS xa, nS ya⟩ : Raw) (⟨false, nS xb, nS yb⟩ : Raw))) w := run_eql_rat (⟨true, nS xa, nS ya⟩ : Raw) (⟨false, nS xb, nS yb⟩ : Raw)
  have hva : Hid (∀ w, Calls Tryd.prog 21 #[.agg #[.bool true, .string (nS xa), .string (nS ya)]] w (GivesB (okR (⟨true, nS xa, nS ya⟩ : Raw)) w)) := Lib.hid (fun w => pratvalid_any (⟨true, nS xa, nS ya⟩ : Raw) w)
  have hvb : Hid (∀ w, Calls Tryd.prog 21 #[.agg #[.bool false, .string (nS xb), .string (nS yb)]] w (GivesB (okR (⟨false, nS xb, nS yb⟩ : Raw)) w)) := Lib.hid (fun w => pratvalid_any (⟨false, nS xb, nS yb⟩ : Raw) w)
  rw [h] at hva
  rw [h'] at hvb
  rw [hs] at heq
  clear h h' hs hsm
  go_enter Tryd.func36, Tryd.ntmps36
  go_wp2_with fail
  refine (hva.out _).mono ?_
  rintro en w1 ⟨rfl, hb1⟩
  have hA1 := HA.out.bel hb1
  have hB1 := HB.out.bel hb1
  have a0 := hA1.c0
  have a1 := hA1.c1
  have a2 := hA1.c2
  have b0 := hB1.c0
  have b1 := hB1.c1
  have b2 := hB1.c2
  have HA1 := Lib.hid hA1
  have HB1 := Lib.hid hB1
  have HW1 := Lib.hid (HT.out.trans (hb1.mono HT.out.size))
  clear hb1 hA1 hB1
  go_wp2_with fail
  clear a0 a1 a2 b0 b1 b2
  refine (hvb.out _).mono ?_
  rintro en w2 ⟨rfl, hb2⟩
  have hA2 := HA1.out.bel hb2
  have hB2 := HB1.out.bel hb2
  have a0 := hA2.c0
  have a1 := hA2.c1
  have a2 := hA2.c2
  have b0 := hB2.c0
  have b1 := hB2.c1
  have b2 := hB2.c2
  have HA2 := Lib.hid hA2
  have HB2 := Lib.hid hB2
  have HW2 := Lib.hid (HW1.out.trans (hb2.mono HW1.out.size))
  clear hb2 hA2 hB2
  go_wp2_with fail
  go_ret
  exact ⟨rfl, HW2.out⟩
set_option maxHeartbeats 4000000 in
theorem pratcmp_ft (xa ya xb yb : Nat) (w : World) (h : okR (⟨false, nS xa, nS ya⟩ : Raw) = true) (h' : okR (⟨true, nS xb, nS yb⟩ : Raw) = true) (hs : sameR (⟨false, nS xa, nS ya⟩ : Raw) (⟨true, nS xb, nS yb⟩ : Raw) = false) (hsm : Sm xa ∧ Sm ya ∧ Sm xb ∧ Sm yb ∧ 0 < ya ∧ 0 < yb) : Calls Tryd.prog 36 #[.agg #[.bool false, .string (nS xa), .string (nS ya)], .agg #[.bool true, .string (nS xb), .string (nS yb)]] w fun e w' => e = .returned (.int .i64 (1)) ∧ Below w.heap.size w w' := by
  have HS := Lib.hid hsm
  obtain ⟨hT, hA, hB⟩ := two_boxes (⟨false, nS xa, nS ya⟩ : Raw) (⟨true, nS xb, nS yb⟩ : Raw) w
  have HT := Lib.hid hT
  have HA := Lib.hid hA
  have HB := Lib.hid hB
  have heq : ∀ w, (binOp .eql 24 (.agg #[.bool false, .string (nS xa), .string (nS ya)]) (.agg #[.bool true, .string (nS xb), .string (nS yb)])).run Tryd.prog w = .ok (.bool (sameR (⟨false, nS xa, nS ya⟩ : Raw) (⟨true, nS xb, nS yb⟩ : Raw))) w := run_eql_rat (⟨false, nS xa, nS ya⟩ : Raw) (⟨true, nS xb, nS yb⟩ : Raw)
  have hva : Hid (∀ w, Calls Tryd.prog 21 #[.agg #[.bool false, .string (nS xa), .string (nS ya)]] w (GivesB (okR (⟨false, nS xa, nS ya⟩ : Raw)) w)) := Lib.hid (fun w => pratvalid_any (⟨false, nS xa, nS ya⟩ : Raw) w)
  have hvb : Hid (∀ w, Calls Tryd.prog 21 #[.agg #[.bool true, .string (nS xb), .string (nS yb)]] w (GivesB (okR (⟨true, nS xb, nS yb⟩ : Raw)) w)) := Lib.hid (fun w => pratvalid_any (⟨true, nS xb, nS yb⟩ : Raw) w)
  rw [h] at hva
  rw [h'] at hvb
  rw [hs] at heq
  clear h h' hs hsm
  go_enter Tryd.func36, Tryd.ntmps36
  go_wp2_with fail
  refine (hva.out _).mono ?_
  rintro en w1 ⟨rfl, hb1⟩
  have hA1 := HA.out.bel hb1
  have hB1 := HB.out.bel hb1
  have a0 := hA1.c0
  have a1 := hA1.c1
  have a2 := hA1.c2
  have b0 := hB1.c0
  have b1 := hB1.c1
  have b2 := hB1.c2
  have HA1 := Lib.hid hA1
  have HB1 := Lib.hid hB1
  have HW1 := Lib.hid (HT.out.trans (hb1.mono HT.out.size))
  clear hb1 hA1 hB1
  go_wp2_with fail
  clear a0 a1 a2 b0 b1 b2
  refine (hvb.out _).mono ?_
  rintro en w2 ⟨rfl, hb2⟩
  have hA2 := HA1.out.bel hb2
  have hB2 := HB1.out.bel hb2
  have a0 := hA2.c0
  have a1 := hA2.c1
  have a2 := hA2.c2
  have b0 := hB2.c0
  have b1 := hB2.c1
  have b2 := hB2.c2
  have HA2 := Lib.hid hA2
  have HB2 := Lib.hid hB2
  have HW2 := Lib.hid (HW1.out.trans (hb2.mono HW1.out.size))
  clear hb2 hA2 hB2
  go_wp2_with fail
  go_ret
  exact ⟨rfl, HW2.out⟩
set_option maxHeartbeats 4000000 in
theorem pratcmp_ff (xa ya xb yb : Nat) (w : World) (h : okR (⟨false, nS xa, nS ya⟩ : Raw) = true) (h' : okR (⟨false, nS xb, nS yb⟩ : Raw) = true) (hs : sameR (⟨false, nS xa, nS ya⟩ : Raw) (⟨false, nS xb, nS yb⟩ : Raw) = false) (hsm : Sm xa ∧ Sm ya ∧ Sm xb ∧ Sm yb ∧ 0 < ya ∧ 0 < yb) : Calls Tryd.prog 36 #[.agg #[.bool false, .string (nS xa), .string (nS ya)], .agg #[.bool false, .string (nS xb), .string (nS yb)]] w fun e w' => e = .returned (.int .i64 (sgnI ((xa : Int) * yb - (xb : Int) * ya))) ∧ Below w.heap.size w w' := by
  have HS := Lib.hid hsm
  obtain ⟨hT, hA, hB⟩ := two_boxes (⟨false, nS xa, nS ya⟩ : Raw) (⟨false, nS xb, nS yb⟩ : Raw) w
  have HT := Lib.hid hT
  have HA := Lib.hid hA
  have HB := Lib.hid hB
  have heq : ∀ w, (binOp .eql 24 (.agg #[.bool false, .string (nS xa), .string (nS ya)]) (.agg #[.bool false, .string (nS xb), .string (nS yb)])).run Tryd.prog w = .ok (.bool (sameR (⟨false, nS xa, nS ya⟩ : Raw) (⟨false, nS xb, nS yb⟩ : Raw))) w := run_eql_rat (⟨false, nS xa, nS ya⟩ : Raw) (⟨false, nS xb, nS yb⟩ : Raw)
  have hva : Hid (∀ w, Calls Tryd.prog 21 #[.agg #[.bool false, .string (nS xa), .string (nS ya)]] w (GivesB (okR (⟨false, nS xa, nS ya⟩ : Raw)) w)) := Lib.hid (fun w => pratvalid_any (⟨false, nS xa, nS ya⟩ : Raw) w)
  have hvb : Hid (∀ w, Calls Tryd.prog 21 #[.agg #[.bool false, .string (nS xb), .string (nS yb)]] w (GivesB (okR (⟨false, nS xb, nS yb⟩ : Raw)) w)) := Lib.hid (fun w => pratvalid_any (⟨false, nS xb, nS yb⟩ : Raw) w)
  rw [h] at hva
  rw [h'] at hvb
  rw [hs] at heq
  clear h h' hs hsm
  go_enter Tryd.func36, Tryd.ntmps36
  go_wp2_with fail
  refine (hva.out _).mono ?_
  rintro en w1 ⟨rfl, hb1⟩
  have hA1 := HA.out.bel hb1
  have hB1 := HB.out.bel hb1
  have a0 := hA1.c0
  have a1 := hA1.c1
  have a2 := hA1.c2
  have b0 := hB1.c0
  have b1 := hB1.c1
  have b2 := hB1.c2
  have HA1 := Lib.hid hA1
  have HB1 := Lib.hid hB1
  have HW1 := Lib.hid (HT.out.trans (hb1.mono HT.out.size))
  clear hb1 hA1 hB1
  go_wp2_with fail
  clear a0 a1 a2 b0 b1 b2
  refine (hvb.out _).mono ?_
  rintro en w2 ⟨rfl, hb2⟩
  have hA2 := HA1.out.bel hb2
  have hB2 := HB1.out.bel hb2
  have a0 := hA2.c0
  have a1 := hA2.c1
  have a2 := hA2.c2
  have b0 := hB2.c0
  have b1 := hB2.c1
  have b2 := hB2.c2
  have HA2 := Lib.hid hA2
  have HB2 := Lib.hid hB2
  have HW2 := Lib.hid (HW1.out.trans (hb2.mono HW1.out.size))
  clear hb2 hA2 hB2
  go_wp2_with fail
  refine (pcsizes_any ⟨false, xa, ya⟩ ⟨false, xb, yb⟩ false false w2 HS.out.1 HS.out.2.1 HS.out.2.2.1 HS.out.2.2.2.1 HS.out.2.2.2.2.1 HS.out.2.2.2.2.2).mono ?_
  rintro en w3 ⟨rfl, hb3⟩
  go_wp2_with fail
  go_ret
  exact ⟨rfl, HW2.out.trans (hb3.mono HW2.out.size)⟩
theorem pratcmp_any (a b : Raw) (w : World) : Calls Tryd.prog 36 #[.agg #[.bool a.neg, .string a.num, .string a.den], .agg #[.bool b.neg, .string b.num, .string b.den]] w fun e w' => e = .returned (.int .i64 (cmpE a b)) ∧ Below w.heap.size w w' := by
  by_cases ha : okR a = true
  · by_cases hb : okR b = true
    · obtain ⟨p, ep⟩ : ∃ p : Q, a = p.raw := ⟨a.q, (okR_of ha).2.1.symm⟩
      obtain ⟨q, eq⟩ : ∃ q : Q, b = q.raw := ⟨b.q, (okR_of hb).2.1.symm⟩
      subst ep eq
      obtain ⟨h1, h2, h3⟩ := raw_sm ha
      obtain ⟨k1, k2, k3⟩ := raw_sm hb
      rw [cmpE_val ha hb]
      by_cases hs : sameR p.raw q.raw = true
      · have e : p = q := raw_inj (sameR_iff.1 hs)
        rw [(cmp_zero h1 k1).2 e]
        exact pratcmp_same _ _ w ha hb hs
      · have hs := Bool.eq_false_iff.2 hs
        obtain ⟨na, xa, ya⟩ := p
        obtain ⟨nb, xb, yb⟩ := q
        cases na <;> cases nb
        · rw [cmpQ_sign (a := ⟨false, xa, ya⟩) (b := ⟨false, xb, yb⟩) rfl]
          exact pratcmp_ff xa ya xb yb w ha hb hs ⟨h2, h3, k2, k3, h1.1, k1.1⟩
        · rw [cmpQ_diff h1 k1 (by show false ≠ true; decide)]
          exact pratcmp_ft xa ya xb yb w ha hb hs ⟨h2, h3, k2, k3, h1.1, k1.1⟩
        · rw [cmpQ_diff h1 k1 (by show true ≠ false; decide)]
          exact pratcmp_tf xa ya xb yb w ha hb hs ⟨h2, h3, k2, k3, h1.1, k1.1⟩
        · rw [cmpQ_sign (a := ⟨true, xa, ya⟩) (b := ⟨true, xb, yb⟩) rfl]
          exact pratcmp_tt xa ya xb yb w ha hb hs ⟨h2, h3, k2, k3, h1.1, k1.1⟩
    · have hb := Bool.eq_false_iff.2 hb
      have e : cmpE a b = 0 := by unfold cmpE; rw [hb]; simp
      rw [e]; exact pratcmp_bad2 a b w ha hb
  · have ha := Bool.eq_false_iff.2 ha
    have e : cmpE a b = 0 := by unfold cmpE; rw [ha]; rfl
    rw [e]; exact pratcmp_bad1 a b w ha
end Go.Proofs.YtbcoblpnihdhgaaDoor
