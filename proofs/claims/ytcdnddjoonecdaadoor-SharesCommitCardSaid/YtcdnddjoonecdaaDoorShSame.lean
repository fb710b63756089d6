/-
  Shares compared; whether two lists of shares are the same (layer 7).
-/
import Derived.Test.YtcdnddjoonecdaaDoorShRefJ
import Derived.Laws.StructEq
set_option linter.unusedVariables false
set_option maxRecDepth 100000
namespace Go.Proofs.YtcdnddjoonecdaaDoor
open Go.RowKit
open Fdp
def eqS (p q : Int × Int) : Bool := (p.1 == q.1) && (p.2 == q.2)
theorem eqS_iff {p q : Int × Int} : eqS p q = true ↔ p = q := by
  obtain ⟨a, b⟩ := p; obtain ⟨c, d⟩ := q; simp [eqS]
theorem eqS_no {p q : Int × Int} : eqS p q = false ↔ p ≠ q := by rw [← Bool.not_eq_true, ne_eq, not_congr eqS_iff]
theorem run_neq_sh (a b c d : Int) (w : World) : (binOp .neq 24 (.agg #[.int .i64 a, .int .i64 b]) (.agg #[.int .i64 c, .int .i64 d])).run Tryd.prog w = .ok (.bool (!eqS (a, b) (c, d))) w := by
  by_cases e0 : a = c
  · by_cases e1 : b = d
    · have hs : eqS (a, b) (c, d) = true := by simp [eqS, e0, e1]
      rw [hs, e0, e1]
      simp [go_sem, run_neq_struct, Program.fieldsOf]
    · have hs : eqS (a, b) (c, d) = false := by simp [eqS, e1]
      have h1 : (b == d) = false := by simpa using e1
      rw [hs, e0]
      simp [go_sem, run_neq_struct, Program.fieldsOf, h1]
  · have hs : eqS (a, b) (c, d) = false := by simp [eqS, e0]
    have h0 : (a == c) = false := by simpa using e0
    rw [hs]
    simp [go_sem, run_neq_struct, Program.fieldsOf, h0]
theorem run_eql_sh (a b c d : Int) (w : World) : (binOp .eql 24 (.agg #[.int .i64 a, .int .i64 b]) (.agg #[.int .i64 c, .int .i64 d])).run Tryd.prog w = .ok (.bool (eqS (a, b) (c, d))) w := by
  by_cases e0 : a = c
  · by_cases e1 : b = d
    · have hs : eqS (a, b) (c, d) = true := by simp [eqS, e0, e1]
      rw [hs, e0, e1]
      simp [go_sem, run_eql_struct, Program.fieldsOf]
    · have hs : eqS (a, b) (c, d) = false := by simp [eqS, e1]
      have h1 : (b == d) = false := by simpa using e1
      rw [hs, e0]
      simp [go_sem, run_eql_struct, Program.fieldsOf, h1]
  · have hs : eqS (a, b) (c, d) = false := by simp [eqS, e0]
    have h0 : (a == c) = false := by simpa using e0
    rw [hs]
    simp [go_sem, run_eql_struct, Program.fieldsOf, h0]
/-- are two lists the same? -/
def eqL (l m : List (Int × Int)) : Bool := decide (l = m)
set_option maxHeartbeats 1000000 in
theorem refSame_any (a c : Option Addr) (n m cn cm : Nat) (l r : List (Int × Int)) (w : World) (h : PtsAt w a n l) (hr : PtsAt w c m r) (hn : n ≤ 1000000) (hm : m ≤ 1000000) :
    Calls Tryd.prog 20 #[.slice a n cn, .slice c m cm] w fun e w' => e = .returned (.bool (eqL l r)) ∧ Below w.heap.size w w' := by
  have HA := Lib.hid h
  have HB := Lib.hid hr
  have HL := Lib.hid h.len
  have HM := Lib.hid hr.len
  clear h hr
  have D0 : Hid (Below w.heap.size w w) := Lib.hid (Below.refl _ _)
  by_cases g : n = m
  · obtain rfl : n = m := g
    have t0 : ((n : Int) != (n : Int)) = false := by simp
    go_enter Tryd.func20, Tryd.ntmps20
    go_wp2_with fail
    go_loopw [5] (fun ii wr => ∃ k : Nat, k ≤ n ∧ ii = .int .i64 (k : Int) ∧ Hid (l.take k = r.take k) ∧ Hid (Below w.heap.size w wr)) (fun ii _ => n - (intOf ii).toNat)
    case atStart => exact ⟨0, by omega, rfl, Lib.hid (by simp), D0⟩
    case round =>
      obtain ⟨k, hk, rfl, hx, hD⟩ := hrel
      by_cases hkn : k < n
      · have hkl : k < l.length := by rw [← HL.out]; exact hkn
        have hkr : k < r.length := by rw [← HM.out]; exact hkn
        obtain ⟨ba, oa, rfl, -⟩ := HA.out.cells (by omega)
        obtain ⟨bb, ob, rfl, -⟩ := HB.out.cells (by omega)
        obtain ⟨p, hp⟩ : ∃ p, p = l[k].1 := ⟨_, rfl⟩
        obtain ⟨q, hq⟩ : ∃ q, q = l[k].2 := ⟨_, rfl⟩
        obtain ⟨s, hs⟩ : ∃ s, s = r[k].1 := ⟨_, rfl⟩
        obtain ⟨t, ht⟩ : ∃ t, t = r[k].2 := ⟨_, rfl⟩
        obtain ⟨hc1, hc2⟩ := (HA.out.bel hD.out).cell hkl
        obtain ⟨hd1, hd2⟩ := (HB.out.bel hD.out).cell hkr
        rw [← hp] at hc1
        rw [← hq] at hc2
        rw [← hs] at hd1
        rw [← ht] at hd2
        have b1 : (0 : Int) ≤ (k : Int) := by omega
        have b2 : (k : Int) < (n : Int) := by omega
        have hne := run_neq_sh p q s t
        cases he : eqS (p, q) (s, t) with
        | false =>
          have hb : Hid (eqL l r = false) := Lib.hid (by
            unfold eqL
            rw [decide_eq_false_iff_not]
            intro e
            subst e
            exact eqS_no.1 he (by rw [hp, hq, hs, ht]))
          rw [he] at hne
          clear he hp hq hs ht
          go_wp2_with fail
          go_quiet (fail)
          go_wp2_with fail
          go_ret
          exact ⟨by rw [hb.out]; rfl, below_drewN hD.out _⟩
        | true =>
          have hx2 : Hid (l.take (k + 1) = r.take (k + 1)) := Lib.hid (by
            have e := eqS_iff.1 he
            rw [hp, hq, hs, ht] at e
            have e2 : l[k] = r[k] := by
              have e3 := congrArg Prod.fst e
              have e4 := congrArg Prod.snd e
              exact Prod.ext e3 e4
            rw [List.take_succ_eq_append_getElem hkl, List.take_succ_eq_append_getElem hkr, hx.out, e2])
          rw [he] at hne
          clear he hp hq hs ht
          go_wp2_with fail
          go_quiet (fail)
          go_wp2_with fail
          go_roundw
          case rel => exact ⟨k + 1, by omega, by go_num, hx2, Lib.hid (below_drewN hD.out _)⟩
          case measure => simp [intOf]; omega
      · obtain rfl : k = n := by omega
        have hb : Hid (eqL l r = true) := Lib.hid (by
          have e := hx.out
          rw [List.take_of_length_le (by rw [← HL.out]; exact Nat.le_refl _), List.take_of_length_le (by rw [← HM.out]; exact Nat.le_refl _)] at e
          unfold eqL; rw [e]; simp)
        go_wp2_with fail
        go_ret
        exact ⟨by rw [hb.out]; rfl, hD.out⟩
  · have hb : Hid (eqL l r = false) := Lib.hid (by
      unfold eqL
      rw [decide_eq_false_iff_not]
      intro e
      subst e
      exact g (HL.out.trans HM.out.symm))
    have t0 : ((n : Int) != (m : Int)) = true := by simp; omega
    have t1 : ((n : Int) == (m : Int)) = false := beq_eq_false_iff_ne.2 (by omega)
    go_enter Tryd.func20, Tryd.ntmps20
    go_wp2_with fail
    go_ret
    exact ⟨by rw [hb.out]; rfl, D0.out⟩
end Go.Proofs.YtcdnddjoonecdaaDoor
