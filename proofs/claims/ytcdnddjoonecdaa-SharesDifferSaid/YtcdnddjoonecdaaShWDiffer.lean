/-
  Two lists of coefficients differ at some of the places (SharesDiffer, P7.4).
-/
import Derived.Test.YtcdnddjoonecdaaShPlc
import Derived.Deep.DeepCutAuto
set_option linter.unusedVariables false
set_option maxRecDepth 100000
namespace Go.Proofs.Ytcdnddjoonecdaa
open Go.RowKit
open Fdp
set_option maxHeartbeats 4000000 in
theorem walkSharesDiffer (s : Int) (vq : Value) (q : List Int) (vr : Value) (r : List Int) (need total first_ : Int) (w : World) (hs64 : -9223372036854775808 ≤ s ∧ s ≤ 9223372036854775807) (hq : IntsOk w vq q) (hr : IntsOk w vr r) (hu1 : 0 ≤ need ∧ need ≤ 255) (hu2 : 0 ≤ total ∧ total ≤ 255) (hu3 : 0 ≤ first_ ∧ first_ ≤ 255) :
    Calls Try.prog 5 #[.int .i64 s, vq, vr, .int .u8 need, .int .u8 total, .int .u8 first_] w fun e w' => e = .returned (.bool true) ∧ Below w.heap.size w w' := by
  clear hs64
  obtain ⟨f, rfl⟩ : ∃ f : Nat, first_ = f := ⟨first_.toNat, by omega⟩
  obtain ⟨qa, cq, rfl, hqa1, hqa2, hqa3, hqa4⟩ := hq.form
  obtain ⟨mq, hnqa⟩ : ∃ n, n = q.length := ⟨_, rfl⟩
  rw [← hnqa] at hqa1 hqa4 ⊢
  have HQ := Lib.hid hqa4
  have hqa5 : mq ≤ maxLen := by omega
  clear hqa1 hqa2 hqa3 hqa4 hnqa hq
  obtain ⟨ra, cr, rfl, hra1, hra2, hra3, hra4⟩ := hr.form
  obtain ⟨mr, hnra⟩ : ∃ n, n = r.length := ⟨_, rfl⟩
  rw [← hnra] at hra1 hra4 ⊢
  have HR0 := Lib.hid hra4
  have hra5 : mr ≤ maxLen := by omega
  clear hra1 hra2 hra3 hra4 hnra hr
  obtain ⟨n, hn⟩ : ∃ n, n = mN need := ⟨_, rfl⟩
  obtain ⟨m, hm⟩ : ∃ m, m = mM need total := ⟨_, rfl⟩
  have rN := mN_range need
  have rM := mM_range need total
  rw [← hn] at rN
  rw [← hn, ← hm] at rM
  have HN := Lib.hid hn
  have HMM := Lib.hid hm
  clear hn hm
  have D0 := Lib.hid (Below.refl w.heap.size w)
  go_enter Try.func5, Try.ntmps5
  go_wp2_with fail
  refine (head7_any _).mono ?_
  rintro e w1 ⟨rfl, hb⟩
  have D1 := Lib.hid (D0.out.trans (hb.mono D0.out.size))
  clear hb D0
  go_wp2_with fail
  refine (made_any qa mq cq q need total _ (HQ.out.bel D1.out) hqa5 hu1 hu2).mono ?_
  rintro e w2 ⟨v2, R, rfl, hO, hR, hE, hb⟩
  rw [← HN.out] at hR ⊢
  rw [← HMM.out]
  obtain ⟨a2, c2, rfl, j1, j2, j3⟩ := hO.at2 (n := n - 1) (by omega)
  have J2 := Lib.hid j3
  have HR := Lib.hid hR
  have ER := Lib.hid hE
  have D2 := Lib.hid (D1.out.trans (hb.mono D1.out.size))
  have B2 := Lib.hid hb
  clear hO j1 j2 j3 hR hE hb D1
  go_wp2_with fail
  refine (made_any ra mr cr r need total _ (HR0.out.bel D2.out) hra5 hu1 hu2).mono ?_
  rintro e w3 ⟨v3, R2, rfl, hO, hR, hE, hb⟩
  rw [← HN.out] at hR ⊢
  rw [← HMM.out]
  obtain ⟨a3, c3, rfl, j1, j2, j3⟩ := hO.at2 (n := n - 1) (by omega)
  have J3 := Lib.hid j3
  have HR2 := Lib.hid hR
  have ER2 := Lib.hid hE
  have D3 := Lib.hid (D2.out.trans (hb.mono D2.out.size))
  have B3 := Lib.hid hb
  clear hO j1 j2 j3 hR hE hb D2
  go_wp2_with fail
  have J2b := Lib.hid (J2.out.bel B3.out)
  clear J2 B2 B3
  refine (element_any s _).mono ?_
  rintro e w' ⟨rfl, rfl⟩
  go_wp2_with fail
  have hsp := split_made (elemF_el s) rN.1 rM.1 rM.2 HR.out ER.out
  have hsp2 := split_made (elemF_el s) rN.1 rM.1 rM.2 HR2.out ER2.out
  obtain ⟨x0, hx0⟩ : ∃ x, x = elemF s := ⟨_, rfl⟩
  rw [← hx0] at hsp hsp2 ⊢
  have HX := Lib.hid hx0
  have HSP2 := Lib.hid hsp2
  clear hx0 hsp2
  have k1 : n - 1 ≤ maxLen := max_small (by omega)
  have k2 : -9223372036854775808 ≤ (n : Int) ∧ (n : Int) ≤ 9223372036854775807 := by omega
  have K1 := Lib.hid k1
  have K2 := Lib.hid k2
  have k3 := pSplit_open x0 n m _ (n - 1) c2 R _ J2b.out k1 k2 hsp (m := m) (sharesL_len _ _).symm
  refine (k3).mono ?_
  rintro e w4 ⟨sb1, sc1, ⟨rfl, hq1, hq2, hq3⟩, hb⟩
  have D4 := Lib.hid (D3.out.trans (hb.mono D3.out.size))
  have Q1 := Lib.hid hq3
  have J2c := Lib.hid (J2b.out.bel hb)
  have J3c := Lib.hid (J3.out.bel hb)
  clear hq1 hq2 hq3 hsp k1 k2 k3 J2b J3
  clear hb D3
  go_wp2_with fail
  refine (element_any s _).mono ?_
  rintro e w' ⟨rfl, rfl⟩
  rw [← HX.out]
  go_wp2_with fail
  have k3 := pSplit_open x0 n m _ (n - 1) c3 R2 _ J3c.out K1.out K2.out HSP2.out (m := m) (sharesL_len _ _).symm
  refine (k3).mono ?_
  rintro e w5 ⟨sb2, sc2, ⟨rfl, hq1, hq2, hq3⟩, hb⟩
  have D5 := Lib.hid (D4.out.trans (hb.mono D4.out.size))
  have Q2 := Lib.hid hq3
  have Q1b := Lib.hid (Q1.out.bel hb)
  have J2d := Lib.hid (J2c.out.bel hb)
  have J3d := Lib.hid (J3c.out.bel hb)
  clear hq1 hq2 hq3 k3 J2c J3c Q1 HSP2 K1 K2 HX
  clear hb D4
  obtain ⟨N, hN⟩ : ∃ N : Nat, N = n - 1 := ⟨_, rfl⟩
  obtain rfl : n = N + 1 := by omega
  rw [show N + 1 - 1 = N from rfl] at *
  clear hN
  go_wp2_with fail
  have f0 : IntKind.i64.wrap (f : Int) = (f : Int) := IntWalk.i64_in _ (by omega)
  have fm : ((m : Int) == 0) = false := beq_eq_false_iff_ne.2 (by omega)
  have fm2 : ¬ m = 0 := by omega
  have hR1 : Hid (R.length = N) := Lib.hid (by have := HR.out; omega)
  have hR2 : Hid (R2.length = N) := Lib.hid (by have := HR2.out; omega)
  have E0 := Lib.hid (Below.refl w5.heap.size w5)
  go_loopw [24, 25, 26] (fun ee ss ii wr => ∃ (k : Nat) (b1 b2 : Bool), k ≤ N ∧ ee = .bool b1 ∧ ss = .bool b2 ∧ ii = .int .i64 (k : Int) ∧ Hid (b1 = true ↔ R.take k = R2.take k) ∧ Hid (b2 = true ↔ ∀ i, i < k → evF (plc f m i) (x0 :: R) = evF (plc f m i) (x0 :: R2)) ∧ Hid (Below w5.heap.size w5 wr)) (fun _ _ ii _ => N - (intOf ii).toNat)
  case atStart => exact ⟨0, true, true, by omega, rfl, rfl, rfl, Lib.hid (by simp), Lib.hid (by simp), E0⟩
  case round =>
    obtain ⟨k, b1, b2, hk, rfl, rfl, rfl, hb1, hb2, hD⟩ := hrel
    by_cases hkN : k < N
    · have hk1 : k < R.length := by rw [hR1.out]; exact hkN
      have hk2 : k < R2.length := by rw [hR2.out]; exact hkN
      obtain ⟨ba, oa, rfl, -⟩ := J2d.out.cells (by omega)
      obtain ⟨bb, ob, rfl, -⟩ := J3d.out.cells (by omega)
      obtain ⟨bc, oc, rfl, -⟩ := Q1b.out.cells (by omega)
      obtain ⟨bd, od, rfl, -⟩ := Q2.out.cells (by omega)
      obtain ⟨p, hp⟩ : ∃ p : Nat, p = (f + k) % m := ⟨_, rfl⟩
      have hpm : p < m := by rw [hp]; exact Nat.mod_lt _ (by omega)
      have hca := (J2d.out.bel hD.out).cell hk1
      have hcb := (J3d.out.bel hD.out).cell hk2
      obtain ⟨hcc1, hcc2⟩ := (Q1b.out.bel hD.out).cell (j := p) (by rw [sharesL_len]; exact hpm)
      obtain ⟨hcd1, hcd2⟩ := (Q2.out.bel hD.out).cell (j := p) (by rw [sharesL_len]; exact hpm)
      rw [sharesL_get _ hpm] at hcc1 hcc2 hcd1 hcd2
      obtain ⟨u, hu⟩ : ∃ u, u = (p : Int) + 1 := ⟨_, rfl⟩
      have hup : u = plc f m k := by rw [hu, hp]; rfl
      obtain ⟨ya, hya⟩ : ∃ y, y = evF u (x0 :: R) := ⟨_, rfl⟩
      obtain ⟨yb, hyb⟩ : ∃ y, y = evF u (x0 :: R2) := ⟨_, rfl⟩
      obtain ⟨ra_, hra⟩ : ∃ y, y = R[k] := ⟨_, rfl⟩
      obtain ⟨rb_, hrb⟩ : ∃ y, y = R2[k] := ⟨_, rfl⟩
      simp only [← hu, ← hya, ← hyb] at hcc1 hcc2 hcd1 hcd2
      rw [← hra] at hca
      rw [← hrb] at hcb
      have t1 := take_next hk1 hk2
      rw [← hra, ← hrb, ← hb1.out] at t1
      have T1 := Lib.hid t1
      have t2 := @all_next (fun i => evF (plc f m i) (x0 :: R) = evF (plc f m i) (x0 :: R2)) k
      simp only [← hup, ← hya, ← hyb, ← hb2.out] at t2
      have T2 := Lib.hid t2
      have f1 : ((f : Int) + (k : Int)).tmod (m : Int) = (p : Int) := by
        rw [Int.tmod_eq_emod_of_nonneg (by omega), hp]
        exact (Int.natCast_emod (f + k) m).symm
      have f2 : IntKind.i64.wrap ((f : Int) + (k : Int)) = (f : Int) + (k : Int) := IntWalk.i64_in _ (by omega)
      have f3 : IntKind.i64.wrap (p : Int) = (p : Int) := IntWalk.i64_in _ (by omega)
      have g1 : (0 : Int) ≤ (k : Int) := by omega
      have g2 : (k : Int) < (N : Int) := by omega
      have g3 : (0 : Int) ≤ (p : Int) := by omega
      have g4 : (p : Int) < (m : Int) := by omega
      have hne := run_eql_sh u ya u yb
      clear hp hu hup hya hyb hra hrb t1 t2
      have X1 : ∃ d1 : Bool, (b1 && (ra_ == rb_)) = d1 ∧ (d1 = true ↔ R.take (k + 1) = R2.take (k + 1)) := ⟨_, rfl, by rw [T1.out]; simp⟩
      have X2 : ∃ d2 : Bool, (b2 && (ya == yb)) = d2 ∧ (d2 = true ↔ ∀ i, i < k + 1 → evF (plc f m i) (x0 :: R) = evF (plc f m i) (x0 :: R2)) := ⟨_, rfl, by rw [T2.out]; simp⟩
      obtain ⟨d1, hd1, hx1⟩ := X1
      obtain ⟨d2, hd2, hx2⟩ := X2
      have HX1 := Lib.hid hx1
      have HX2 := Lib.hid hx2
      clear hx1 hx2 T1 T2 hb1 hb2
      have heq : eqS (u, ya) (u, yb) = (ya == yb) := by unfold eqS; simp
      rw [heq] at hne
      clear heq
      obtain ⟨z1, hz1⟩ : ∃ z, (ra_ == rb_) = z := ⟨_, rfl⟩
      obtain ⟨z2, hz2⟩ : ∃ z, (ya == yb) = z := ⟨_, rfl⟩
      rw [hz1] at hd1
      rw [hz2] at hd2 hne
      cases b1 <;> cases b2 <;> cases z1 <;> cases z2 <;> simp only [Bool.false_and, Bool.true_and] at hd1 hd2 <;> subst hd1 <;> subst hd2
      all_goals
        go_wp2_with fail
        go_quiet (fail)
        go_wp2_with fail
        go_quiet (fail)
        go_wp2_with fail
        go_roundw
        case rel => exact ⟨k + 1, _, _, by omega, rfl, rfl, by go_num, Lib.hid (by first | exact HX1.out | simpa using HX1.out), Lib.hid (by first | exact HX2.out | simpa using HX2.out), Lib.hid (below_drewN hD.out _)⟩
        case measure => simp [intOf]; omega
    · obtain rfl : k = N := by omega
      obtain rfl : b1 = b2 := differ_key ER.out ER2.out hR1.out hR2.out (by omega) rM.2 hb1.out hb2.out
      clear hb1 hb2
      cases b1 <;> (go_wp2_with fail; go_ret; exact ⟨rfl, D5.out.trans (hD.out.mono D5.out.size)⟩)
end Go.Proofs.Ytcdnddjoonecdaa
