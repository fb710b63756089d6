/-
  need - 1 shares say nothing of the secret (SharesHide, P7.3).
-/
import Derived.Test.YtcdnddjoonecdaaShHideP
import Derived.Deep.DeepCutAuto
set_option linter.unusedVariables false
set_option maxRecDepth 100000
namespace Go.Proofs.Ytcdnddjoonecdaa
open Go.RowKit
open Fdp
set_option maxHeartbeats 4000000 in
theorem walkSharesHide (s o_ : Int) (vq : Value) (q : List Int) (need total first_ : Int) (w : World) (hs64 : -9223372036854775808 ≤ s ∧ s ≤ 9223372036854775807) (ho64 : -9223372036854775808 ≤ o_ ∧ o_ ≤ 9223372036854775807) (hq : IntsOk w vq q) (hu1 : 0 ≤ need ∧ need ≤ 255) (hu2 : 0 ≤ total ∧ total ≤ 255) (hu3 : 0 ≤ first_ ∧ first_ ≤ 255) :
    Calls Try.prog 4 #[.int .i64 s, .int .i64 o_, vq, .int .u8 need, .int .u8 total, .int .u8 first_] w fun e w' => e = .returned (.bool true) ∧ Below w.heap.size w w' := by
  clear hs64 ho64
  obtain ⟨f, rfl⟩ : ∃ f : Nat, first_ = f := ⟨first_.toNat, by omega⟩
  obtain ⟨qa, cq, rfl, hqa1, hqa2, hqa3, hqa4⟩ := hq.form
  obtain ⟨mq, hnqa⟩ : ∃ n, n = q.length := ⟨_, rfl⟩
  rw [← hnqa] at hqa1 hqa4 ⊢
  have HQ := Lib.hid hqa4
  have hqa5 : mq ≤ maxLen := by omega
  clear hqa1 hqa2 hqa3 hqa4 hnqa hq
  obtain ⟨n, hn⟩ : ∃ n, n = mN need := ⟨_, rfl⟩
  obtain ⟨m, hm⟩ : ∃ m, m = mM need total := ⟨_, rfl⟩
  have rN := mN_range need
  have rM := mM_range need total
  rw [← hn] at rN
  rw [← hn, ← hm] at rM
  have HN := Lib.hid hn
  have HMM := Lib.hid hm
  clear hn hm
  have D0 := Lib.hid (Below.refl w.heap.size w)
  go_enter Try.func4, Try.ntmps4
  go_wp2_with fail
  refine (head7_any _).mono ?_
  rintro e w1 ⟨rfl, hb⟩
  have D1 := Lib.hid (D0.out.trans (hb.mono D0.out.size))
  clear hb D0
  go_wp2_with fail
  refine (made_any qa mq cq q need total _ (HQ.out.bel D1.out) hqa5 hu1 hu2).mono ?_
  rintro e w2 ⟨v2, R, rfl, hO, hR, hE, hb⟩
  rw [← HN.out] at hR ⊢
  rw [← HMM.out]
  obtain ⟨a2, c2, rfl, j1, j2, j3⟩ := hO.at2 (n := n - 1) (by omega)
  have J2 := Lib.hid j3
  have HR := Lib.hid hR
  have ER := Lib.hid hE
  have D2 := Lib.hid (D1.out.trans (hb.mono D1.out.size))
  have B2 := Lib.hid hb
  clear hO j1 j2 j3 hR hE hb D1
  go_wp2_with fail
  refine (element_any s _).mono ?_
  rintro e w' ⟨rfl, rfl⟩
  go_wp2_with fail
  have hsp := split_made (elemF_el s) rN.1 rM.1 rM.2 HR.out ER.out
  obtain ⟨x0, hx0⟩ : ∃ x, x = elemF s := ⟨_, rfl⟩
  have x0_el : El x0 := by rw [hx0]; exact elemF_el _
  obtain ⟨y0, hy0⟩ : ∃ x, x = elemF o_ := ⟨_, rfl⟩
  have y0_el : El y0 := by rw [hy0]; exact elemF_el _
  rw [← hx0] at hsp ⊢
  have HX := Lib.hid hx0
  have HY := Lib.hid hy0
  clear hx0 hy0
  have HXE := Lib.hid x0_el
  have HYE := Lib.hid y0_el
  clear x0_el y0_el
  have k1 : n - 1 ≤ maxLen := max_small (by omega)
  have k2 : -9223372036854775808 ≤ (n : Int) ∧ (n : Int) ≤ 9223372036854775807 := by omega
  have k3 := pSplit_open x0 n m _ (n - 1) c2 R _ J2.out k1 k2 hsp (m := m) (sharesL_len _ _).symm
  refine (k3).mono ?_
  rintro e w3 ⟨sb1, sc1, ⟨rfl, hq1, hq2, hq3⟩, hb⟩
  have D3 := Lib.hid (D2.out.trans (hb.mono D2.out.size))
  have Q1 := Lib.hid hq3
  clear hq1 hq2 hq3 hsp k1 k2 k3 J2 B2
  clear hb D2
  obtain ⟨N, hN⟩ : ∃ N : Nat, N = n - 1 := ⟨_, rfl⟩
  obtain rfl : n = N + 1 := by omega
  rw [show N + 1 - 1 = N from rfl] at *
  clear hN
  go_wp2_with fail
  refine (element_any o_ _).mono ?_
  rintro e w' ⟨rfl, rfl⟩
  rw [← HY.out]
  obtain ⟨c0, hc0⟩ : ∃ c, c = x0 :: R := ⟨_, rfl⟩
  rw [← hc0] at Q1
  clear hc0
  have T0 : Hid (TwoP w3.heap.size (w3.alloc (Obj.cells #[Value.int .i64 0, Value.int .i64 y0] 35)) (.slice (some ⟨w3.heap.size, 0, none⟩) 1 1) (.slice none 0 0) (ptsH y0 c0 f m 0) (plcL f m 0)) := Lib.hid ⟨own_oneP (heap_lastF w3 _) (Nat.le_refl _), World.ownsRow_nil _ _ _ _⟩
  have E0 : Hid (Below w3.heap.size w3 (w3.alloc (Obj.cells #[Value.int .i64 0, Value.int .i64 y0] 35))) := Lib.hid ((Below.refl _ _).alloc (Nat.le_refl _) _)
  go_wp2_with fail
  have f0 : IntKind.i64.wrap (f : Int) = (f : Int) := IntWalk.i64_in _ (by omega)
  have fm : ((m : Int) == 0) = false := beq_eq_false_iff_ne.2 (by omega)
  have fm2 : ¬ m = 0 := by omega
  go_loopw [19, 20, 21] (fun v1 v2 ii wr => ∃ k : Nat, k ≤ N ∧ ii = .int .i64 (k : Int) ∧ Hid (TwoP w3.heap.size wr v1 v2 (ptsH y0 c0 f m k) (plcL f m k)) ∧ Hid (Below w3.heap.size w3 wr)) (fun _ _ ii _ => N - (intOf ii).toNat)
  case atStart => exact ⟨0, by omega, rfl, T0, E0⟩
  case round =>
    clear T0 E0
    obtain ⟨k, hk, rfl, hT, hD⟩ := hrel
    by_cases hkN : k < N
    · obtain ⟨bc, oc, rfl, -⟩ := Q1.out.cells (by omega)
      obtain ⟨p, hp⟩ : ∃ p : Nat, p = (f + k) % m := ⟨_, rfl⟩
      have hpm : p < m := by rw [hp]; exact Nat.mod_lt _ (by omega)
      obtain ⟨u, hu⟩ : ∃ u, u = (p : Int) + 1 := ⟨_, rfl⟩
      have hup : u = plc f m k := by rw [hu, hp]; rfl
      obtain ⟨ya, hya⟩ : ∃ y, y = evF u c0 := ⟨_, rfl⟩
      have HN1 : Hid (ptsH y0 c0 f m (k + 1) = ptsH y0 c0 f m k ++ [(u, ya)]) := Lib.hid (by rw [ptsH_next, hya, hup])
      have HN2 : Hid (plcL f m (k + 1) = plcL f m k ++ [(p : Int)]) := Lib.hid (by rw [plcL_next, hp])
      have f1 : ((f : Int) + (k : Int)).tmod (m : Int) = (p : Int) := by
        rw [Int.tmod_eq_emod_of_nonneg (by omega), hp]
        exact (Int.natCast_emod (f + k) m).symm
      have f2 : IntKind.i64.wrap ((f : Int) + (k : Int)) = (f : Int) + (k : Int) := IntWalk.i64_in _ (by omega)
      have f3 : IntKind.i64.wrap (p : Int) = (p : Int) := IntWalk.i64_in _ (by omega)
      have g3 : (0 : Int) ≤ (p : Int) := by omega
      have g4 : (p : Int) < (m : Int) := by omega
      have HU := Lib.hid hu
      have HYA := Lib.hid hya
      have hl1 : Hid ((plcL f m k).length + 1 ≤ 1000000) := Lib.hid (by rw [plcL_len]; omega)
      have hl2 : Hid ((ptsH y0 c0 f m k).length + 1 ≤ 1000000) := Lib.hid (by rw [ptsH_len]; omega)
      have hbW : Below wr.heap.size wr (wr.alloc (Obj.cells #[Value.int .i64 (p : Int)] 3)) := (Below.refl _ _).alloc (Nat.le_refl _) _
      have T1 := Lib.hid (hT.out.bel hbW)
      have Z1 := Lib.hid (hD.out.trans (hbW.mono hD.out.size))
      clear hp hu hup hya hT hD hbW
      go_wp2_with (at_builtin; refine wpList_catI _ rfl _ _ rfl w3.heap.size _ (plcL f m k) [(p : Int)] _ 1 1 rfl rfl T1.out.mO (ints_one _ _ (by simp)) (fun h => by cases h) hl1.out Z1.out.size ?_)
      intro v6 w6 hO6 hg6 ha6
      have T2 : Hid (TwoP w3.heap.size w6 _ v6 (ptsH y0 c0 f m k) (plcL f m (k + 1))) := Lib.hid (T1.out.appM (by rw [HN2.out]; exact hO6) hg6)
      have Z2 := Lib.hid (below_app Z1.out Z1.out.size T1.out.mO hg6)
      clear hO6 hg6 ha6 T1 Z1
      obtain ⟨hcc1, hcc2⟩ := (Q1.out.bel Z2.out).cell (j := p) (by rw [sharesL_len]; exact hpm)
      rw [sharesL_get _ hpm] at hcc1 hcc2
      simp only [← HU.out, ← HYA.out] at hcc1 hcc2
      have hbWa : Below w6.heap.size w6 ((w6.alloc (Obj.cells #[Value.int .i64 u, Value.int .i64 ya] 35)).drew) := ((Below.refl _ _).alloc (Nat.le_refl _) _).drew
      have T3a := Lib.hid (T2.out.bel hbWa)
      have Z3a := Lib.hid (Z2.out.trans (hbWa.mono Z2.out.size))
      have hbWb : Below w6.heap.size w6 (w6.drew.alloc (Obj.cells #[Value.int .i64 u, Value.int .i64 ya] 35)) := ((Below.refl w6.heap.size w6).drew.alloc (Nat.le_refl _) _)
      have T3b := Lib.hid (T2.out.bel hbWb)
      have Z3b := Lib.hid (Z2.out.trans (hbWb.mono Z2.out.size))
      have P3a : Hid (PtsAt ((w6.alloc (Obj.cells #[Value.int .i64 u, Value.int .i64 ya] 35)).drew) (some ⟨w6.heap.size, 0, none⟩) 1 [(u, ya)]) := Lib.hid ((pts_one w6 u ya rfl).bel ((Below.refl _ _).drew))
      have P3b : Hid (PtsAt (w6.drew.alloc (Obj.cells #[Value.int .i64 u, Value.int .i64 ya] 35)) (some ⟨w6.heap.size, 0, none⟩) 1 [(u, ya)]) := Lib.hid (pts_one w6.drew u ya rfl)
      clear hbWa hbWb T2 Z2
      go_wp2_with fail
      go_region_law (first | (refine step_catP _ (by rfl) _ _ (by rfl) w3.heap.size _ (ptsH y0 c0 f m k) [(u, ya)] _ 1 1 (by rfl) (by rfl) T3a.out.sO P3a.out (fun h => by cases h) hl2.out Z3a.out.size ?_; intro v7 w7 hO7 hg7; have T7 : Hid (TwoP w3.heap.size w7 v7 _ (ptsH y0 c0 f m (k + 1)) (plcL f m (k + 1))) := Lib.hid (T3a.out.appS (by rw [HN1.out]; exact hO7) hg7); have Z7 := Lib.hid (below_app Z3a.out Z3a.out.size T3a.out.sO hg7); clear hO7 hg7) | (refine step_catP _ (by rfl) _ _ (by rfl) w3.heap.size _ (ptsH y0 c0 f m k) [(u, ya)] _ 1 1 (by rfl) (by rfl) T3b.out.sO P3b.out (fun h => by cases h) hl2.out Z3b.out.size ?_; intro v7 w7 hO7 hg7; have T7 : Hid (TwoP w3.heap.size w7 v7 _ (ptsH y0 c0 f m (k + 1)) (plcL f m (k + 1))) := Lib.hid (T3b.out.appS (by rw [HN1.out]; exact hO7) hg7); have Z7 := Lib.hid (below_app Z3b.out Z3b.out.size T3b.out.sO hg7); clear hO7 hg7) | fail "no arm")
      all_goals
        go_wp2_with fail
        go_roundw
        case rel => exact ⟨k + 1, by omega, by go_num, T7, Z7⟩
        case measure => simp [intOf]; omega
    · obtain rfl : k = N := by omega
      obtain ⟨pa, pc, rfl, j1, j2, j3⟩ := hT.out.sO.at2 (n := k + 1) (ptsH_len _ _ _ _ _).symm
      obtain ⟨ia, ic, rfl, i1, i2, i3⟩ := hT.out.mO.at2 (n := k) (plcL_len _ _ _).symm
      have JP := Lib.hid j3
      have JI := Lib.hid i3
      clear hT j1 j2 j3 i1 i2 i3
      go_wp2_with fail
      refine (lthrough_any pa (k + 1) pc (ptsH y0 c0 f m k) _ JP.out (by omega) (ptsH_pairs HYE.out (by omega) rM.2) (ptsH_diff (by omega) (by omega) rM.2)).mono ?_
      rintro e w8 ⟨R0, o, rfl, hR, hRB, hO, hb⟩
      obtain ⟨r, rfl, hrl, hre, hrv⟩ := hide_ok HYE.out rM.1 rM.2 hO
      have RB := Lib.hid hR
      have JI8 := Lib.hid (JI.out.bel hb)
      have Z8 := Lib.hid (hD.out.trans (hb.mono hD.out.size))
      have HRL := Lib.hid hrl
      have HRV := Lib.hid hrv
      have hsp2 := split_made (n := k + 1) (m := m) (R := r) HYE.out (by omega) rM.1 rM.2 (by omega) hre
      have HS2 := Lib.hid hsp2
      have h0 := RB.out.cell (j := 0) (by simp)
      simp only [List.getElem_cons_zero] at h0
      have cE : Hid (∀ w : World, Calls Try.prog 11 #[.int .i64 o_] w fun e w' => e = .returned (.int .i64 y0) ∧ w = w') := Lib.hid (fun w => by rw [HY.out]; exact element_any o_ w)
      have cS : Hid (∀ (w : World) (a : Option Addr) (cap : Nat), IntsAt w a k r → Calls Try.prog 10 #[.int .i64 y0, .int .i64 ((k : Int) + 1), .int .i64 (m : Int), .slice a k cap] w fun e w' => ∃ b c, (e = .returned (.tuple #[.slice b m c, .int .i64 0]) ∧ m ≤ c ∧ c ≤ maxLen ∧ PtsAt w' b m (sharesL (y0 :: r) m)) ∧ Below w.heap.size w w') := Lib.hid (fun w a cap h => pSplit_open y0 ((k : Int) + 1) m a k cap r w h (max_small (by omega)) (by omega) HS2.out (m := m) (sharesL_len _ _).symm)
      clear hR hO hb hrl hre hrv hsp2 hD JP JI
      go_wp2_with fail
      go_quiet ((go_at_call 11; exact quiet_same (cE.out _)))
      go_wp2_with fail
      by_cases hk0 : k = 0
      · have cS0 : Hid (∀ w : World, Calls Try.prog 10 #[.int .i64 y0, .int .i64 1, .int .i64 (m : Int), .slice (some ⟨R0, 0, none⟩) 0 0] w fun e w' => ∃ b c, (e = .returned (.tuple #[.slice b m c, .int .i64 0]) ∧ m ≤ c ∧ c ≤ maxLen ∧ PtsAt w' b m (sharesL (y0 :: r) m)) ∧ Below w.heap.size w w') := Lib.hid (fun w => by
          subst hk0
          exact cS.out w _ 0 ⟨HRL.out.symm, fun h => absurd h (by decide)⟩)
        go_region_law (first | (go_simp; go_at_call 11; refine (cE.out _).mono ?_; rintro e w' ⟨rfl, rfl⟩) | (go_simp; go_at_call 10; refine (cS0.out _).mono ?_; rintro e w9 ⟨sb2, sc2, ⟨rfl, hq1, hq2, hq3⟩, hb9⟩; have Q2 := Lib.hid hq3; have B9 := Lib.hid hb9; clear hq1 hq2 hq3 hb9) | fail "no arm")
        all_goals
          have Z9 := Lib.hid ((below_drewN Z8.out _).trans (B9.out.mono (below_drewN Z8.out _).size))
          have E9 := Lib.hid (Below.refl w9.heap.size w9)
          clear B9
          go_wp2_with fail
          go_loopw [26] (fun ii wx => ∃ i : Nat, i ≤ k ∧ ii = .int .i64 (i : Int) ∧ Hid (Below w9.heap.size w9 wx)) (fun ii _ => k - (intOf ii).toNat)
          case atStart => exact ⟨0, by omega, rfl, E9⟩
          case round =>
            obtain ⟨i, hi, rfl, hD2⟩ := hrel
            obtain rfl : i = 0 := by omega
            go_wp2_with fail
            go_ret
            exact ⟨rfl, D3.out.trans ((Z9.out.trans (hD2.out.mono Z9.out.size)).mono D3.out.size)⟩
      · have hle : (1 : Int) ≤ (k : Int) + 1 := by omega
        go_region_law (first | (go_simp; go_at_call 11; refine (cE.out _).mono ?_; rintro e w' ⟨rfl, rfl⟩) | (go_simp; go_at_call 10; refine (cS.out _ _ _ (row_tail (RB.out.bel (below_drewN (Below.refl _ _) _)) HRL.out.symm)).mono ?_; rintro e w9 ⟨sb2, sc2, ⟨rfl, hq1, hq2, hq3⟩, hb9⟩; have Q2 := Lib.hid hq3; have B9 := Lib.hid hb9; clear hq1 hq2 hq3 hb9) | fail "no arm")
        all_goals
          have Z9 := Lib.hid ((below_drewN Z8.out _).trans (B9.out.mono (below_drewN Z8.out _).size))
          have JI9 := Lib.hid ((JI8.out.bel (below_drewN (Below.refl _ _) _)).bel B9.out)
          have E9 := Lib.hid (Below.refl w9.heap.size w9)
          clear B9
          go_wp2_with fail
          go_loopw [26] (fun ii wx => ∃ i : Nat, i ≤ k ∧ ii = .int .i64 (i : Int) ∧ Hid (Below w9.heap.size w9 wx)) (fun ii _ => k - (intOf ii).toNat)
          case atStart => exact ⟨0, by omega, rfl, E9⟩
          case round =>
            obtain ⟨i, hi, rfl, hD2⟩ := hrel
            by_cases hik : i < k
            · obtain ⟨bi, oi, rfl, -⟩ := JI9.out.cells (by omega)
              obtain ⟨bc, oc, rfl, -⟩ := Q1.out.cells (by omega)
              obtain ⟨bd, od, rfl, -⟩ := Q2.out.cells (by omega)
              have hcp := (JI9.out.bel hD2.out).cell (j := i) (by rw [plcL_len]; exact hik)
              rw [plcL_get hik] at hcp
              have hv := HRV.out i hik
              obtain ⟨p, hp⟩ : ∃ p : Nat, p = (f + i) % m := ⟨_, rfl⟩
              have hpm : p < m := by rw [hp]; exact Nat.mod_lt _ (by omega)
              rw [← hp] at hcp
              obtain ⟨hcc1, hcc2⟩ := (Q1.out.bel (Z9.out.trans (hD2.out.mono Z9.out.size))).cell (j := p) (by rw [sharesL_len]; exact hpm)
              obtain ⟨hcd1, hcd2⟩ := (Q2.out.bel hD2.out).cell (j := p) (by rw [sharesL_len]; exact hpm)
              rw [sharesL_get _ hpm] at hcc1 hcc2 hcd1 hcd2
              obtain ⟨u, hu⟩ : ∃ u, u = (p : Int) + 1 := ⟨_, rfl⟩
              have hup : plc f m i = u := by rw [hu, hp]; rfl
              rw [hup] at hv
              obtain ⟨ya, hya⟩ : ∃ y, y = evF u c0 := ⟨_, rfl⟩
              rw [← hya] at hv
              simp only [← hu, ← hya, hv] at hcc1 hcc2 hcd1 hcd2
              have hne := run_neq_sh u ya u ya
              have heq : eqS (u, ya) (u, ya) = true := eqS_iff.2 rfl
              rw [heq] at hne
              have g1 : (0 : Int) ≤ (i : Int) := by omega
              have g2 : (i : Int) < (k : Int) := by omega
              have g3 : (0 : Int) ≤ (p : Int) := by omega
              have g4 : (p : Int) < (m : Int) := by omega
              clear hp hu hup hya hv heq
              go_wp2_with fail
              go_quiet (fail)
              go_wp2_with fail
              go_roundw
              case rel => exact ⟨i + 1, by omega, by go_num, Lib.hid (below_drewN hD2.out _)⟩
              case measure => simp [intOf]; omega
            · obtain rfl : i = k := by omega
              go_wp2_with fail
              go_ret
              exact ⟨rfl, D3.out.trans ((Z9.out.trans (hD2.out.mono Z9.out.size)).mono D3.out.size)⟩
end Go.Proofs.Ytcdnddjoonecdaa
