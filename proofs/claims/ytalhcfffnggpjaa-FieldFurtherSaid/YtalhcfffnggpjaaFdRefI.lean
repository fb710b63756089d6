/-
  The document's own Interpolate (layer 6).
-/
import Derived.Test.YtalhcfffnggpjaaFdRefP
set_option linter.unusedVariables false
set_option maxRecDepth 100000
namespace Go.Proofs.Ytalhcfffnggpjaa
open Go.RowKit
open Fdp
set_option maxHeartbeats 4000000 in
theorem refInter_any (a : Option Addr) (n cap : Nat) (l : List (Int × Int)) (x : Int) (w : World) (h : PtsAt w a n l) (hn : n ≤ maxLen) :
    Calls Try.prog 20 #[.slice a n cap, .int .i64 x] w (GivesN (interE l x) w) := by
  have hn' : n ≤ 9223372036854775807 := by unfold maxLen at hn; omega
  have HH := Lib.hid h
  have HL := Lib.hid h.len
  clear h hn
  by_cases h1 : 1 ≤ n ∧ n ≤ 16
  · have HLL : Hid (1 ≤ l.length ∧ l.length ≤ 16) := Lib.hid (by rw [← HL.out]; exact h1)
    obtain ⟨h1, h16⟩ := h1
    have g1 : ¬ n < 1 := by omega
    have g16 : ¬ 16 < n := by omega
    cases hX : okE x with
    | false =>
      rw [interE_x hX]
      have HX := Lib.hid hX
      clear hX
      go_enter Try.func20, Try.ntmps20
      go_wp2_with fail
      refine (refin_no _ _ HX.out).mono ?_
      rintro e w' ⟨rfl, rfl⟩
      go_wp2_with fail
      go_ret2
      exact ⟨rfl, Below.refl _ _⟩
    | true =>
      have HX := Lib.hid hX
      have HO := Lib.hid (okE_iff.1 hX)
      clear hX
      have D0 : Hid (Below w.heap.size w w) := Lib.hid (Below.refl _ _)
      go_enter Try.func20, Try.ntmps20
      go_wp2_with fail
      refine (refin_yes _ _ HX.out).mono ?_
      rintro e w' ⟨rfl, rfl⟩
      go_wp2_with fail
      go_loop [6] (fun ii => ∃ k : Nat, k ≤ n ∧ ii = .int .i64 (k : Int) ∧ Hid (∀ j (hj : j < l.length), j < k → okE l[j].1 = true ∧ okE l[j].2 = true)) (fun ii => n - (intOf ii).toNat)
      case atStart => exact ⟨0, by omega, rfl, (show _ from fun j _ h => absurd h (by omega))⟩
      case round =>
        obtain ⟨k, hk, rfl, hx⟩ := hrel
        by_cases hlt : k < n
        · obtain ⟨b, off, rfl, -⟩ := HH.out.cells h1
          have hkl : k < l.length := by rw [← HL.out]; exact hlt
          obtain ⟨hc1, hc2⟩ := HH.out.cell hkl
          obtain ⟨u, hu⟩ : ∃ u, u = l[k].1 := ⟨_, rfl⟩
          rw [← hu] at hc1
          obtain ⟨v, hv⟩ : ∃ v, v = l[k].2 := ⟨_, rfl⟩
          rw [← hv] at hc2
          have HU := Lib.hid hu
          have HV := Lib.hid hv
          clear hu hv
          cases h3 : okE u with
          | false =>
            have hb : Hid (interE l x = (0, 1)) := Lib.hid (interE_p (pairsE_no hkl (.inl (by rw [← HU.out]; exact h3))))
            have H3 := Lib.hid h3
            clear h3
            go_wp2_with fail
            refine (refin_no _ _ H3.out).mono ?_
            rintro e w' ⟨rfl, rfl⟩
            go_wp2_with fail
            go_ret2
            exact ⟨by rw [hb.out]; rfl, D0.out⟩
          | true =>
            have H3 := Lib.hid h3
            clear h3
            cases h4 : okE v with
            | false =>
              have hb : Hid (interE l x = (0, 1)) := Lib.hid (interE_p (pairsE_no hkl (.inr (by rw [← HV.out]; exact h4))))
              have H4 := Lib.hid h4
              clear h4
              go_wp2_with fail
              refine (refin_yes _ _ H3.out).mono ?_
              rintro e w' ⟨rfl, rfl⟩
              go_wp2_with fail
              refine (refin_no _ _ H4.out).mono ?_
              rintro e w' ⟨rfl, rfl⟩
              go_wp2_with fail
              go_ret2
              exact ⟨by rw [hb.out]; rfl, D0.out⟩
            | true =>
              have H4 := Lib.hid h4
              clear h4
              go_wp2_with fail
              refine (refin_yes _ _ H3.out).mono ?_
              rintro e w' ⟨rfl, rfl⟩
              go_wp2_with fail
              refine (refin_yes _ _ H4.out).mono ?_
              rintro e w' ⟨rfl, rfl⟩
              go_wp2_with fail
              go_round
              case rel =>
                refine ⟨k + 1, by omega, by go_num, (show _ from fun j hj h => ?_)⟩
                by_cases e : j = k
                · subst e; rw [← HU.out, ← HV.out]; exact ⟨H3.out, H4.out⟩
                · exact hx.out j hj (by omega)
              case measure => simp [intOf]; omega
        · obtain rfl : k = n := by omega
          have HP : Hid (pairsE l = true) := Lib.hid (pairsE_upto fun j hj => hx.out j hj (by rw [HL.out]; exact hj))
          clear hx
          go_wp2_with fail
          go_loopw [7, 8] (fun ss ii wr => ∃ (s : Int) (i : Nat), i ≤ k ∧ ss = .int .i64 s ∧ ii = .int .i64 (i : Int) ∧ Hid (0 ≤ s ∧ s < 2147483647) ∧ Hid (LagS l x i s) ∧ Hid (Apart l i 0) ∧ Hid (Below w.heap.size w wr)) (fun _ ii _ => k - (intOf ii).toNat)
          case atStart => exact ⟨0, 0, by omega, rfl, rfl, Lib.hid (by omega), Lib.hid (LagS.start l x), Lib.hid (Apart.start l), D0⟩
          case round =>
            obtain ⟨s, i, hi, rfl, rfl, hs, hG, hAp, hD⟩ := hrel
            by_cases hik : i < k
            · obtain ⟨b, off, rfl, -⟩ := HH.out.cells h1
              have hil : i < l.length := by rw [← HL.out]; exact hik
              obtain ⟨hc1, hc2⟩ := (HH.out.bel hD.out).cell hil
              obtain ⟨p, hpp⟩ : ∃ p, p = Xp l i := ⟨_, rfl⟩
              obtain ⟨y, hy⟩ : ∃ y, y = Yp l i := ⟨_, rfl⟩
              rw [← Xp_get hil, ← hpp] at hc1
              rw [← Yp_get hil, ← hy] at hc2
              have hpr : Hid (0 ≤ p ∧ p < 2147483647) := Lib.hid (by rw [hpp, Xp_get hil]; exact (pairsE_iff.1 HP.out _ (List.getElem_mem _)).1)
              have hyr : Hid (0 ≤ y ∧ y < 2147483647) := Lib.hid (by rw [hy, Yp_get hil]; exact (pairsE_iff.1 HP.out _ (List.getElem_mem _)).2)
              have hM : Hid (Mults l x i 0 y 1) := Lib.hid (Mults.start hy hyr.out)
              have HPP := Lib.hid hpp
              have HY := Lib.hid hy
              clear hpp hy
              go_wp2_with fail
              obtain ⟨wo, rfl⟩ : ∃ wo : World, wo = wr := ⟨_, rfl⟩
              clear hc1 hc2
              go_loopw [9, 10, 11] (fun uu vv kk wr => ∃ (u v : Int) (m : Nat), m ≤ k ∧ uu = .int .i64 u ∧ vv = .int .i64 v ∧ kk = .int .i64 (m : Int) ∧ Hid (Mults l x i m u v) ∧ Hid (Apart l i m) ∧ Hid (Below w.heap.size w wr)) (fun _ _ kk _ => k - (intOf kk).toNat)
              case atStart => exact ⟨y, 1, 0, by omega, rfl, rfl, rfl, hM, hAp, hD⟩
              case round =>
                clear hM hAp hD
                obtain ⟨u, v, m, hm, rfl, rfl, rfl, hM, hAp, hD⟩ := hrel
                by_cases hmk : m < k
                · have hml : m < l.length := by rw [← HL.out]; exact hmk
                  by_cases hmi : m = i
                  · subst hmi
                    go_wp2_with fail
                    go_roundw
                    case rel => exact ⟨u, v, m + 1, by omega, rfl, rfl, by go_num, Lib.hid (hM.out.skip hil), Lib.hid hAp.out.skip, hD⟩
                    case measure => simp [intOf]; omega
                  · have c1 : ((m : Int) == (i : Int)) = false := beq_eq_false_iff_ne.2 (by omega)
                    have c2 : (m == i) = false := by simpa using hmi
                    obtain ⟨q, hq⟩ : ∃ q, q = Xp l m := ⟨_, rfl⟩
                    have hcm := ((HH.out.bel hD.out).cell hml).1
                    have hci := ((HH.out.bel hD.out).cell hil).1
                    rw [← Xp_get hml, ← hq] at hcm
                    rw [← Xp_get hil, ← HPP.out] at hci
                    have hqr : Hid (0 ≤ q ∧ q < 2147483647) := Lib.hid (by rw [hq, Xp_get hml]; exact (pairsE_iff.1 HP.out _ (List.getElem_mem _)).1)
                    have hM2 : Hid (Mults l x i (m + 1) (mulF u (difF x q)) (mulF v (difF p q))) := Lib.hid (hM.out.next hml hmi HPP.out hq)
                    have b1 : (0 : Int) ≤ (m : Int) := by omega
                    have b2 : (m : Int) < (k : Int) := by omega
                    have b3 : (0 : Int) ≤ (i : Int) := by omega
                    have b4 : (i : Int) < (k : Int) := by omega
                    have HMI : Hid (m ≠ i) := Lib.hid hmi
                    clear hmi
                    by_cases hqp : q = p
                    · have hb : Hid (interE l x = (0, 8)) := Lib.hid (interE_twice HLL.out HP.out HX.out (apart_no hil hml HMI.out (by rw [← hq, ← HPP.out]; exact hqp)))
                      have c3 : (q == p) = true := by rw [hqp]; simp
                      clear hqp hq
                      go_wp2_with fail
                      go_quiet (fail)
                      go_wp2_with fail
                      go_ret2
                      exact ⟨by rw [hb.out]; rfl, below_drewN hD.out _⟩
                    · have hA2 : Hid (Apart l i (m + 1)) := Lib.hid (hAp.out.next (by rw [← HPP.out, ← hq]; exact fun e => hqp e.symm))
                      have c3 : (q == p) = false := by simpa using hqp
                      have HQ := Lib.hid hq
                      clear hqp hq
                      go_wp2_with fail
                      go_quiet (fail)
                      go_wp2_with fail
                      generalize hwd : World.drewN wr _ = wd
                      have hD2 : Hid (Below w.heap.size w wd) := Lib.hid (by rw [← hwd]; exact below_drewN hD.out _)
                      clear hwd hcm hci hD
                      have hcm := ((HH.out.bel hD2.out).cell hml).1
                      have hci := ((HH.out.bel hD2.out).cell hil).1
                      rw [← Xp_get hml, ← HQ.out] at hcm
                      rw [← Xp_get hil, ← HPP.out] at hci
                      refine (refdif_any _ _ _ HO.out hqr.out).mono ?_
                      rintro e w' ⟨rfl, rfl⟩
                      go_wp2_with fail
                      refine (refprod_any _ _ _ hM.out.ur (difF_range _ _)).mono ?_
                      rintro e w' ⟨rfl, rfl⟩
                      go_wp2_with fail
                      go_quiet ((first | (go_at_call 37; exact quiet_same (refdif_any _ _ _ hpr.out hqr.out)) | (go_at_call 30; exact quiet_same (refprod_any _ _ _ hM.out.vr (difF_range _ _)))))
                      go_wp2_with fail
                      go_roundw
                      case rel => exact ⟨_, _, m + 1, by omega, rfl, rfl, by go_num, hM2, hA2, Lib.hid (below_drewN hD2.out _)⟩
                      case measure => simp [intOf]; omega
                · obtain rfl : m = k := by omega
                  have hMl : Hid (Mults l x i l.length u v) := Lib.hid (by rw [← HL.out]; exact hM.out)
                  have hG2 : Hid (LagS l x (i + 1) (sumF s (mulF u (ivI v)))) := Lib.hid (hG.out.next hMl.out)
                  have hA2 : Hid (Apart l (i + 1) 0) := Lib.hid (Apart.row (by rw [← HL.out]; exact hAp.out))
                  obtain ⟨g, hg⟩ : ∃ g, g = mulF u (ivI v) := ⟨_, rfl⟩
                  have hgr : 0 ≤ g ∧ g < 2147483647 := by rw [hg]; exact mulF_range _ _
                  rw [← hg] at hG2
                  have hss := hs.out
                  have e1 : IntKind.i64.wrap (s + g) = s + g := IntWalk.i64_in _ (by omega)
                  have e2 : (s + g).tmod 2147483647 = sumF s g := by rw [Int.tmod_eq_emod_of_nonneg (by omega)]; rfl
                  have e3 : IntKind.i64.wrap (sumF s g) = sumF s g := IntWalk.i64_in _ (by have := sumF_range s g; omega)
                  have hpm : Hid (∀ w', Calls Try.prog 30 #[.int .i64 u, .int .i64 (ivI v)] w' fun e w'' => e = .returned (.int .i64 g) ∧ w' = w'') := Lib.hid (fun w' => by rw [hg]; exact refprod_any _ _ _ hM.out.ur (ivI_range v))
                  have HG := Lib.hid hg
                  clear hg hgr hss
                  go_wp2_with fail
                  refine (refinv_any _ _ hM.out.vr).mono ?_
                  rintro e w' ⟨rfl, rfl⟩
                  go_wp2_with fail
                  refine (hpm.out _).mono ?_
                  rintro e w' ⟨rfl, rfl⟩
                  go_wp2_with fail
                  go_roundw
                  case rel => exact ⟨_, i + 1, by omega, rfl, by go_num, Lib.hid (sumF_range _ _), hG2, hA2, hD⟩
                  case measure => simp [intOf]; omega
            · obtain rfl : i = k := by omega
              have e : s = interF l x := (show LagS l x l.length s from by rw [← HL.out]; exact hG.out).done hs.out
              have hb : Hid (interE l x = (interF l x, 0)) := Lib.hid (interE_ok HLL.out HP.out HX.out (Apart.done (by rw [← HL.out]; exact hAp.out)))
              subst e
              go_wp2_with fail
              go_ret2
              exact ⟨by rw [hb.out]; rfl, hD.out⟩
  · rw [interE_len (by rw [← HL.out]; exact h1)]
    by_cases g1 : n < 1
    · have hn0 : n ≤ 16 := by omega
      clear h1
      go_enter Try.func20, Try.ntmps20
      go_wp2_with fail
      go_ret2
      exact ⟨rfl, Below.refl _ _⟩
    · have g16 : 16 < n := by omega
      clear h1
      go_enter Try.func20, Try.ntmps20
      go_wp2_with fail
      go_ret2
      exact ⟨rfl, Below.refl _ _⟩
end Go.Proofs.Ytalhcfffnggpjaa
