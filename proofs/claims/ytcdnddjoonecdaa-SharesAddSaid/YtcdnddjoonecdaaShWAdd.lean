/-
  The sums of the shares of two secrets are joined to their sum (SharesAdd, P7.6).
-/
import Derived.Test.YtcdnddjoonecdaaShSums
set_option linter.unusedVariables false
set_option maxRecDepth 100000
namespace Go.Proofs.Ytcdnddjoonecdaa
open Go.RowKit
open Fdp
set_option maxHeartbeats 4000000 in
theorem walkSharesAdd (s o_ : Int) (vq : Value) (q : List Int) (vr : Value) (r : List Int) (need total : Int) (w : World) (hs64 : -9223372036854775808 ≤ s ∧ s ≤ 9223372036854775807) (ho64 : -9223372036854775808 ≤ o_ ∧ o_ ≤ 9223372036854775807) (hq : IntsOk w vq q) (hr : IntsOk w vr r) (hu1 : 0 ≤ need ∧ need ≤ 255) (hu2 : 0 ≤ total ∧ total ≤ 255) :
    Calls Try.prog 7 #[.int .i64 s, .int .i64 o_, vq, vr, .int .u8 need, .int .u8 total] w fun e w' => e = .returned (.bool true) ∧ Below w.heap.size w w' := by
  clear hs64 ho64
  obtain ⟨qa, cq, rfl, hqa1, hqa2, hqa3, hqa4⟩ := hq.form
  obtain ⟨mq, hnqa⟩ : ∃ n, n = q.length := ⟨_, rfl⟩
  rw [← hnqa] at hqa1 hqa4 ⊢
  have HQ := Lib.hid hqa4
  have hqa5 : mq ≤ maxLen := by omega
  clear hqa1 hqa2 hqa3 hqa4 hnqa hq
  obtain ⟨ra, cr, rfl, hra1, hra2, hra3, hra4⟩ := hr.form
  obtain ⟨mr, hnra⟩ : ∃ n, n = r.length := ⟨_, rfl⟩
  rw [← hnra] at hra1 hra4 ⊢
  have HR0 := Lib.hid hra4
  have hra5 : mr ≤ maxLen := by omega
  clear hra1 hra2 hra3 hra4 hnra hr
  obtain ⟨n, hn⟩ : ∃ n, n = mN need := ⟨_, rfl⟩
  obtain ⟨m, hm⟩ : ∃ m, m = mM need total := ⟨_, rfl⟩
  have rN := mN_range need
  have rM := mM_range need total
  rw [← hn] at rN
  rw [← hn, ← hm] at rM
  have HN := Lib.hid hn
  have HMM := Lib.hid hm
  clear hn hm
  have D0 := Lib.hid (Below.refl w.heap.size w)
  go_enter Try.func7, Try.ntmps7
  go_wp2_with fail
  refine (head7_any _).mono ?_
  rintro e w1 ⟨rfl, hb⟩
  have D1 := Lib.hid (D0.out.trans (hb.mono D0.out.size))
  clear hb D0
  go_wp2_with fail
  refine (made_any qa mq cq q need total _ (HQ.out.bel D1.out) hqa5 hu1 hu2).mono ?_
  rintro e w2 ⟨v2, R, rfl, hO, hR, hE, hb⟩
  rw [← HN.out] at hR ⊢
  rw [← HMM.out]
  obtain ⟨a2, c2, rfl, j1, j2, j3⟩ := hO.at2 (n := n - 1) (by omega)
  have J2 := Lib.hid j3
  have HR := Lib.hid hR
  have ER := Lib.hid hE
  have D2 := Lib.hid (D1.out.trans (hb.mono D1.out.size))
  have B2 := Lib.hid hb
  clear hO j1 j2 j3 hR hE hb D1
  go_wp2_with fail
  refine (made_any ra mr cr r need total _ (HR0.out.bel D2.out) hra5 hu1 hu2).mono ?_
  rintro e w3 ⟨v3, R2, rfl, hO, hR, hE, hb⟩
  rw [← HN.out] at hR ⊢
  rw [← HMM.out]
  obtain ⟨a3, c3, rfl, j1, j2, j3⟩ := hO.at2 (n := n - 1) (by omega)
  have J3 := Lib.hid j3
  have HR2 := Lib.hid hR
  have ER2 := Lib.hid hE
  have D3 := Lib.hid (D2.out.trans (hb.mono D2.out.size))
  have B3 := Lib.hid hb
  clear hO j1 j2 j3 hR hE hb D2
  go_wp2_with fail
  have J2b := Lib.hid (J2.out.bel B3.out)
  clear J2 B2 B3
  refine (element_any s _).mono ?_
  rintro e w' ⟨rfl, rfl⟩
  go_wp2_with fail
  have hsp := split_made (elemF_el s) rN.1 rM.1 rM.2 HR.out ER.out
  have hsp2 := split_made (elemF_el o_) rN.1 rM.1 rM.2 HR2.out ER2.out
  obtain ⟨x0, hx0⟩ : ∃ x, x = elemF s := ⟨_, rfl⟩
  have x0_el : El x0 := by rw [hx0]; exact elemF_el _
  obtain ⟨y0, hy0⟩ : ∃ x, x = elemF o_ := ⟨_, rfl⟩
  have y0_el : El y0 := by rw [hy0]; exact elemF_el _
  rw [← hx0] at hsp ⊢
  rw [← hy0] at hsp2
  have HX := Lib.hid hx0
  have HY := Lib.hid hy0
  have HSP2 := Lib.hid hsp2
  clear hx0 hy0 hsp2
  have HXE := Lib.hid x0_el
  have HYE := Lib.hid y0_el
  clear x0_el y0_el
  have k1 : n - 1 ≤ maxLen := max_small (by omega)
  have k2 : -9223372036854775808 ≤ (n : Int) ∧ (n : Int) ≤ 9223372036854775807 := by omega
  have K1 := Lib.hid k1
  have K2 := Lib.hid k2
  have k3 := pSplit_open x0 n m _ (n - 1) c2 R _ J2b.out k1 k2 hsp (m := m) (sharesL_len _ _).symm
  refine (k3).mono ?_
  rintro e w4 ⟨sb1, sc1, ⟨rfl, hq1, hq2, hq3⟩, hb⟩
  have D4 := Lib.hid (D3.out.trans (hb.mono D3.out.size))
  have Q1 := Lib.hid hq3
  have J3c := Lib.hid (J3.out.bel hb)
  clear hq1 hq2 hq3 hsp k1 k2 k3 J2b J3
  clear hb D3
  go_wp2_with fail
  refine (element_any o_ _).mono ?_
  rintro e w' ⟨rfl, rfl⟩
  rw [← HY.out]
  go_wp2_with fail
  have k3 := pSplit_open y0 n m _ (n - 1) c3 R2 _ J3c.out K1.out K2.out HSP2.out (m := m) (sharesL_len _ _).symm
  refine (k3).mono ?_
  rintro e w5 ⟨sb2, sc2, ⟨rfl, hq1, hq2, hq3⟩, hb⟩
  have D5 := Lib.hid (D4.out.trans (hb.mono D4.out.size))
  have Q2 := Lib.hid hq3
  have Q1b := Lib.hid (Q1.out.bel hb)
  clear hq1 hq2 hq3 k3 J3c Q1 HSP2 K1 K2
  clear hb D4
  go_wp2_with fail
  have hRR : Hid (R.length = R2.length) := Lib.hid (by have := HR.out; have := HR2.out; omega)
  obtain ⟨cc, hcc⟩ : ∃ c, c = sums (x0 :: R) (y0 :: R2) := ⟨_, rfl⟩
  have hj := add_ok (n := n) (m := m) rN.1 rM.1 rM.2 HR.out HR2.out HXE.out HYE.out
  rw [← hcc] at hj
  obtain ⟨z0, hz0⟩ : ∃ z, z = elemF (x0 + y0) := ⟨_, rfl⟩
  rw [← hz0] at hj
  have HJ := Lib.hid hj
  have HZ0 := Lib.hid hz0
  have hnx : Hid (∀ k : Nat, sharesL cc (k + 1) = sharesL cc k ++ [((k : Int) + 1, elemF (evF ((k : Int) + 1) (x0 :: R) + evF ((k : Int) + 1) (y0 :: R2)))]) := Lib.hid (fun k => by rw [hcc]; exact sums_next hRR.out k)
  clear hj hz0 hcc hRR
  have hx2 : -9223372036854775808 ≤ x0 + y0 ∧ x0 + y0 ≤ 9223372036854775807 := by have h1 := HXE.out; have h2 := HYE.out; unfold El at h1 h2; omega
  have f7 : IntKind.i64.wrap (x0 + y0) = x0 + y0 := IntWalk.i64_in _ (by omega)
  have E0 := Lib.hid (Below.refl w5.heap.size w5)
  have hO0 : Hid (OwnSh w5.heap.size w5 (.slice none 0 0) (sharesL cc 0)) := Lib.hid (World.ownsRow_nil _ _ _ _)
  go_loopw [24, 25] (fun v ii wr => ∃ k : Nat, k ≤ m ∧ ii = .int .i64 (k : Int) ∧ Hid (OwnSh w5.heap.size wr v (sharesL cc k)) ∧ Hid (Below w5.heap.size w5 wr)) (fun _ ii _ => m - (intOf ii).toNat)
  case atStart => exact ⟨0, by omega, rfl, hO0, E0⟩
  case round =>
    clear hO0 E0
    obtain ⟨k, hk, rfl, hO, hD⟩ := hrel
    by_cases hkm : k < m
    · obtain ⟨bc, oc, rfl, -⟩ := Q1b.out.cells (by omega)
      obtain ⟨bd, od, rfl, -⟩ := Q2.out.cells (by omega)
      obtain ⟨hcc1, hcc2⟩ := (Q1b.out.bel hD.out).cell (j := k) (by rw [sharesL_len]; exact hkm)
      obtain ⟨hcd1, hcd2⟩ := (Q2.out.bel hD.out).cell (j := k) (by rw [sharesL_len]; exact hkm)
      rw [sharesL_get _ hkm] at hcc1 hcc2 hcd1 hcd2
      have hn1 := hnx.out k
      obtain ⟨u, hu⟩ : ∃ u, u = (k : Int) + 1 := ⟨_, rfl⟩
      obtain ⟨ya, hya⟩ : ∃ y, y = evF u (x0 :: R) := ⟨_, rfl⟩
      obtain ⟨yb, hyb⟩ : ∃ y, y = evF u (y0 :: R2) := ⟨_, rfl⟩
      simp only [← hu, ← hya, ← hyb] at hcc1 hcc2 hcd1 hcd2 hn1
      have eya : El ya := by rw [hya]; exact evF_range _ _
      have eyb : El yb := by rw [hyb]; exact evF_range _ _
      have f6 : IntKind.i64.wrap (ya + yb) = ya + yb := IntWalk.i64_in _ (by unfold El at eya eyb; omega)
      have F6 := Lib.hid f6
      obtain ⟨y2, hy2⟩ : ∃ y, y = elemF (ya + yb) := ⟨_, rfl⟩
      rw [← hy2] at hn1
      have HY2 := Lib.hid hy2
      have HN1 := Lib.hid hn1
      have hl1 : Hid ((sharesL cc k).length + 1 ≤ 1000000) := Lib.hid (by rw [sharesL_len]; omega)
      have g1 : (0 : Int) ≤ (k : Int) := by omega
      have g2 : (k : Int) < (m : Int) := by omega
      have hbWa : Below wr.heap.size wr ((wr.alloc (Obj.cells #[Value.int .i64 u, Value.int .i64 y2] 38)).drew) := ((Below.refl _ _).alloc (Nat.le_refl _) _).drew
      have HO3a := Lib.hid (own_bel hO.out hbWa)
      have HZ3a := Lib.hid (hD.out.trans (hbWa.mono hD.out.size))
      have hbWb : Below wr.heap.size wr (wr.drew.alloc (Obj.cells #[Value.int .i64 u, Value.int .i64 y2] 38)) := ((Below.refl wr.heap.size wr).drew.alloc (Nat.le_refl _) _)
      have HO3b := Lib.hid (own_bel hO.out hbWb)
      have HZ3b := Lib.hid (hD.out.trans (hbWb.mono hD.out.size))
      have HP3a : Hid (PtsAt ((wr.alloc (Obj.cells #[Value.int .i64 u, Value.int .i64 y2] 38)).drew) (some ⟨wr.heap.size, 0, none⟩) 1 [(u, y2)]) := Lib.hid ((sh_one wr u y2 rfl).bel ((Below.refl _ _).drew))
      have HP3b : Hid (PtsAt (wr.drew.alloc (Obj.cells #[Value.int .i64 u, Value.int .i64 y2] 38)) (some ⟨wr.heap.size, 0, none⟩) 1 [(u, y2)]) := Lib.hid (sh_one wr.drew u y2 rfl)
      clear hn1 hu hya hyb hy2 eya eyb hbWa hbWb hO hD
      go_wp2_with fail
      go_region_law (first | (go_simp; go_at_call 11; refine (element_any _ _).mono ?_; rintro e w' ⟨rfl, rfl⟩; first | rw [← HY2.out] | (rw [F6.out, ← HY2.out])) | (refine step_catSh _ (by rfl) _ _ (by rfl) w5.heap.size _ (sharesL cc k) [(u, y2)] _ 1 1 (by rfl) (by rfl) HO3a.out HP3a.out (fun h => by cases h) hl1.out HZ3a.out.size ?_; intro v6 w6 hO6 hg6; have HO6 : Hid (OwnSh w5.heap.size w6 v6 (sharesL cc (k + 1))) := Lib.hid (by rw [HN1.out]; exact hO6); have HZ6 := Lib.hid (below_app HZ3a.out HZ3a.out.size HO3a.out hg6); clear hO6 hg6) | (refine step_catSh _ (by rfl) _ _ (by rfl) w5.heap.size _ (sharesL cc k) [(u, y2)] _ 1 1 (by rfl) (by rfl) HO3b.out HP3b.out (fun h => by cases h) hl1.out HZ3b.out.size ?_; intro v6 w6 hO6 hg6; have HO6 : Hid (OwnSh w5.heap.size w6 v6 (sharesL cc (k + 1))) := Lib.hid (by rw [HN1.out]; exact hO6); have HZ6 := Lib.hid (below_app HZ3b.out HZ3b.out.size HO3b.out hg6); clear hO6 hg6) | fail "no arm")
      all_goals
        go_wp2_with fail
        go_roundw
        case rel => exact ⟨k + 1, by omega, by go_num, HO6, HZ6⟩
        case measure => simp [intOf]; omega
    · obtain rfl : k = m := by omega
      obtain ⟨a5, c5, rfl, j1, j2, j3⟩ := hO.out.at2 (n := k) (sharesL_len _ _).symm
      have J5 := Lib.hid j3
      have HC := Lib.hid j1
      have HM := Lib.hid j2
      clear hO j1 j2 j3
      go_wp2_with fail
      refine (pJoin_is _ k _ (sharesL cc k) n _ J5.out (by omega) HC.out HM.out HJ.out).mono ?_
      rintro e w9 ⟨rfl, hb⟩
      have D9 := Lib.hid (D5.out.trans ((hD.out.trans (hb.mono hD.out.size)).mono D5.out.size))
      clear hb
      go_wp2_with fail
      refine (element_any s _).mono ?_
      rintro e w' ⟨rfl, rfl⟩
      rw [← HX.out]
      go_wp2_with fail
      refine (element_any o_ _).mono ?_
      rintro e w' ⟨rfl, rfl⟩
      rw [← HY.out]
      go_wp2_with fail
      refine (element_any (x0 + y0) _).mono ?_
      rintro e w' ⟨rfl, rfl⟩
      rw [← HZ0.out]
      go_wp2_with fail
      go_ret
      exact ⟨rfl, D9.out⟩
end Go.Proofs.Ytcdnddjoonecdaa
