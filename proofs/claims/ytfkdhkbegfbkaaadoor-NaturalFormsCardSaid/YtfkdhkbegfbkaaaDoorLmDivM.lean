/-
  The walk of the program's dividedBy: the long division.
-/
import Derived.Test.YtfkdhkbegfbkaaaDoorLmDiv
set_option linter.unusedVariables false
set_option maxRecDepth 100000
namespace Go.Proofs.YtfkdhkbegfbkaaaDoor
open Go.RowKit
/-- the worlds of the long division -/
structure DivW (w : World) (H L HQ LQ : Nat) (S Q : List Nat) (vd : Value) (d : Nat) (wr : World) : Prop where
  row : RowAt H L S wr
  quo : RowAt HQ LQ Q wr
  div : IntsIn (fun b => b ≠ H ∧ b ≠ HQ) wr vd (Lim.ls d)
  bel : Below w.heap.size w wr
  hh : w.heap.size ≤ H
  hq : w.heap.size ≤ HQ
  ne : H ≠ HQ
theorem DivW.drew {w : World} {H L HQ LQ : Nat} {S Q : List Nat} {vd : Value} {d : Nat} {wr : World} (h : DivW w H L HQ LQ S Q vd d wr) (n : Nat) : DivW w H L HQ LQ S Q vd d (wr.drewN n) :=
  ⟨h.row, h.quo, ⟨h.div.open_⟩, ⟨h.bel.os, h.bel.tape, h.bel.output, h.bel.size, fun k hk => h.bel.block k hk⟩, h.hh, h.hq, h.ne⟩
theorem DivW.putQ {w : World} {H L HQ LQ : Nat} {S Q : List Nat} {vd : Value} {d : Nat} {wr : World} (h : DivW w H L HQ LQ S Q vd d wr) (i x : Nat) : DivW w H L HQ LQ S (Q.set i x) vd d (wr.setCell ⟨HQ, i, none⟩ (.int .i64 (x : Int))) :=
  ⟨h.row.bes (Bes.set _ _ _ _) h.ne, h.quo.store i x, h.div.keep (fun b hb _ => Below.heap_setCell _ _ _ _ hb.2), h.bel.setCell (p := ⟨HQ, i, none⟩) h.hq _, h.hh, h.hq, h.ne⟩
theorem DivW.next {w : World} {H L HQ LQ : Nat} {S Q S' : List Nat} {vd : Value} {d : Nat} {wr w' : World} (h : DivW w H L HQ LQ S Q vd d wr) (hr : RowAt H L S' w') (hb : Bes H wr w') : DivW w H L HQ LQ S' Q vd d w' :=
  ⟨hr, h.quo.bes hb (Ne.symm h.ne), h.div.keep (fun b hp hlt => hb.block b hlt hp.1), h.bel.trans (hb.below (by have := h.row.lt; omega) |>.mono h.hh), h.hh, h.hq, h.ne⟩
theorem DivW.off {w : World} {H L HQ LQ : Nat} {S Q : List Nat} {vd : Value} {d : Nat} {wr : World} (h : DivW w H L HQ LQ S Q vd d wr) : IntsIn (fun b => b ≠ H) wr vd (Lim.ls d) := h.div.weaken (fun _ hp _ => hp.1)
theorem estimate_as (p : Nat → Prop) (H L i t k : Nat) (hkt : k = t + 2) (S : List Nat) (cap d u : Nat) (vd : Value) (w : World) (hR : RowAt H L S w) (hlo : Lim.Lo S) (hu : u = Lim.lv S / Lim.B ^ i) (hk : Lim.nl d = k) (hL : i + k + 1 ≤ L) (hud : u < d * Lim.B) (htop : 500000000 ≤ Lim.pl d (t + 1)) (hd : IntsIn p w vd (Lim.ls d)) (hkl : k ≤ 100000) :
    Calls Tryd.prog 57 #[vd, .slice (some ⟨H, i, none⟩) (k + 1) cap] w fun e w' => ∃ q n : Nat, e = .returned (.int .i64 (q : Int)) ∧ u / d ≤ q ∧ q ≤ u / d + 1 ∧ w' = w.drewN n := by
  subst hkt
  exact estimate_any p H L i t S cap d u vd w hR hlo hu hk hL hud htop hd hkl
set_option maxHeartbeats 8000000 in
theorem dividedBy_long (m n t : Nat) (va vb : Value) (w : World) (hm : IntsIn (fun _ => True) w va (Lim.ls m)) (hn : IntsIn (fun _ => True) w vb (Lim.ls n)) (hml : Lim.nl m ≤ 100000) (hk : Lim.nl n = t + 2) (hle : t + 2 ≤ Lim.nl m) :
    Calls Tryd.prog 42 #[va, vb] w (Divided m n w) := by
  obtain ⟨i0, hi0, hz0, hz1, hz2⟩ := info_parts infoI
  obtain ⟨s, hs⟩ : ∃ s, s = Lim.B / (Lim.pl n (t + 1) + 1) := ⟨_, rfl⟩
  have htop := scaled_top (t := t + 1) (by rw [hk]) hs
  obtain ⟨b, cb, rfl, b1, b2, b3⟩ := hn.open_
  obtain ⟨bb, ob, rfl, _, hcb⟩ := b3 (by rw [show (Lim.ls n).length = t + 2 from hk]; omega)
  have hcell := hcb (t + 1) (by rw [show (Lim.ls n).length = t + 2 from hk]; omega)
  rw [Lim.pl_ls] at hcell
  obtain ⟨a, ca, rfl, a1, a2, a3⟩ := hm.open_
  have HM := Lib.hid hm
  have HN := Lib.hid hn
  have HML := Lib.hid hml
  have HK := Lib.hid hk
  have HTOP := Lib.hid htop
  obtain ⟨na, hna⟩ : ∃ na, na = (Lim.ls m).length := ⟨_, rfl⟩
  obtain ⟨k, hkk⟩ : ∃ k, k = (Lim.ls n).length := ⟨_, rfl⟩
  have hnA : Lim.nl m = na := hna.symm
  have hkt : k = t + 2 := by rw [hkk]; exact hk
  rw [hnA] at hml hle
  rw [← hna] at a1
  rw [← hkk] at b1
  obtain ⟨v, hv⟩ : ∃ v, v = Lim.pl n (t + 1) := ⟨_, rfl⟩
  have hvB := Lim.pl_lt n (t + 1)
  rw [← hv] at hcell hs hvB
  obtain ⟨k1, hk1⟩ : ∃ k1, k1 = t + 1 := ⟨_, rfl⟩
  rw [← hk1] at hcell
  rw [Lim.B_eq] at hs hvB
  have f1 : (k : Int) - 1 = (k1 : Int) := by omega
  have f2 : IntKind.i64.wrap (k1 : Int) = (k1 : Int) := IntWalk.i64_in _ (by omega)
  have f3 : IntKind.i64.wrap ((v : Int) + 1) = (v : Int) + 1 := IntWalk.i64_in _ (by omega)
  have hs1 : s ≤ 1000000000 := by rw [hs]; exact Nat.div_le_self _ _
  have f4 : ((1000000000 : Int)).tdiv ((v : Int) + 1) = (s : Int) := by rw [Int.tdiv_eq_ediv_of_nonneg (by omega), hs]; exact (Int.natCast_ediv 1000000000 (v + 1)).symm
  have f5 : IntKind.i64.wrap (s : Int) = (s : Int) := IntWalk.i64_in _ (by omega)
  have f6 : ((v : Int) + 1 == 0) = false := beq_eq_false_iff_ne.2 (by omega)
  have f7 : ¬ (v : Int) + 1 = 0 := by omega
  have f8 : ((k : Int) == 1) = false := beq_eq_false_iff_ne.2 (by omega)
  have f9 : ¬ k = 1 := by omega
  have f10 : (k1 : Int) < (k : Int) := by omega
  have f11 : (0 : Int) ≤ (k1 : Int) := by omega
  have f12 : ¬ na < k := by omega
  obtain ⟨LQ, hLQ⟩ : ∃ LQ, LQ = na - k + 1 := ⟨_, rfl⟩
  obtain ⟨L, hL⟩ : ∃ L, L = na + 1 := ⟨_, rfl⟩
  have f13 : IntKind.i64.wrap ((na : Int) - (k : Int)) = (na : Int) - (k : Int) := IntWalk.i64_in _ (by omega)
  have f14 : (na : Int) - (k : Int) + 1 = (LQ : Int) := by omega
  have f15 : IntKind.i64.wrap (LQ : Int) = (LQ : Int) := IntWalk.i64_in _ (by omega)
  have f16 : IntKind.i64.wrap ((LQ : Int) - 1) = (LQ : Int) - 1 := IntWalk.i64_in _ (by omega)
  have hkL : LQ + k = L := by omega
  have hL6 : L ≤ 100001 := by omega
  have HNA := Lib.hid hna
  have HKK := Lib.hid hkk
  have HKT := Lib.hid hkt
  have HS := Lib.hid hs
  have HLQ := Lib.hid hLQ
  have HLL := Lib.hid hL
  have hml2 : na ≤ 100000 := hml
  have hk2 : 2 ≤ k := by omega
  rw [← hna] at HM
  rw [← hkk] at HN
  rw [← hna, ← hkk]
  clear hm hn hml hk htop hna hkk hv hs hk1 hLQ hL hcb b3 a3 hnA hkt hle
  go_enter Tryd.func42, Tryd.ntmps42
  go_wp2_with fail
  refine (scaled_any m s _ _ HM.out HML.out HTOP.out.2.2.2.1).mono ?_
  rintro e w1 ⟨H, S, rfl, hR, hSlo, hSv, hHw, hB1⟩
  rw [show Lim.nl m + 1 = L by rw [HLL.out, HNA.out]; rfl] at hR ⊢
  have HR := Lib.hid hR
  have HSL := Lib.hid hSlo
  have HSV := Lib.hid hSv
  have HHW := Lib.hid hHw
  have HB1 := Lib.hid hB1
  have HNW := Lib.hid (HN.out.below hB1)
  clear hR hSlo hSv hHw hB1
  go_wp2_with fail
  refine (scaled_any n s _ _ HNW.out (by rw [HK.out, ← HKT.out]; omega) HTOP.out.2.2.2.1).mono ?_
  rintro e w2 ⟨H2, S2, rfl, hR2, hS2lo, hS2v, hH2w, hB2⟩
  have hne : H2 ≠ H := by have := HR.out.lt; omega
  have hI2 := hR2.ints (fun b => b ≠ H) hne (by rw [HK.out, ← HKT.out]; omega)
  have HR1 := Lib.hid (HR.out.below hB2)
  have HB2 := Lib.hid (HB1.out.trans (hB2.mono HB1.out.size))
  have HI2 := Lib.hid hI2
  have HS2L := Lib.hid hS2lo
  have HS2V := Lib.hid hS2v
  clear hR2 hS2lo hS2v hH2w hB2 hI2 hne HR HB1 HNW
  go_wp2_with fail
  refine (trimmed_any _ _ _ _ HI2.out HS2L.out).mono ?_
  rintro e w7 ⟨vd, rfl, hvd, rfl⟩
  rw [HS2V.out] at hvd
  have HVD := Lib.hid hvd
  clear hvd HI2
  obtain ⟨d, hd⟩ : ∃ d, d = n * s := ⟨_, rfl⟩
  go_wp2_with (at_make; refine wpList_make_full _ rfl _ _ 45 rfl w2.heap.size 3 i0 (.int .i64 0) 1 Tryd.underlying45 hi0 hz0 hz1 _ _ _ _ LQ rfl rfl (by first | rfl | omega) (by first | rfl | omega) (by rw [hz2]; omega) (by unfold maxLen; omega) (Nat.le_refl _) ?_)
  intro w3 hown hgrow
  have hB3 : Below w2.heap.size w2 w3 := (Below.refl _ _).grown hgrow (Nat.le_refl _) (fun k h => by cases h)
  obtain ⟨HQ, hHQ⟩ : ∃ HQ, HQ = w2.heap.size := ⟨_, rfl⟩
  have hW3 : Hid (DivW w H L HQ LQ S (List.replicate LQ 0) vd d w3) := Lib.hid ⟨HR1.out.below hB3, ⟨by simp, by rw [← zeros_row, hHQ]; exact hown⟩, by
      rw [hd]
      exact (HVD.out.weaken (q := fun b => b ≠ H ∧ b ≠ HQ) (fun b h1 h2 => ⟨h1, by omega⟩)).below hB3, HB2.out.trans (hB3.mono HB2.out.size), HHW.out, by rw [hHQ]; exact HB2.out.size, by have := HR1.out.lt; omega⟩
  have hD3 : Hid (DivSt (m * s) d LQ S (List.replicate LQ 0)) := Lib.hid (by rw [hd]; exact DivSt.start HSL.out HSV.out HNA.out.symm HKK.out.symm (by omega) (by have := HKT.out; have := HLQ.out; omega) HTOP.out.2.2.1 HLQ.out)
  have hnld : Lim.nl d = k := by rw [hd, HTOP.out.1, HKT.out]
  have hd0 : 0 < d := by rw [hd]; exact HTOP.out.2.2.2.2.2
  have hdB : d < Lim.B ^ k := Lim.nl_le.1 (Nat.le_of_eq hnld)
  have hdt : 500000000 ≤ Lim.pl d (t + 1) := by rw [hd]; exact HTOP.out.2.1
  have HD := Lib.hid hd
  have HNLD := Lib.hid hnld
  have HD0 := Lib.hid hd0
  have HDB := Lib.hid hdB
  have HDT := Lib.hid hdt
  clear hown hgrow hB3 hd hnld hd0 hdB hdt HR1 HVD HSL HSV
  go_wp2_with fail
  simp only [← hHQ]
  clear hHQ
  go_loopw [11] (fun ii wr => ∃ (i : Nat) (S Q : List Nat), i ≤ LQ ∧ ii = .int .i64 ((i : Int) - 1) ∧ Hid (DivSt (m * s) d i S Q) ∧ Hid (DivW w H L HQ LQ S Q vd d wr)) (fun ii _ => (intOf ii + 1).toNat)
  case atStart => exact ⟨LQ, S, _, Nat.le_refl _, rfl, hD3, hW3⟩
  case round =>
    clear hD3 hW3
    obtain ⟨i', S, Q, hi, rfl, hD, hW⟩ := hrel
    by_cases hlt : 0 < i'
    · obtain ⟨i, rfl⟩ : ∃ i, i' = i + 1 := ⟨i' - 1, by omega⟩
      obtain ⟨u, hu⟩ := hD.out.part HD0.out
      have HU := Lib.hid hu
      have e0 : ((i + 1 : Nat) : Int) - 1 = (i : Int) := by omega
      have g0 : (0 : Int) ≤ (i : Int) := by omega
      have g1 : IntKind.i64.wrap ((i : Int) + (k : Int)) = (i : Int) + (k : Int) := IntWalk.i64_in _ (by omega)
      have g2 : IntKind.i64.wrap ((i : Int) + (k : Int) + 1) = (i : Int) + (k : Int) + 1 := IntWalk.i64_in _ (by omega)
      have g3 : (i : Int) ≤ (i : Int) + (k : Int) + 1 := by omega
      have g4 : (i : Int) + (k : Int) + 1 ≤ (L : Int) := by omega
      have g5 : ¬ L - i = 0 := by omega
      have g6 : (i : Int) + (k : Int) + 1 - (i : Int) = (k : Int) + 1 := by omega
      have g7 : ¬ (L : Int) - (i : Int) = 0 := by omega
      have g8 : (i : Int) < (LQ : Int) := by omega
      have g9 : IntKind.i64.wrap ((i : Int) - 1) = (i : Int) - 1 := IntWalk.i64_in _ (by omega)
      have hiL : i + k + 1 ≤ L := by omega
      clear hu
      go_wp2_with fail
      rw [show i + k + 1 - i = k + 1 by omega]
      refine (estimate_as (fun b => b ≠ H) H L i t k HKT.out S _ d u vd _ hW.out.row hD.out.slo HU.out.is HNLD.out hiL HU.out.lt HDT.out hW.out.off (by omega)).mono ?_
      rintro e w5 ⟨q, nq, rfl, hq1, hq2, hw5⟩
      have hW5 : Hid (DivW w H L HQ LQ S Q vd d w5) := Lib.hid (by rw [hw5]; exact hW.out.drew nq)
      have HQL := Lib.hid hW.out.quo.1
      have HQ1 := Lib.hid hq1
      have HQ2 := Lib.hid hq2
      have hqB : Hid (q ≤ Lim.B) := Lib.hid (by
        have := (Nat.div_lt_iff_lt_mul HD0.out).2 (by rw [Nat.mul_comm]; exact HU.out.lt : u < Lim.B * d)
        omega)
      have hcs5 := hW5.out.quo.cell i (by omega)
      have hfz5 := hW5.out.quo.frozen i
      generalize Q.getD i 0 = s0 at hcs5
      have hW6 := Lib.hid (hW5.out.putQ i q)
      have hgq : Hid ((Q.set i q).getD i 0 = q) := Lib.hid (by
        rw [List.getD_eq_getElem?_getD, List.getElem?_set_self (by rw [hW5.out.quo.1]; omega)]; rfl)
      have hcs6 := hW6.out.quo.cell i (by omega)
      rw [hgq.out] at hcs6
      clear hw5 hq1 hq2 hW
      go_wp2_with fail
      generalize w5.setCell ⟨HQ, i, none⟩ (.int .i64 (q : Int)) = w6 at hW6 hcs6 ⊢
      refine (subtract_any H L i k S _ d q vd _ hW6.out.row hD.out.slo HNLD.out hiL (by omega) hqB.out hW6.out.off).mono ?_
      rintro e w7 ⟨S', bb', rfl, hsd⟩
      have hW7 := Lib.hid (hW6.out.next hsd.row hsd.bes)
      have HSD := Lib.hid hsd
      clear hsd hW6 hcs6 hcs5 hfz5 hW5
      by_cases hb : bb' = 1
      · have t1 : decide (bb' = 1) = true := decide_eq_true hb
        have hsum := HSD.out.sum
        rw [hb] at hsum
        have hq0 := hD.out.pos HDB.out HU.out HSD.out.lo HSD.out.same hsum
        obtain ⟨q', hq'⟩ : ∃ q', q' = q - 1 := ⟨_, rfl⟩
        have hqB2 := hqB.out
        rw [Lim.B_eq] at hqB2
        have g10 : IntKind.i64.wrap ((q : Int) - 1) = (q' : Int) := by rw [IntWalk.i64_in _ (by omega)]; omega
        have HSUM := Lib.hid hsum
        have HQ' := Lib.hid hq'
        have hcs7 := hW7.out.quo.cell i (by omega)
        rw [hgq.out] at hcs7
        have hfz7 := hW7.out.quo.frozen i
        have hW8 := Lib.hid (hW7.out.putQ i q')
        rw [List.set_set] at hW8
        clear hq' hsum hb
        go_wp2_with fail
        generalize w7.setCell ⟨HQ, i, none⟩ (.int .i64 (q' : Int)) = w8 at hW8 ⊢
        refine (addBack_any H L i k S' _ d vd _ hW8.out.row HSD.out.lo HNLD.out hiL (by omega) hW8.out.off).mono ?_
        rintro e w9 ⟨S2, b2, vv, rfl, hbd⟩
        have hW9 := Lib.hid (hW8.out.next hbd.row hbd.bes)
        have hDn := Lib.hid (hD.out.back HD0.out HDB.out HU.out (by rw [HQL.out]; omega) HSD.out.lo HSD.out.same HQ1.out HQ2.out HSUM.out hbd.lo hbd.same hbd.sum).2
        rw [← HQ'.out] at hDn
        clear hbd hW8
        go_wp2_with fail
        refine ⟨⟨i, S2, Q.set i q', by omega, rfl, hDn, hW9⟩, by simp [intOf]⟩
      · have t1 : decide (bb' = 1) = false := decide_eq_false hb
        have hb0 : bb' = 0 := by have := HSD.out.one; omega
        have hsum := HSD.out.sum
        rw [hb0] at hsum
        have hDn := Lib.hid (hD.out.exact HD0.out HDB.out HU.out (by rw [HQL.out]; omega) HSD.out.lo HQ1.out hsum)
        clear hb hb0 hsum
        go_wp2_with fail
        refine ⟨⟨i, S', Q.set i q, by omega, rfl, hDn, hW7⟩, by simp [intOf]⟩
    · obtain rfl : i' = 0 := by omega
      have hdone := hD.out
      rw [HD.out] at hdone
      have hfin := hdone.done HTOP.out.2.2.1
      have HF := Lib.hid hfin
      have hnl : Hid (Lim.nl (Lim.lv S) ≤ 100000) := Lib.hid (by
        have hn0 : 0 < n := by
          apply Nat.pos_of_ne_zero
          intro e0
          have := HK.out
          rw [e0, Lim.nl_zero] at this
          omega
        have h1 : Lim.lv S < d := by
          rw [hfin.2.1, HD.out]
          exact Nat.mul_lt_mul_of_pos_right (Nat.mod_lt _ hn0) HTOP.out.2.2.1
        have h2 := Lim.nl_mono (Nat.le_of_lt h1)
        rw [HNLD.out] at h2
        omega)
      have HSLO := Lib.hid hdone.slo
      have HQLO := Lib.hid hdone.qlo
      clear hdone hfin hD
      go_wp2_with fail
      refine (trimmed_any (fun _ => True) _ _ _ (hW.out.row.ints _ trivial (by omega)) HSLO.out).mono ?_
      rintro e w7 ⟨v1, rfl, hv1, rfl⟩
      have HV1 := Lib.hid hv1
      clear hv1
      go_wp2_with fail
      refine (byLimb_any (Lim.lv S) s v1 _ HV1.out hnl.out HTOP.out.2.2.1 HTOP.out.2.2.2.1).mono ?_
      rintro e w8 ⟨v2, rfl, hv2, hb8⟩
      rw [HF.out.2.2] at hv2
      have HV2 := Lib.hid (hv2.weaken (q := fun _ => True) (fun _ _ _ => trivial))
      have HQ8 := Lib.hid (hW.out.quo.below hb8)
      have HB8 := Lib.hid (hW.out.bel.trans (hb8.mono hW.out.bel.size))
      generalize Lim.lv S % s = rr
      clear hv2 hb8
      go_wp2_with fail
      refine (trimmed_any (fun _ => True) _ _ _ (HQ8.out.ints _ trivial (by omega)) HQLO.out).mono ?_
      rintro e w9 ⟨v3, rfl, hv3, rfl⟩
      rw [HF.out.1] at hv3
      have HV3 := Lib.hid hv3
      clear hv3
      go_wp2_with fail
      go_ret2
      exact ⟨v3, v2, rfl, HV3.out, HV2.out, HB8.out⟩
end Go.Proofs.YtfkdhkbegfbkaaaDoor
