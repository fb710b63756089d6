/-
  The walk of the program's dividedBy.
-/
import Derived.Test.YtbcoblpnihdhgaaDoorLmLong
import Derived.Test.YtbcoblpnihdhgaaDoorLmFns
set_option linter.unusedVariables false
set_option maxRecDepth 100000
namespace Go.Proofs.YtbcoblpnihdhgaaDoor
open Go.RowKit
/-- a quotient and a remainder -/
def Divided (m n : Nat) (w : World) (e : Ending) (w' : World) : Prop := ∃ v1 v2, e = .returned (.tuple #[v1, v2]) ∧ IntsIn (fun _ => True) w' v1 (Lim.ls (m / n)) ∧ IntsIn (fun _ => True) w' v2 (Lim.ls (m % n)) ∧ Below w.heap.size w w'
set_option maxHeartbeats 1000000 in
theorem dividedBy_short (m n : Nat) (va vb : Value) (w : World) (hm : IntsIn (fun _ => True) w va (Lim.ls m)) (hn : IntsIn (fun _ => True) w vb (Lim.ls n)) (hml : Lim.nl m ≤ 100000) (hnl : Lim.nl n ≤ 100000) (h1 : ¬ Lim.nl n = 1) (hlt : Lim.nl m < Lim.nl n) :
    Calls Tryd.prog 67 #[va, vb] w (Divided m n w) := by
  have hmn := Lim.lt_of_nl hlt
  have hres : Hid (IntsIn (fun _ => True) w (.slice none 0 0) (Lim.ls (m / n)) ∧ IntsIn (fun _ => True) w va (Lim.ls (m % n))) := Lib.hid (by
    rw [Nat.div_eq_of_lt hmn, Nat.mod_eq_of_lt hmn, Lim.ls_zero]
    exact ⟨IntsIn.nil _ _ _ _ (by omega), hm⟩)
  obtain ⟨a, ca, rfl, a1, a2, a3⟩ := hm.open_
  obtain ⟨b, cb, rfl, b1, b2, b3⟩ := hn.open_
  clear a3 b3 hm hn
  unfold Lim.nl at h1 hlt hml hnl
  generalize (Lim.ls m).length = na at *
  generalize (Lim.ls n).length = nb at *
  have t1 : ((nb : Int) == 1) = false := beq_eq_false_iff_ne.2 (by omega)
  have HR := Lib.hid hres
  clear hres
  go_enter Tryd.func67, Tryd.ntmps67
  go_wp2_with fail
  go_ret2
  exact ⟨_, _, rfl, HR.out.out.1, HR.out.out.2, Below.refl _ _⟩
theorem one_ints (x : Nat) (w : World) : IntsIn (fun b => w.heap.size ≤ b) (w.alloc (.cells #[.int .i64 (x : Int)] 3)) (.slice (some ⟨w.heap.size, 0, none⟩) 1 1) [x] :=
  ⟨_, 1, rfl, Nat.le_refl _, by omega, fun _ => ⟨_, 0, rfl, Nat.le_refl _, fun j hj => by
    have : j = 0 := by simp at hj; exact hj
    subst this
    rw [Lib.cell_of_heap (heap_lastM w _)]; rfl⟩⟩
set_option maxHeartbeats 2000000 in
theorem dividedBy_one (m n : Nat) (va vb : Value) (w : World) (hm : IntsIn (fun _ => True) w va (Lim.ls m)) (hn : IntsIn (fun _ => True) w vb (Lim.ls n)) (hml : Lim.nl m ≤ 100000) (h1 : Lim.nl n = 1) :
    Calls Tryd.prog 67 #[va, vb] w (Divided m n w) := by
  obtain ⟨i0, hi0, hz0, hz1, hz2⟩ := info_parts infoI
  obtain ⟨b, cb, rfl, b1, b2, b3⟩ := hn.open_
  obtain ⟨bb, ob, rfl, _, hcb⟩ := b3 (by rw [show (Lim.ls n).length = 1 from h1]; omega)
  have hcell := hcb 0 (by rw [show (Lim.ls n).length = 1 from h1]; omega)
  have hnB : n < Lim.B := by have := Lim.nl_lt n; rwa [h1, Nat.pow_one] at this
  rw [Lim.pl_ls, Lim.pl_top (t := 0) (by rw [Nat.pow_one]; exact hnB), Nat.pow_zero, Nat.div_one, Nat.add_zero] at hcell
  rw [show (Lim.ls n).length = 1 from h1] at b1 ⊢
  have hn0 : 0 < n := by
    apply Nat.pos_of_ne_zero
    intro e; rw [e, Lim.nl_zero] at h1; omega
  have HM := Lib.hid hm
  have HML := Lib.hid hml
  have HNB := Lib.hid hnB
  have HN0 := Lib.hid hn0
  obtain ⟨q, hq⟩ : ∃ q, q = m / n := ⟨_, rfl⟩
  obtain ⟨r, hr⟩ : ∃ r, r = m % n := ⟨_, rfl⟩
  have HQ := Lib.hid hq
  have HR := Lib.hid hr
  have hrB : Hid (r < Lim.B) := Lib.hid (by rw [hr]; exact Nat.lt_trans (Nat.mod_lt _ hn0) hnB)
  clear hm hn hml hq hr hcb b3 hn0 hnB
  obtain ⟨a, ca, rfl, a1, a2, a3⟩ := HM.out.open_
  clear a3
  go_enter Tryd.func67, Tryd.ntmps67
  go_wp2_with fail
  refine (byLimb_any m n _ _ HM.out HML.out HN0.out HNB.out).mono ?_
  rintro e w1 ⟨v1, rfl, hv1, hb1⟩
  rw [← HQ.out] at hv1
  rw [← HR.out]
  have HV1 := Lib.hid hv1
  have HB1 := Lib.hid hb1
  clear hv1 hb1
  go_wp2_with fail
  refine (trimmed_any _ _ _ _ (one_ints r w1) (Lim.Lo.one hrB.out)).mono ?_
  rintro e w7 ⟨v2, rfl, hv2, rfl⟩
  rw [show Lim.lv [r] = r by simp [Lim.lv]] at hv2
  have HV2 := Lib.hid hv2
  clear hv2
  go_wp2_with fail
  go_ret2
  refine ⟨v1, v2, rfl, ?_, ?_, ?_⟩
  · rw [← HQ.out]; exact (HV1.out.below (alloc_below w1 _)).weaken (fun _ _ _ => trivial)
  · rw [← HR.out]; exact HV2.out.weaken (fun _ _ _ => trivial)
  · exact HB1.out.alloc HB1.out.size _
end Go.Proofs.YtbcoblpnihdhgaaDoor

/-
  The walk of the program's dividedBy: the long division.
-/
set_option linter.unusedVariables false
set_option maxRecDepth 100000
namespace Go.Proofs.YtbcoblpnihdhgaaDoor
open Go.RowKit
/-- the worlds of the long division -/
structure DivW (w : World) (H L HQ LQ : Nat) (S Q : List Nat) (vd : Value) (d : Nat) (wr : World) : Prop where
  row : RowAt H L S wr
  quo : RowAt HQ LQ Q wr
  div : IntsIn (fun b => b ≠ H ∧ b ≠ HQ) wr vd (Lim.ls d)
  bel : Below w.heap.size w wr
  hh : w.heap.size ≤ H
  hq : w.heap.size ≤ HQ
  ne : H ≠ HQ
theorem DivW.drew {w : World} {H L HQ LQ : Nat} {S Q : List Nat} {vd : Value} {d : Nat} {wr : World} (h : DivW w H L HQ LQ S Q vd d wr) (n : Nat) : DivW w H L HQ LQ S Q vd d (wr.drewN n) :=
  ⟨h.row, h.quo, ⟨h.div.open_⟩, ⟨h.bel.os, h.bel.tape, h.bel.output, h.bel.size, fun k hk => h.bel.block k hk⟩, h.hh, h.hq, h.ne⟩
theorem DivW.putQ {w : World} {H L HQ LQ : Nat} {S Q : List Nat} {vd : Value} {d : Nat} {wr : World} (h : DivW w H L HQ LQ S Q vd d wr) (i x : Nat) : DivW w H L HQ LQ S (Q.set i x) vd d (wr.setCell ⟨HQ, i, none⟩ (.int .i64 (x : Int))) :=
  ⟨h.row.bes (Bes.set _ _ _ _) h.ne, h.quo.store i x, h.div.keep (fun b hb _ => Below.heap_setCell _ _ _ _ hb.2), h.bel.setCell (p := ⟨HQ, i, none⟩) h.hq _, h.hh, h.hq, h.ne⟩
theorem DivW.next {w : World} {H L HQ LQ : Nat} {S Q S' : List Nat} {vd : Value} {d : Nat} {wr w' : World} (h : DivW w H L HQ LQ S Q vd d wr) (hr : RowAt H L S' w') (hb : Bes H wr w') : DivW w H L HQ LQ S' Q vd d w' :=
  ⟨hr, h.quo.bes hb (Ne.symm h.ne), h.div.keep (fun b hp hlt => hb.block b hlt hp.1), h.bel.trans (hb.below (by have := h.row.lt; omega) |>.mono h.hh), h.hh, h.hq, h.ne⟩
theorem DivW.off {w : World} {H L HQ LQ : Nat} {S Q : List Nat} {vd : Value} {d : Nat} {wr : World} (h : DivW w H L HQ LQ S Q vd d wr) : IntsIn (fun b => b ≠ H) wr vd (Lim.ls d) := h.div.weaken (fun _ hp _ => hp.1)
theorem estimate_as (p : Nat → Prop) (H L i t k : Nat) (hkt : k = t + 2) (S : List Nat) (cap d u : Nat) (vd : Value) (w : World) (hR : RowAt H L S w) (hlo : Lim.Lo S) (hu : u = Lim.lv S / Lim.B ^ i) (hk : Lim.nl d = k) (hL : i + k + 1 ≤ L) (hud : u < d * Lim.B) (htop : 500000000 ≤ Lim.pl d (t + 1)) (hd : IntsIn p w vd (Lim.ls d)) (hkl : k ≤ 100000) :
    Calls Tryd.prog 80 #[vd, .slice (some ⟨H, i, none⟩) (k + 1) cap] w fun e w' => ∃ q n : Nat, e = .returned (.int .i64 (q : Int)) ∧ u / d ≤ q ∧ q ≤ u / d + 1 ∧ w' = w.drewN n := by
  subst hkt
  exact estimate_any p H L i t S cap d u vd w hR hlo hu hk hL hud htop hd hkl
set_option maxHeartbeats 8000000 in
theorem dividedBy_long (m n t : Nat) (va vb : Value) (w : World) (hm : IntsIn (fun _ => True) w va (Lim.ls m)) (hn : IntsIn (fun _ => True) w vb (Lim.ls n)) (hml : Lim.nl m ≤ 100000) (hk : Lim.nl n = t + 2) (hle : t + 2 ≤ Lim.nl m) :
    Calls Tryd.prog 67 #[va, vb] w (Divided m n w) := by
  obtain ⟨i0, hi0, hz0, hz1, hz2⟩ := info_parts infoI
  obtain ⟨s, hs⟩ : ∃ s, s = Lim.B / (Lim.pl n (t + 1) + 1) := ⟨_, rfl⟩
  have htop := scaled_top (t := t + 1) (by rw [hk]) hs
  obtain ⟨b, cb, rfl, b1, b2, b3⟩ := hn.open_
  obtain ⟨bb, ob, rfl, _, hcb⟩ := b3 (by rw [show (Lim.ls n).length = t + 2 from hk]; omega)
  have hcell := hcb (t + 1) (by rw [show (Lim.ls n).length = t + 2 from hk]; omega)
  rw [Lim.pl_ls] at hcell
  obtain ⟨a, ca, rfl, a1, a2, a3⟩ := hm.open_
  have HM := Lib.hid hm
  have HN := Lib.hid hn
  have HML := Lib.hid hml
  have HK := Lib.hid hk
  have HTOP := Lib.hid htop
  obtain ⟨na, hna⟩ : ∃ na, na = (Lim.ls m).length := ⟨_, rfl⟩
  obtain ⟨k, hkk⟩ : ∃ k, k = (Lim.ls n).length := ⟨_, rfl⟩
  have hnA : Lim.nl m = na := hna.symm
  have hkt : k = t + 2 := by rw [hkk]; exact hk
  rw [hnA] at hml hle
  rw [← hna] at a1
  rw [← hkk] at b1
  obtain ⟨v, hv⟩ : ∃ v, v = Lim.pl n (t + 1) := ⟨_, rfl⟩
  have hvB := Lim.pl_lt n (t + 1)
  rw [← hv] at hcell hs hvB
  obtain ⟨k1, hk1⟩ : ∃ k1, k1 = t + 1 := ⟨_, rfl⟩
  rw [← hk1] at hcell
  rw [Lim.B_eq] at hs hvB
  have f1 : (k : Int) - 1 = (k1 : Int) := by omega
  have f2 : IntKind.i64.wrap (k1 : Int) = (k1 : Int) := IntWalk.i64_in _ (by omega)
  have f3 : IntKind.i64.wrap ((v : Int) + 1) = (v : Int) + 1 := IntWalk.i64_in _ (by omega)
  have hs1 : s ≤ 1000000000 := by rw [hs]; exact Nat.div_le_self _ _
  have f4 : ((1000000000 : Int)).tdiv ((v : Int) + 1) = (s : Int) := by rw [Int.tdiv_eq_ediv_of_nonneg (by omega), hs]; exact (Int.natCast_ediv 1000000000 (v + 1)).symm
  have f5 : IntKind.i64.wrap (s : Int) = (s : Int) := IntWalk.i64_in _ (by omega)
  have f6 : ((v : Int) + 1 == 0) = false := beq_eq_false_iff_ne.2 (by omega)
  have f7 : ¬ (v : Int) + 1 = 0 := by omega
  have f8 : ((k : Int) == 1) = false := beq_eq_false_iff_ne.2 (by omega)
  have f9 : ¬ k = 1 := by omega
  have f10 : (k1 : Int) < (k : Int) := by omega
  have f11 : (0 : Int) ≤ (k1 : Int) := by omega
  have f12 : ¬ na < k := by omega
  obtain ⟨LQ, hLQ⟩ : ∃ LQ, LQ = na - k + 1 := ⟨_, rfl⟩
  obtain ⟨L, hL⟩ : ∃ L, L = na + 1 := ⟨_, rfl⟩
  have f13 : IntKind.i64.wrap ((na : Int) - (k : Int)) = (na : Int) - (k : Int) := IntWalk.i64_in _ (by omega)
  have f14 : (na : Int) - (k : Int) + 1 = (LQ : Int) := by omega
  have f15 : IntKind.i64.wrap (LQ : Int) = (LQ : Int) := IntWalk.i64_in _ (by omega)
  have f16 : IntKind.i64.wrap ((LQ : Int) - 1) = (LQ : Int) - 1 := IntWalk.i64_in _ (by omega)
  have hkL : LQ + k = L := by omega
  have hL6 : L ≤ 100001 := by omega
  have HNA := Lib.hid hna
  have HKK := Lib.hid hkk
  have HKT := Lib.hid hkt
  have HS := Lib.hid hs
  have HLQ := Lib.hid hLQ
  have HLL := Lib.hid hL
  have hml2 : na ≤ 100000 := hml
  have hk2 : 2 ≤ k := by omega
  rw [← hna] at HM
  rw [← hkk] at HN
  rw [← hna, ← hkk]
  clear hm hn hml hk htop hna hkk hv hs hk1 hLQ hL hcb b3 a3 hnA hkt hle
  go_enter Tryd.func67, Tryd.ntmps67
  go_wp2_with fail
  refine (scaled_any m s _ _ HM.out HML.out HTOP.out.2.2.2.1).mono ?_
  rintro e w1 ⟨H, S, rfl, hR, hSlo, hSv, hHw, hB1⟩
  rw [show Lim.nl m + 1 = L by rw [HLL.out, HNA.out]; rfl] at hR ⊢
  have HR := Lib.hid hR
  have HSL := Lib.hid hSlo
  have HSV := Lib.hid hSv
  have HHW := Lib.hid hHw
  have HB1 := Lib.hid hB1
  have HNW := Lib.hid (HN.out.below hB1)
  clear hR hSlo hSv hHw hB1
  go_wp2_with fail
  refine (scaled_any n s _ _ HNW.out (by rw [HK.out, ← HKT.out]; omega) HTOP.out.2.2.2.1).mono ?_
  rintro e w2 ⟨H2, S2, rfl, hR2, hS2lo, hS2v, hH2w, hB2⟩
  have hne : H2 ≠ H := by have := HR.out.lt; omega
  have hI2 := hR2.ints (fun b => b ≠ H) hne (by rw [HK.out, ← HKT.out]; omega)
  have HR1 := Lib.hid (HR.out.below hB2)
  have HB2 := Lib.hid (HB1.out.trans (hB2.mono HB1.out.size))
  have HI2 := Lib.hid hI2
  have HS2L := Lib.hid hS2lo
  have HS2V := Lib.hid hS2v
  clear hR2 hS2lo hS2v hH2w hB2 hI2 hne HR HB1 HNW
  go_wp2_with fail
  refine (trimmed_any _ _ _ _ HI2.out HS2L.out).mono ?_
  rintro e w7 ⟨vd, rfl, hvd, rfl⟩
  rw [HS2V.out] at hvd
  have HVD := Lib.hid hvd
  clear hvd HI2
  obtain ⟨d, hd⟩ : ∃ d, d = n * s := ⟨_, rfl⟩
  go_wp2_with (at_make; refine wpList_make_full _ rfl _ _ 80 rfl w2.heap.size 3 i0 (.int .i64 0) 1 Tryd.underlying80 hi0 hz0 hz1 _ _ _ _ LQ rfl rfl (by first | rfl | omega) (by first | rfl | omega) (by rw [hz2]; omega) (by unfold maxLen; omega) (Nat.le_refl _) ?_)
  intro w3 hown hgrow
  have hB3 : Below w2.heap.size w2 w3 := (Below.refl _ _).grown hgrow (Nat.le_refl _) (fun k h => by cases h)
  obtain ⟨HQ, hHQ⟩ : ∃ HQ, HQ = w2.heap.size := ⟨_, rfl⟩
  have hW3 : Hid (DivW w H L HQ LQ S (List.replicate LQ 0) vd d w3) := Lib.hid ⟨HR1.out.below hB3, ⟨by simp, by rw [← zeros_row, hHQ]; exact hown⟩, by
      rw [hd]
      exact (HVD.out.weaken (q := fun b => b ≠ H ∧ b ≠ HQ) (fun b h1 h2 => ⟨h1, by omega⟩)).below hB3, HB2.out.trans (hB3.mono HB2.out.size), HHW.out, by rw [hHQ]; exact HB2.out.size, by have := HR1.out.lt; omega⟩
  have hD3 : Hid (DivSt (m * s) d LQ S (List.replicate LQ 0)) := Lib.hid (by rw [hd]; exact DivSt.start HSL.out HSV.out HNA.out.symm HKK.out.symm (by omega) (by have := HKT.out; have := HLQ.out; omega) HTOP.out.2.2.1 HLQ.out)
  have hnld : Lim.nl d = k := by rw [hd, HTOP.out.1, HKT.out]
  have hd0 : 0 < d := by rw [hd]; exact HTOP.out.2.2.2.2.2
  have hdB : d < Lim.B ^ k := Lim.nl_le.1 (Nat.le_of_eq hnld)
  have hdt : 500000000 ≤ Lim.pl d (t + 1) := by rw [hd]; exact HTOP.out.2.1
  have HD := Lib.hid hd
  have HNLD := Lib.hid hnld
  have HD0 := Lib.hid hd0
  have HDB := Lib.hid hdB
  have HDT := Lib.hid hdt
  clear hown hgrow hB3 hd hnld hd0 hdB hdt HR1 HVD HSL HSV
  go_wp2_with fail
  simp only [← hHQ]
  clear hHQ
  go_loopw [11] (fun ii wr => ∃ (i : Nat) (S Q : List Nat), i ≤ LQ ∧ ii = .int .i64 ((i : Int) - 1) ∧ Hid (DivSt (m * s) d i S Q) ∧ Hid (DivW w H L HQ LQ S Q vd d wr)) (fun ii _ => (intOf ii + 1).toNat)
  case atStart => exact ⟨LQ, S, _, Nat.le_refl _, rfl, hD3, hW3⟩
  case round =>
    clear hD3 hW3
    obtain ⟨i', S, Q, hi, rfl, hD, hW⟩ := hrel
    by_cases hlt : 0 < i'
    · obtain ⟨i, rfl⟩ : ∃ i, i' = i + 1 := ⟨i' - 1, by omega⟩
      obtain ⟨u, hu⟩ := hD.out.part HD0.out
      have HU := Lib.hid hu
      have e0 : ((i + 1 : Nat) : Int) - 1 = (i : Int) := by omega
      have g0 : (0 : Int) ≤ (i : Int) := by omega
      have g1 : IntKind.i64.wrap ((i : Int) + (k : Int)) = (i : Int) + (k : Int) := IntWalk.i64_in _ (by omega)
      have g2 : IntKind.i64.wrap ((i : Int) + (k : Int) + 1) = (i : Int) + (k : Int) + 1 := IntWalk.i64_in _ (by omega)
      have g3 : (i : Int) ≤ (i : Int) + (k : Int) + 1 := by omega
      have g4 : (i : Int) + (k : Int) + 1 ≤ (L : Int) := by omega
      have g5 : ¬ L - i = 0 := by omega
      have g6 : (i : Int) + (k : Int) + 1 - (i : Int) = (k : Int) + 1 := by omega
      have g7 : ¬ (L : Int) - (i : Int) = 0 := by omega
      have g8 : (i : Int) < (LQ : Int) := by omega
      have g9 : IntKind.i64.wrap ((i : Int) - 1) = (i : Int) - 1 := IntWalk.i64_in _ (by omega)
      have hiL : i + k + 1 ≤ L := by omega
      clear hu
      go_wp2_with fail
      rw [show i + k + 1 - i = k + 1 by omega]
      refine (estimate_as (fun b => b ≠ H) H L i t k HKT.out S _ d u vd _ hW.out.row hD.out.slo HU.out.is HNLD.out hiL HU.out.lt HDT.out hW.out.off (by omega)).mono ?_
      rintro e w5 ⟨q, nq, rfl, hq1, hq2, hw5⟩
      have hW5 : Hid (DivW w H L HQ LQ S Q vd d w5) := Lib.hid (by rw [hw5]; exact hW.out.drew nq)
      have HQL := Lib.hid hW.out.quo.1
      have HQ1 := Lib.hid hq1
      have HQ2 := Lib.hid hq2
      have hqB : Hid (q ≤ Lim.B) := Lib.hid (by
        have := (Nat.div_lt_iff_lt_mul HD0.out).2 (by rw [Nat.mul_comm]; exact HU.out.lt : u < Lim.B * d)
        omega)
      have hcs5 := hW5.out.quo.cell i (by omega)
      have hfz5 := hW5.out.quo.frozen i
      generalize Q.getD i 0 = s0 at hcs5
      have hW6 := Lib.hid (hW5.out.putQ i q)
      have hgq : Hid ((Q.set i q).getD i 0 = q) := Lib.hid (by
        rw [List.getD_eq_getElem?_getD, List.getElem?_set_self (by rw [hW5.out.quo.1]; omega)]; rfl)
      have hcs6 := hW6.out.quo.cell i (by omega)
      rw [hgq.out] at hcs6
      clear hw5 hq1 hq2 hW
      go_wp2_with fail
      generalize w5.setCell ⟨HQ, i, none⟩ (.int .i64 (q : Int)) = w6 at hW6 hcs6 ⊢
      refine (subtract_any H L i k S _ d q vd _ hW6.out.row hD.out.slo HNLD.out hiL (by omega) hqB.out hW6.out.off).mono ?_
      rintro e w7 ⟨S', bb', rfl, hsd⟩
      have hW7 := Lib.hid (hW6.out.next hsd.row hsd.bes)
      have HSD := Lib.hid hsd
      clear hsd hW6 hcs6 hcs5 hfz5 hW5
      by_cases hb : bb' = 1
      · have t1 : decide (bb' = 1) = true := decide_eq_true hb
        have hsum := HSD.out.sum
        rw [hb] at hsum
        have hq0 := hD.out.pos HDB.out HU.out HSD.out.lo HSD.out.same hsum
        obtain ⟨q', hq'⟩ : ∃ q', q' = q - 1 := ⟨_, rfl⟩
        have hqB2 := hqB.out
        rw [Lim.B_eq] at hqB2
        have g10 : IntKind.i64.wrap ((q : Int) - 1) = (q' : Int) := by rw [IntWalk.i64_in _ (by omega)]; omega
        have HSUM := Lib.hid hsum
        have HQ' := Lib.hid hq'
        have hcs7 := hW7.out.quo.cell i (by omega)
        rw [hgq.out] at hcs7
        have hfz7 := hW7.out.quo.frozen i
        have hW8 := Lib.hid (hW7.out.putQ i q')
        rw [List.set_set] at hW8
        clear hq' hsum hb
        go_wp2_with fail
        generalize w7.setCell ⟨HQ, i, none⟩ (.int .i64 (q' : Int)) = w8 at hW8 ⊢
        refine (addBack_any H L i k S' _ d vd _ hW8.out.row HSD.out.lo HNLD.out hiL (by omega) hW8.out.off).mono ?_
        rintro e w9 ⟨S2, b2, vv, rfl, hbd⟩
        have hW9 := Lib.hid (hW8.out.next hbd.row hbd.bes)
        have hDn := Lib.hid (hD.out.back HD0.out HDB.out HU.out (by rw [HQL.out]; omega) HSD.out.lo HSD.out.same HQ1.out HQ2.out HSUM.out hbd.lo hbd.same hbd.sum).2
        rw [← HQ'.out] at hDn
        clear hbd hW8
        go_wp2_with fail
        refine ⟨⟨i, S2, Q.set i q', by omega, rfl, hDn, hW9⟩, by simp [intOf]⟩
      · have t1 : decide (bb' = 1) = false := decide_eq_false hb
        have hb0 : bb' = 0 := by have := HSD.out.one; omega
        have hsum := HSD.out.sum
        rw [hb0] at hsum
        have hDn := Lib.hid (hD.out.exact HD0.out HDB.out HU.out (by rw [HQL.out]; omega) HSD.out.lo HQ1.out hsum)
        clear hb hb0 hsum
        go_wp2_with fail
        refine ⟨⟨i, S', Q.set i q, by omega, rfl, hDn, hW7⟩, by simp [intOf]⟩
    · obtain rfl : i' = 0 := by omega
      have hdone := hD.out
      rw [HD.out] at hdone
      have hfin := hdone.done HTOP.out.2.2.1
      have HF := Lib.hid hfin
      have hnl : Hid (Lim.nl (Lim.lv S) ≤ 100000) := Lib.hid (by
        have hn0 : 0 < n := by
          apply Nat.pos_of_ne_zero
          intro e0
          have := HK.out
          rw [e0, Lim.nl_zero] at this
          omega
        have h1 : Lim.lv S < d := by
          rw [hfin.2.1, HD.out]
          exact Nat.mul_lt_mul_of_pos_right (Nat.mod_lt _ hn0) HTOP.out.2.2.1
        have h2 := Lim.nl_mono (Nat.le_of_lt h1)
        rw [HNLD.out] at h2
        omega)
      have HSLO := Lib.hid hdone.slo
      have HQLO := Lib.hid hdone.qlo
      clear hdone hfin hD
      go_wp2_with fail
      refine (trimmed_any (fun _ => True) _ _ _ (hW.out.row.ints _ trivial (by omega)) HSLO.out).mono ?_
      rintro e w7 ⟨v1, rfl, hv1, rfl⟩
      have HV1 := Lib.hid hv1
      clear hv1
      go_wp2_with fail
      refine (byLimb_any (Lim.lv S) s v1 _ HV1.out hnl.out HTOP.out.2.2.1 HTOP.out.2.2.2.1).mono ?_
      rintro e w8 ⟨v2, rfl, hv2, hb8⟩
      rw [HF.out.2.2] at hv2
      have HV2 := Lib.hid (hv2.weaken (q := fun _ => True) (fun _ _ _ => trivial))
      have HQ8 := Lib.hid (hW.out.quo.below hb8)
      have HB8 := Lib.hid (hW.out.bel.trans (hb8.mono hW.out.bel.size))
      generalize Lim.lv S % s = rr
      clear hv2 hb8
      go_wp2_with fail
      refine (trimmed_any (fun _ => True) _ _ _ (HQ8.out.ints _ trivial (by omega)) HQLO.out).mono ?_
      rintro e w9 ⟨v3, rfl, hv3, rfl⟩
      rw [HF.out.1] at hv3
      have HV3 := Lib.hid hv3
      clear hv3
      go_wp2_with fail
      go_ret2
      exact ⟨v3, v2, rfl, HV3.out, HV2.out, HB8.out⟩
end Go.Proofs.YtbcoblpnihdhgaaDoor

/-
  The program's Div of layer 3.
-/
set_option linter.unusedVariables false
set_option maxRecDepth 100000
namespace Go.Proofs.YtbcoblpnihdhgaaDoor
open Go.RowKit
theorem pDiv_bad1 (a b : ByteArray) (w : World) (ha : validB a = false) :
    Calls Tryd.prog 70 #[.string a, .string b] w fun e w' => e = .returned (.tuple #[.string ⟨#[]⟩, .string ⟨#[]⟩, .int .i64 1]) ∧ w = w' := by
  have HA := Lib.hid ha
  clear ha
  go_enter Tryd.func70, Tryd.ntmps70
  go_wp2_with fail
  refine (pvalid_any a _).mono ?_
  rintro e w1 ⟨rfl, rfl⟩
  rw [HA.out]
  go_wp2_with fail
  go_ret3
  exact ⟨rfl, rfl⟩
theorem pDiv_bad2 (a b : ByteArray) (w : World) (ha : validB a = true) (hb : validB b = false) :
    Calls Tryd.prog 70 #[.string a, .string b] w fun e w' => e = .returned (.tuple #[.string ⟨#[]⟩, .string ⟨#[]⟩, .int .i64 1]) ∧ w = w' := by
  have HA := Lib.hid ha
  clear ha
  have HB := Lib.hid hb
  clear hb
  go_enter Tryd.func70, Tryd.ntmps70
  go_wp2_with fail
  refine (pvalid_any a _).mono ?_
  rintro e w1 ⟨rfl, rfl⟩
  rw [HA.out]
  go_wp2_with fail
  refine (pvalid_any b _).mono ?_
  rintro e w1 ⟨rfl, rfl⟩
  rw [HB.out]
  go_wp2_with fail
  go_ret3
  exact ⟨rfl, rfl⟩
set_option maxHeartbeats 1000000 in
theorem pDiv_zero (a b : ByteArray) (w : World) (ha : validB a = true) (hb : validB b = true) (h : Dec.val (tl b) = 0) (q : (b.toList == [48]) = true) :
    Calls Tryd.prog 70 #[.string a, .string b] w fun e w' => e = .returned (.tuple #[.string ⟨#[]⟩, .string ⟨#[]⟩, .int .i64 14]) ∧ Below w.heap.size w w' := by
  have HA := Lib.hid ha
  have HB := Lib.hid hb
  have SA := valid_size ha
  have SB := valid_size hb
  have PA := valid_pos ha
  have PB := valid_pos hb
  have NA := Lib.hid (valid_norm ha)
  have NB := Lib.hid (valid_norm hb)
  clear ha hb
  clear h
  go_enter Tryd.func70, Tryd.ntmps70
  go_wp2_with fail
  refine (pvalid_any a _).mono ?_
  rintro e w1 ⟨rfl, rfl⟩
  rw [HA.out]
  go_wp2_with fail
  refine (pvalid_any b _).mono ?_
  rintro e w1 ⟨rfl, rfl⟩
  rw [HB.out]
  go_wp2_with fail
  go_ret3
  exact ⟨rfl, Below.refl _ _⟩
theorem dividedBy_any (m n : Nat) (va vb : Value) (w : World) (hm : IntsIn (fun _ => True) w va (Lim.ls m)) (hn : IntsIn (fun _ => True) w vb (Lim.ls n)) (hml : Lim.nl m ≤ 100000) (hnl : Lim.nl n ≤ 100000) (hn0 : n ≠ 0) :
    Calls Tryd.prog 67 #[va, vb] w (Divided m n w) := by
  have h1 := Lim.nl_pos.2 hn0
  by_cases c : Lim.nl n = 1
  · exact dividedBy_one m n va vb w hm hn hml c
  · by_cases c2 : Lim.nl m < Lim.nl n
    · exact dividedBy_short m n va vb w hm hn hml hnl c c2
    · exact dividedBy_long m n (Lim.nl n - 2) va vb w hm hn hml (by omega) (by omega)
set_option maxHeartbeats 1000000 in
theorem pDiv_ok (a b : ByteArray) (w : World) (ha : validB a = true) (hb : validB b = true) (h : Dec.val (tl b) ≠ 0) (q : (b.toList == [48]) = false) :
    Calls Tryd.prog 70 #[.string a, .string b] w fun e w' => e = .returned (.tuple #[.string (nS (Dec.val (tl a) / Dec.val (tl b))), .string (nS (Dec.val (tl a) % Dec.val (tl b))), .int .i64 0]) ∧ Below w.heap.size w w' := by
  obtain ⟨x, hx⟩ : ∃ x, x = Dec.val (tl a) := ⟨_, rfl⟩
  obtain ⟨y, hy⟩ : ∃ y, y = Dec.val (tl b) := ⟨_, rfl⟩
  obtain ⟨k, hk⟩ : ∃ k, k = 1000 := ⟨_, rfl⟩
  have hxl := valid_lt ha k hk
  have hyl := valid_lt hb k hk
  rw [← hx] at hxl ⊢
  rw [← hy] at hyl h ⊢
  have hxs : Hid (Lim.nl x ≤ 100000) := Lib.hid (nl_small hxl (by omega))
  have hys : Hid (Lim.nl y ≤ 100000) := Lib.hid (nl_small hyl (by omega))
  have hqs : Hid (Lim.nl (x / y) ≤ 100000) := Lib.hid (Nat.le_trans (Lim.nl_mono (Nat.div_le_self _ _)) hxs.out)
  have hrs : Hid (Lim.nl (x % y) ≤ 100000) := Lib.hid (Nat.le_trans (Lim.nl_mono (Nat.mod_le _ _)) hxs.out)
  have HX := Lib.hid hx
  have HY := Lib.hid hy
  have HA := Lib.hid ha
  have HB := Lib.hid hb
  have HN := Lib.hid h
  clear ha hb hx hy hxl hyl h hk
  go_enter Tryd.func70, Tryd.ntmps70
  go_wp2_with fail
  refine (pvalid_any a _).mono ?_
  rintro e w1 ⟨rfl, rfl⟩
  rw [HA.out]
  go_wp2_with fail
  refine (pvalid_any b _).mono ?_
  rintro e w1 ⟨rfl, rfl⟩
  rw [HB.out]
  go_wp2_with fail
  refine (limbsOf_any a _ (valid_norm HA.out).all (by have := valid_size HA.out; omega)).mono ?_
  rintro e w1 ⟨va, rfl, hva, hb1⟩
  rw [← HX.out] at hva
  have HVA := Lib.hid hva
  have HB1 := Lib.hid hb1
  clear hva hb1
  go_wp2_with fail
  refine (limbsOf_any b _ (valid_norm HB.out).all (by have := valid_size HB.out; omega)).mono ?_
  rintro e w2 ⟨vb, rfl, hvb, hb2⟩
  rw [← HY.out] at hvb
  have HVA2 := Lib.hid ((HVA.out.below hb2).weaken (q := fun _ => True) (fun _ _ _ => trivial))
  have HVB := Lib.hid (hvb.weaken (q := fun _ => True) (fun _ _ _ => trivial))
  have HB2 := Lib.hid (HB1.out.trans (hb2.mono HB1.out.size))
  clear hvb hb2 HVA HB1
  go_wp2_with fail
  refine (dividedBy_any x y va vb _ HVA2.out HVB.out hxs.out hys.out HN.out).mono ?_
  rintro e w3 ⟨v1, v2, rfl, hv1, hv2, hb3⟩
  have HV1 := Lib.hid hv1
  have HV2 := Lib.hid hv2
  have HB3 := Lib.hid (HB2.out.trans (hb3.mono HB2.out.size))
  clear hv1 hv2 hb3 HB2
  go_wp2_with fail
  refine (digits_any _ (x / y) _ _ HV1.out hqs.out).mono ?_
  rintro e w4 ⟨rfl, hb4⟩
  have HV3 := Lib.hid (HV2.out.below hb4)
  have HB4 := Lib.hid (HB3.out.trans (hb4.mono HB3.out.size))
  clear hb4 HB3
  obtain ⟨R1, hR1⟩ : ∃ R1, R1 = nS (x / y) := ⟨_, rfl⟩
  rw [show bx (Dec.digs (x / y)) = R1 from hR1.symm]
  have HR1 := Lib.hid hR1
  clear hR1
  go_wp2_with fail
  refine (digits_any _ (x % y) _ _ HV3.out hrs.out).mono ?_
  rintro e w5 ⟨rfl, hb5⟩
  have HB5 := Lib.hid (HB4.out.trans (hb5.mono HB4.out.size))
  clear hb5 HB4
  obtain ⟨R2, hR2⟩ : ∃ R2, R2 = nS (x % y) := ⟨_, rfl⟩
  rw [show bx (Dec.digs (x % y)) = R2 from hR2.symm]
  have HR2 := Lib.hid hR2
  clear hR2
  go_wp2_with fail
  go_ret3
  exact ⟨by rw [← HR1.out, ← HR2.out]; rfl, HB5.out⟩
theorem pDiv_any (a b : ByteArray) (w : World) : Calls Tryd.prog 70 #[.string a, .string b] w (Gives3 (divR a b) w) := by
  by_cases ha : validB a = true
  · by_cases hb : validB b = true
    · by_cases h : Dec.val (tl b) = 0
      · have e : divR a b = (⟨#[]⟩, ⟨#[]⟩, 14) := by unfold divR; rw [ha, hb, if_pos (by rfl), if_pos h]
        rw [e]; exact pDiv_zero a b w ha hb h (by rw [zero_str hb]; exact decide_eq_true h)
      · have e : divR a b = (nS (Dec.val (tl a) / Dec.val (tl b)), nS (Dec.val (tl a) % Dec.val (tl b)), 0) := by unfold divR; rw [ha, hb, if_pos (by rfl), if_neg h]
        rw [e]; exact pDiv_ok a b w ha hb h (by rw [zero_str hb]; exact decide_eq_false h)
    · have e : divR a b = (⟨#[]⟩, ⟨#[]⟩, 1) := by unfold divR; rw [two_not (fun h => hb h.2)]; rfl
      rw [e]
      refine (pDiv_bad2 a b w ha (by simpa using hb)).mono ?_
      rintro e w' ⟨rfl, rfl⟩
      exact ⟨rfl, Below.refl _ _⟩
  · have e : divR a b = (⟨#[]⟩, ⟨#[]⟩, 1) := by unfold divR; rw [two_not (fun h => ha h.1)]; rfl
    rw [e]
    refine (pDiv_bad1 a b w (by simpa using ha)).mono ?_
    rintro e w' ⟨rfl, rfl⟩
    exact ⟨rfl, Below.refl _ _⟩
end Go.Proofs.YtbcoblpnihdhgaaDoor
