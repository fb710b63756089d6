/-
  The walk of the program's combined.
-/
import Derived.Test.YtbcoblpnihdhgaaDoorLmHigh
set_option linter.unusedVariables false
set_option maxRecDepth 100000
namespace Go.Proofs.YtbcoblpnihdhgaaDoor
open Go.RowKit
theorem tmod_fix (z : Int) : ∃ m : Int, z.tmod 1000000000 = m ∧ -1000000000 < m ∧ m < 1000000000 ∧ (m + 1000000000).tmod 1000000000 = z % 1000000000 := by
  rcases (by omega : z < 0 ∨ 0 ≤ z) with h | h
  · refine ⟨-((-z) % 1000000000), ?_, by omega, by omega, ?_⟩
    · rw [show z = -(-z) by omega, Int.neg_tmod, Int.tmod_eq_emod_of_nonneg (by omega)]
      omega
    · rw [Int.tmod_eq_emod_of_nonneg (by omega)]
      omega
  · refine ⟨z % 1000000000, Int.tmod_eq_emod_of_nonneg h, by omega, by omega, ?_⟩
    rw [Int.tmod_eq_emod_of_nonneg (by omega)]
    omega
theorem mul_bound {f : Int} {x : Nat} (h1 : -1000000000 ≤ f) (h2 : f ≤ 1000000000) (hx : x < 1000000000) : -1000000000000000000 ≤ f * (x : Int) ∧ f * (x : Int) ≤ 1000000000000000000 := by
  have hn : (f * (x : Int)).natAbs ≤ 1000000000 * 1000000000 := by
    rw [Int.natAbs_mul]
    exact Nat.mul_le_mul (by omega) (by omega)
  omega
set_option maxHeartbeats 4000000 in
theorem combined_any (A C F : Nat) (f g : Int) (va vb : Value) (w : World) (hA : IntsIn (fun _ => True) w va (Lim.ls A)) (hC : IntsIn (fun _ => True) w vb (Lim.ls C)) (hAl : Lim.nl A ≤ 100000) (hCl : Lim.nl C ≤ Lim.nl A) (hf1 : -1000000000 ≤ f) (hf2 : f ≤ 1000000000) (hg1 : -1000000000 ≤ g) (hg2 : g ≤ 1000000000) (hF : (F : Int) = f * (A : Int) + g * (C : Int)) (hFb : Lim.nl F ≤ Lim.nl A) :
    Calls Tryd.prog 68 #[va, vb, .int .i64 f, .int .i64 g] w fun e w' => ∃ v', e = .returned v' ∧ IntsIn (fun _ => True) w' v' (Lim.ls F) ∧ Below w.heap.size w w' := by
  obtain ⟨i0, hi0, hz0, hz1, hz2⟩ := info_parts infoI
  obtain ⟨a, ca, rfl, a1, a2, a3⟩ := hA.open_
  obtain ⟨b, cb, rfl, b1, b2, b3⟩ := hC.open_
  have A3 := Lib.hid a3
  have B3 := Lib.hid b3
  obtain ⟨na, hna⟩ : ∃ na, na = (Lim.ls A).length := ⟨_, rfl⟩
  obtain ⟨nb, hnb⟩ : ∃ nb, nb = (Lim.ls C).length := ⟨_, rfl⟩
  have hmA : Hid (Lim.nl A = na) := Lib.hid hna.symm
  have hmC : Hid (Lim.nl C = nb) := Lib.hid hnb.symm
  rw [← hna] at a1 ⊢
  rw [← hnb] at b1 ⊢
  rw [hmA.out] at hAl hCl hFb
  rw [hmC.out] at hCl
  have ENA := Lib.hid hna
  have ENB := Lib.hid hnb
  have HF := Lib.hid hF
  have HFB := Lib.hid (Lim.nl_le.1 hFb)
  clear hA hC hna hnb a3 b3 hF hFb
  go_enter Tryd.func68, Tryd.ntmps68
  go_wp2_with (at_make; refine wpList_make_full _ rfl _ _ 80 rfl w.heap.size 3 i0 (.int .i64 0) 1 Tryd.underlying80 hi0 hz0 hz1 _ _ _ _ na rfl rfl (by first | rfl | omega) (by first | rfl | omega) (by rw [hz2]; omega) (by unfold maxLen; omega) (Nat.le_refl _) ?_)
  intro w1 hown hgrow
  have hB1 : Below w.heap.size w w1 := (Below.refl _ _).grown hgrow (Nat.le_refl _) (fun k h => by cases h)
  obtain ⟨H, hH⟩ : ∃ H, H = w.heap.size := ⟨_, rfl⟩
  have hR1 : Hid (RowAt H na (List.replicate na 0) w1) := Lib.hid ⟨by simp, by rw [← zeros_row, hH]; exact hown⟩
  have hC1 : Hid (Comb A C f g 0 (List.replicate na 0) 0) := Lib.hid (Comb.start A C f g na)
  have HHW : Hid (w.heap.size ≤ H) := Lib.hid (Nat.le_of_eq hH.symm)
  clear hown hgrow
  go_wp2_with fail
  simp only [← hH]
  clear hH
  go_loopw [10, 17] (fun cc ii wr => ∃ (i : Nat) (c : Int) (S : List Nat), i ≤ na ∧ ii = .int .i64 (i : Int) ∧ cc = .int .i64 c ∧ Hid (Comb A C f g i S c) ∧ Hid (RowAt H na S wr) ∧ Hid (Below w.heap.size w wr)) (fun _ ii _ => na - (intOf ii).toNat)
  case atStart => exact ⟨0, 0, _, by omega, rfl, rfl, hC1, hR1, Lib.hid hB1⟩
  case round =>
    clear hC1 hR1 hB1
    obtain ⟨i, c, S, hi, rfl, rfl, hC, hR, hB⟩ := hrel
    by_cases hlt : i < na
    · obtain ⟨ba, oa, rfl, _, hca⟩ := A3.out (by rw [← ENA.out]; omega)
      have hca1 := hca i (by rw [← ENA.out]; omega)
      rw [Lim.pl_ls] at hca1
      have hcx := hB.out.cell (p := ⟨ba, oa + i, none⟩) (cell_lt hca1)
      rw [hca1] at hcx
      have hxB := Lim.pl_lt A i
      have hyB := Lim.pl_lt C i
      obtain ⟨x, hx⟩ : ∃ x, x = Lim.pl A i := ⟨_, rfl⟩
      rw [← hx] at hcx hxB
      rw [Lim.B_eq] at hxB hyB
      have hfx := mul_bound hf1 hf2 hxB
      obtain ⟨fa, hfa⟩ : ∃ fa : Int, fa = f * (x : Int) := ⟨_, rfl⟩
      rw [← hfa] at hfx
      have hc1 := hC.out.lo1
      have hc2 := hC.out.hi1
      have e1 : f * (x : Int) = fa := hfa.symm
      have e2 : IntKind.i64.wrap fa = fa := IntWalk.i64_in _ (by omega)
      have e3 : IntKind.i64.wrap (c + fa) = c + fa := IntWalk.i64_in _ (by omega)
      have e4 : IntKind.i64.wrap ((i : Int) + 1) = (i : Int) + 1 := IntWalk.i64_in _ (by omega)
      have e5 : (i : Int) < (na : Int) := by omega
      have hfz := hR.out.frozen i
      have hcs := hR.out.cell i (by omega)
      obtain ⟨s0, hs0⟩ : ∃ s0, s0 = S.getD i 0 := ⟨_, rfl⟩
      rw [← hs0] at hcs
      have HCA := Lib.hid hca
      by_cases c1 : i < nb
      · obtain ⟨bb, ob, rfl, _, hcb⟩ := B3.out (by rw [← ENB.out]; omega)
        have hcb1 := hcb i (by rw [← ENB.out]; omega)
        rw [Lim.pl_ls] at hcb1
        have hcy := hB.out.cell (p := ⟨bb, ob + i, none⟩) (cell_lt hcb1)
        rw [hcb1] at hcy
        obtain ⟨y, hy⟩ : ∃ y, y = Lim.pl C i := ⟨_, rfl⟩
        rw [← hy] at hcy hyB
        have hgy := mul_bound hg1 hg2 hyB
        obtain ⟨gb, hgb⟩ : ∃ gb : Int, gb = g * (y : Int) := ⟨_, rfl⟩
        rw [← hgb] at hgy
        obtain ⟨z, hz⟩ : ∃ z : Int, z = c + fa + gb := ⟨_, rfl⟩
        obtain ⟨m, hm1, hm2, hm3, hm4⟩ := tmod_fix z
        obtain ⟨d, hd⟩ : ∃ d : Nat, (d : Int) = z % 1000000000 := ⟨(z % 1000000000).toNat, by omega⟩
        obtain ⟨e', he⟩ : ∃ e' : Int, e' = z / 1000000000 := ⟨_, rfl⟩
        have hCn := Lib.hid (hC.out.next (by rw [hR.out.1]; exact hlt) z (by rw [hz, hfa, hgb, hx, hy]) (by omega) d e' hd he)
        rw [← hd] at hm4
        have e6 : g * (y : Int) = gb := hgb.symm
        have e7 : IntKind.i64.wrap gb = gb := IntWalk.i64_in _ (by omega)
        have e8 : c + fa + gb = z := hz.symm
        have e9 : IntKind.i64.wrap z = z := IntWalk.i64_in _ (by omega)
        have e10 : IntKind.i64.wrap m = m := IntWalk.i64_in _ (by omega)
        have e11 : IntKind.i64.wrap (m + 1000000000) = m + 1000000000 := IntWalk.i64_in _ (by omega)
        have e12 : IntKind.i64.wrap (d : Int) = (d : Int) := IntWalk.i64_in _ (by omega)
        have e13 : IntKind.i64.wrap (z - (d : Int)) = z - (d : Int) := IntWalk.i64_in _ (by omega)
        have e14 : (z - (d : Int)).tdiv 1000000000 = e' := by
          rw [show z - (d : Int) = 1000000000 * e' by omega]
          exact Int.mul_tdiv_cancel_left _ (by omega)
        have e15 : IntKind.i64.wrap e' = e' := IntWalk.i64_in _ (by omega)
        have e16 : (i : Int) < (nb : Int) := by omega
        have HCB := Lib.hid hcb
        clear hz hd he hx hy hfa hgb hca hca1 hcb hcb1 hm2 hm3 hs0
        go_wp2_with fail
        refine ⟨⟨i + 1, e', S.set i d, by omega, by simp, rfl, hCn, Lib.hid (hR.out.store i d), Lib.hid (hB.out.setCell (p := ⟨H, i, none⟩) HHW.out _)⟩, by simp [intOf]; omega⟩
      · have hyz : Lim.pl C i = 0 := Lim.pl_out (by rw [hmC.out]; omega)
        obtain ⟨z, hz⟩ : ∃ z : Int, z = c + fa := ⟨_, rfl⟩
        obtain ⟨m, hm1, hm2, hm3, hm4⟩ := tmod_fix z
        obtain ⟨d, hd⟩ : ∃ d : Nat, (d : Int) = z % 1000000000 := ⟨(z % 1000000000).toNat, by omega⟩
        obtain ⟨e', he⟩ : ∃ e' : Int, e' = z / 1000000000 := ⟨_, rfl⟩
        have hCn := Lib.hid (hC.out.next (by rw [hR.out.1]; exact hlt) z (by rw [hz, hfa, hx, hyz]; simp) (by omega) d e' hd he)
        rw [← hd] at hm4
        have e8 : c + fa = z := hz.symm
        have e9 : IntKind.i64.wrap z = z := IntWalk.i64_in _ (by omega)
        have e10 : IntKind.i64.wrap m = m := IntWalk.i64_in _ (by omega)
        have e11 : IntKind.i64.wrap (m + 1000000000) = m + 1000000000 := IntWalk.i64_in _ (by omega)
        have e12 : IntKind.i64.wrap (d : Int) = (d : Int) := IntWalk.i64_in _ (by omega)
        have e13 : IntKind.i64.wrap (z - (d : Int)) = z - (d : Int) := IntWalk.i64_in _ (by omega)
        have e14 : (z - (d : Int)).tdiv 1000000000 = e' := by
          rw [show z - (d : Int) = 1000000000 * e' by omega]
          exact Int.mul_tdiv_cancel_left _ (by omega)
        have e15 : IntKind.i64.wrap e' = e' := IntWalk.i64_in _ (by omega)
        have e16 : ¬ (i : Int) < (nb : Int) := by omega
        clear hz hd he hx hfa hca hca1 hm2 hm3 hs0 hyz e3
        go_wp2_with fail
        refine ⟨⟨i + 1, e', S.set i d, by omega, by simp, rfl, hCn, Lib.hid (hR.out.store i d), Lib.hid (hB.out.setCell (p := ⟨H, i, none⟩) HHW.out _)⟩, by simp [intOf]; omega⟩
    · obtain rfl : na = i := by omega
      have hdone := hC.out.done (by rw [hmA.out]; exact Nat.le_refl _) (by rw [hmC.out]; exact hCl) hR.out.1 HF.out HFB.out
      have HDN := Lib.hid hdone
      have HLO := Lib.hid hC.out.lo
      clear hdone
      go_wp2_with fail
      refine (trimmed_any (fun _ => True) _ _ _ (hR.out.ints _ trivial (by omega)) HLO.out).mono ?_
      rintro e w7 ⟨v', rfl, hv, rfl⟩
      rw [HDN.out] at hv
      have HV := Lib.hid hv
      clear hv
      go_wp2_with fail
      go_ret
      exact ⟨v', rfl, HV.out, hB.out⟩
end Go.Proofs.YtbcoblpnihdhgaaDoor
