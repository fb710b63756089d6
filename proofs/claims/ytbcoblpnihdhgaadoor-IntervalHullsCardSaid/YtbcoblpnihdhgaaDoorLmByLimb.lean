/-
  The program's division by one limb, and the multiple in one limb more.
-/
import Derived.Test.YtbcoblpnihdhgaaDoorLmPlus
set_option linter.unusedVariables false
set_option maxRecDepth 100000
namespace Go.Proofs.YtbcoblpnihdhgaaDoor
open Go.RowKit
/-- the quotient from a place on, and what is left -/
structure Quot (m b i : Nat) (S : List Nat) (r : Nat) : Prop where
  lo : Lim.Lo S
  lt : r < b
  zero : ∀ j, j < i → S.getD j 0 = 0
  top : ∃ q, Lim.lv S = q * Lim.B ^ i ∧ m / Lim.B ^ i = q * b + r
theorem Quot.start {m b L : Nat} (hb : 0 < b) (hL : Lim.nl m ≤ L) : Quot m b L (List.replicate L 0) 0 :=
  ⟨Lim.Lo.zeros L, hb, fun j _ => (Sums.start m m L).zero j (Nat.zero_le _), 0, by rw [Lim.lv_zeros, Nat.zero_mul], by rw [Nat.div_eq_of_lt (Lim.nl_le.1 hL)]; simp⟩
theorem Quot.next {m b i r : Nat} {S : List Nat} (h : Quot m b (i + 1) S r) (hi : i < S.length) : Quot m b i (S.set i ((r * Lim.B + Lim.pl m i) / b)) ((r * Lim.B + Lim.pl m i) % b) := by
  have hb : 0 < b := Nat.lt_of_le_of_lt (Nat.zero_le _) h.lt
  have hx : r * Lim.B + Lim.pl m i < Lim.B * b := by
    have h1 := Lim.pl_lt m i
    have h2 : (r + 1) * Lim.B ≤ b * Lim.B := Nat.mul_le_mul_right _ h.lt
    rw [Nat.add_mul, Nat.one_mul] at h2
    rw [Nat.mul_comm Lim.B b]
    omega
  refine ⟨h.lo.set _ _ ((Nat.div_lt_iff_lt_mul hb).2 hx), Nat.mod_lt _ hb, fun j hj => ?_, ?_⟩
  · rw [getD_set_ne _ _ _ _ (by omega)]; exact h.zero j (by omega)
  · obtain ⟨q, h1, h2⟩ := h.top
    refine ⟨q * Lim.B + (r * Lim.B + Lim.pl m i) / b, ?_, ?_⟩
    · have h4 := Lim.lv_set S i ((r * Lim.B + Lim.pl m i) / b) hi
      rw [h.zero i (by omega), h1] at h4
      rw [Nat.add_mul, Nat.mul_assoc, Nat.mul_comm Lim.B, ← Nat.pow_succ]
      show _ = q * Lim.B ^ (i + 1) + _
      omega
    · have e : m / Lim.B ^ i = m / Lim.B ^ (i + 1) * Lim.B + Lim.pl m i := by
        rw [Lim.pl, Nat.pow_succ, ← Nat.div_div_eq_div_mul, Nat.mul_comm _ Lim.B, Nat.div_add_mod]
      have e2 := Nat.div_add_mod' (r * Lim.B + Lim.pl m i) b
      have e3 : (q * b + r) * Lim.B = q * Lim.B * b + r * Lim.B := by rw [Nat.add_mul, Nat.mul_right_comm]
      rw [e, h2, e3, Nat.add_mul]
      generalize hX : r * Lim.B + Lim.pl m i = X at e2 ⊢
      generalize X / b * b = u at e2 ⊢
      generalize X % b = v at e2 ⊢
      generalize q * Lim.B * b = t
      omega
theorem Quot.done {m b r : Nat} {S : List Nat} (h : Quot m b 0 S r) : Lim.lv S = m / b ∧ r = m % b := by
  have hb : 0 < b := Nat.lt_of_le_of_lt (Nat.zero_le _) h.lt
  obtain ⟨q, h1, h2⟩ := h.top
  rw [Nat.pow_zero, Nat.mul_one] at h1
  rw [Nat.pow_zero, Nat.div_one] at h2
  rw [h1, h2, Nat.mul_comm q b]
  exact ⟨by rw [Nat.mul_add_div hb, Nat.div_eq_of_lt h.lt, Nat.add_zero], by rw [Nat.mul_add_mod, Nat.mod_eq_of_lt h.lt]⟩
set_option maxHeartbeats 2000000 in
theorem byLimb_any (m d : Nat) (va : Value) (w : World) (hm : IntsIn (fun _ => True) w va (Lim.ls m)) (hml : Lim.nl m ≤ 100000) (hd0 : 0 < d) (hdB : d < Lim.B) :
    Calls Tryd.prog 78 #[va, .int .i64 (d : Int)] w fun e w' => ∃ v', e = .returned (.tuple #[v', .int .i64 ((m % d : Nat) : Int)]) ∧ IntsIn (fun b => w.heap.size ≤ b) w' v' (Lim.ls (m / d)) ∧ Below w.heap.size w w' := by
  obtain ⟨i0, hi0, hz0, hz1, hz2⟩ := info_parts infoI
  obtain ⟨a, ca, rfl, a1, a2, a3⟩ := hm.open_
  have A3 := Lib.hid a3
  obtain ⟨na, hna⟩ : ∃ na, na = (Lim.ls m).length := ⟨_, rfl⟩
  rw [← hna] at a1 ⊢
  have ENA := Lib.hid hna
  have hmA : Hid (Lim.nl m = na) := Lib.hid hna.symm
  clear hm hna a3
  have hna2 : na ≤ 100000 := by rw [← hmA.out]; exact hml
  have hn1 : IntKind.i64.wrap ((na : Int) - 1) = (na : Int) - 1 := IntWalk.i64_in _ (by omega)
  obtain ⟨R, hR⟩ : ∃ R, R = m % d := ⟨_, rfl⟩
  obtain ⟨Q, hQ⟩ : ∃ Q, Q = m / d := ⟨_, rfl⟩
  have HR := Lib.hid hR
  have HQ := Lib.hid hQ
  rw [← hR, ← hQ]
  clear hR hQ
  rw [Lim.B_eq] at hdB
  go_enter Tryd.func78, Tryd.ntmps78
  go_wp2_with (at_make; refine wpList_make_full _ rfl _ _ 80 rfl w.heap.size 3 i0 (.int .i64 0) 1 Tryd.underlying80 hi0 hz0 hz1 _ _ _ _ na rfl rfl (by first | rfl | omega) (by first | rfl | omega) (by rw [hz2]; omega) (by unfold maxLen; omega) (Nat.le_refl _) ?_)
  intro w1 hown hgrow
  have hB1 : Below w.heap.size w w1 := (Below.refl _ _).grown hgrow (Nat.le_refl _) (fun k h => by cases h)
  obtain ⟨H, hH⟩ : ∃ H, H = w.heap.size := ⟨_, rfl⟩
  have hR1 : Hid (RowAt H na (List.replicate na 0) w1) := Lib.hid ⟨by simp, by rw [← zeros_row, hH]; exact hown⟩
  have hQ1 : Hid (Quot m d na (List.replicate na 0) 0) := Lib.hid (Quot.start hd0 (by rw [hmA.out]; exact Nat.le_refl _))
  have HHW : Hid (w.heap.size ≤ H) := Lib.hid (Nat.le_of_eq hH.symm)
  clear hown hgrow
  go_wp2_with fail
  simp only [← hH]
  clear hH
  go_loopw [5, 6] (fun rr ii wr => ∃ (i r : Nat) (S : List Nat), i ≤ na ∧ ii = .int .i64 ((i : Int) - 1) ∧ rr = .int .i64 (r : Int) ∧ Hid (Quot m d i S r) ∧ Hid (RowAt H na S wr) ∧ Hid (Below w.heap.size w wr)) (fun _ ii _ => (intOf ii + 1).toNat)
  case atStart => exact ⟨na, 0, _, Nat.le_refl _, rfl, rfl, hQ1, hR1, Lib.hid hB1⟩
  case round =>
    clear hQ1 hR1 hB1
    obtain ⟨i', r, S, hi, rfl, rfl, hQ, hR, hB⟩ := hrel
    by_cases hlt : 0 < i'
    · obtain ⟨i, rfl⟩ : ∃ i, i' = i + 1 := ⟨i' - 1, by omega⟩
      obtain ⟨ba, oa, rfl, _, hca⟩ := A3.out (by rw [← ENA.out]; omega)
      have hca1 := hca i (by rw [← ENA.out]; omega)
      rw [Lim.pl_ls] at hca1
      have hcx := hB.out.cell (p := ⟨ba, oa + i, none⟩) (cell_lt hca1)
      rw [hca1] at hcx
      have hnx := Lim.pl_lt m i
      have hQn := Lib.hid (hQ.out.next (by rw [hR.out.1]; omega))
      have hrd := hQ.out.lt
      obtain ⟨x, hx⟩ : ∃ x, x = Lim.pl m i := ⟨_, rfl⟩
      rw [← hx] at hcx hnx hQn
      rw [Lim.B_eq] at hnx hQn
      obtain ⟨z, hz⟩ : ∃ z, z = r * 1000000000 + x := ⟨_, rfl⟩
      rw [← hz] at hQn
      obtain ⟨q, hq⟩ : ∃ q, q = z / d := ⟨_, rfl⟩
      obtain ⟨r', hr'⟩ : ∃ r', r' = z % d := ⟨_, rfl⟩
      rw [← hq, ← hr'] at hQn
      have hqz : q ≤ z := by rw [hq]; exact Nat.div_le_self _ _
      have hrz : r' < d := by rw [hr']; exact Nat.mod_lt _ hd0
      have e0 : ((i + 1 : Nat) : Int) - 1 = (i : Int) := by omega
      have e1 : IntKind.i64.wrap ((r : Int) * 1000000000) = (r : Int) * 1000000000 := IntWalk.i64_in _ (by omega)
      have e2 : (r : Int) * 1000000000 + (x : Int) = (z : Int) := by omega
      have e3 : IntKind.i64.wrap (z : Int) = (z : Int) := IntWalk.i64_in _ (by omega)
      have e4 : ((z : Int)).tdiv (d : Int) = (q : Int) := by rw [Int.tdiv_eq_ediv_of_nonneg (by omega), hq]; exact (Int.natCast_ediv _ _).symm
      have e5 : ((z : Int)).tmod (d : Int) = (r' : Int) := by rw [Int.tmod_eq_emod_of_nonneg (by omega), hr']; exact (Int.natCast_emod _ _).symm
      have e6 : IntKind.i64.wrap (q : Int) = (q : Int) := IntWalk.i64_in _ (by omega)
      have e7 : IntKind.i64.wrap (r' : Int) = (r' : Int) := IntWalk.i64_in _ (by omega)
      have e8 : IntKind.i64.wrap ((i : Int) - 1) = (i : Int) - 1 := IntWalk.i64_in _ (by omega)
      have e9 : ((d : Int) == 0) = false := beq_eq_false_iff_ne.2 (by omega)
      have e10 : ¬ d = 0 := by omega
      have e11 : (i : Int) < (na : Int) := by omega
      have e12 : (0 : Int) ≤ (i : Int) := by omega
      have hfz := hR.out.frozen i
      have hcs := hR.out.cell i (by omega)
      generalize S.getD i 0 = s0 at hcs
      have HCA := Lib.hid hca
      clear hx hz hq hr' hca hca1
      go_wp2_with fail
      go_region
      go_wp2_with fail
      refine ⟨⟨i, r', S.set i q, by omega, rfl, rfl, hQn, Lib.hid ?_, Lib.hid ?_⟩, by simp [intOf]⟩
      · exact (hR.out.store i q).bes (Bes.of ((Below.refl _ _).drew)) (Nat.ne_of_lt (hR.out.store i q).lt)
      · exact (hB.out.setCell (p := ⟨H, i, none⟩) HHW.out _).drew
    · obtain rfl : i' = 0 := by omega
      have hd := hQ.out.done
      rw [← HQ.out, ← HR.out] at hd
      have HD1 := Lib.hid hd.1
      obtain rfl := hd.2
      have HLO := Lib.hid hQ.out.lo
      clear hd
      go_wp2_with fail
      refine (trimmed_any (fun b => w.heap.size ≤ b) _ _ _ (hR.out.ints _ HHW.out (by omega)) HLO.out).mono ?_
      rintro e w7 ⟨v', rfl, hv, rfl⟩
      rw [HD1.out] at hv
      have HV := Lib.hid hv
      clear hv
      go_wp2_with fail
      go_ret2
      exact ⟨v', rfl, HV.out, hB.out⟩
end Go.Proofs.YtbcoblpnihdhgaaDoor
