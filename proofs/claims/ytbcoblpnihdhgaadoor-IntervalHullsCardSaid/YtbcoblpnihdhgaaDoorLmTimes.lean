/-
  The program's products of limbs: times.
-/
import Derived.Test.YtbcoblpnihdhgaaDoorLmPlus
import Derived.Deep.RegionLaw
import Derived.BigRegion
set_option linter.unusedVariables false
set_option maxRecDepth 100000
namespace Go.Proofs.YtbcoblpnihdhgaaDoor
open Go.RowKit
/-- the products up to a row and a place in it -/
structure Prods (m n i k : Nat) (S : List Nat) (c : Nat) : Prop where
  lo : Lim.Lo S
  small : c < Lim.B
  zero : ∀ j, i + Lim.nl n ≤ j → S.getD j 0 = 0
  sum : Lim.lv S + c * Lim.B ^ (i + k) = m % Lim.B ^ i * n + Lim.pl m i * Lim.B ^ i * (n % Lim.B ^ k)
theorem Prods.start (m n L : Nat) : Prods m n 0 0 (List.replicate L 0) 0 :=
  ⟨Lim.Lo.zeros L, Lim.B_pos, fun j _ => (Sums.start m n L).zero j (Nat.zero_le _), by rw [Lim.lv_zeros]; simp [Nat.mod_one]⟩
theorem prod_small {s x y c : Nat} (h1 : s < Lim.B) (h2 : x < Lim.B) (h3 : y < Lim.B) (h4 : c < Lim.B) : s + x * y + c < Lim.B * Lim.B ∧ x * y ≤ 999999998000000001 := by
  rw [Lim.B_eq] at *
  have : x * y ≤ 999999999 * 999999999 := Nat.mul_le_mul (by omega) (by omega)
  omega
theorem Prods.next {m n i k c s : Nat} {S : List Nat} (h : Prods m n i k S c) (hi : i + k < S.length) (hk : k < Lim.nl n) (hs : s = S.getD (i + k) 0) :
    Prods m n i (k + 1) (S.set (i + k) ((s + Lim.pl m i * Lim.pl n k + c) % Lim.B)) ((s + Lim.pl m i * Lim.pl n k + c) / Lim.B) := by
  have hlt := prod_small (h.lo.getD (i + k)) (Lim.pl_lt m i) (Lim.pl_lt n k) h.small
  rw [← hs] at hlt
  refine ⟨h.lo.set _ _ (Nat.mod_lt _ Lim.B_pos), (Nat.div_lt_iff_lt_mul Lim.B_pos).2 hlt.1, fun j hj => ?_, ?_⟩
  · rw [getD_set_ne _ _ _ _ (by omega)]; exact h.zero j hj
  · have h4 := Lim.put_step (S := S) (k := i + k) (x := s) (c := c) (y := Lim.pl m i * Lim.pl n k) hi hs.symm
    have h5 := h.sum
    rw [show i + (k + 1) = i + k + 1 by omega, h4, h5, Lim.mod_next n k, Nat.mul_add, Nat.pow_add]
    have : Lim.pl m i * Lim.pl n k * (Lim.B ^ i * Lim.B ^ k) = Lim.pl m i * Lim.B ^ i * (Lim.pl n k * Lim.B ^ k) := Nat.mul_mul_mul_comm _ _ _ _
    omega
theorem Prods.row {m n i k c : Nat} {S : List Nat} (h : Prods m n i k S c) (hk : k = Lim.nl n) (hi : i + k < S.length) :
    Prods m n (i + 1) 0 (S.set (i + k) c) 0 := by
  refine ⟨h.lo.set _ _ h.small, Lim.B_pos, fun j hj => ?_, ?_⟩
  · rw [getD_set_ne _ _ _ _ (by omega)]; exact h.zero j (by omega)
  · have h4 := Lim.lv_set S (i + k) c hi
    rw [h.zero (i + k) (by omega)] at h4
    have h5 := h.sum
    rw [Lim.mod_all (n := n) (i := k) (by omega)] at h5
    rw [Lim.mod_next m i, Nat.add_mul]
    simp only [Nat.pow_zero, Nat.mod_one, Nat.mul_zero, Nat.zero_mul, Nat.add_zero] at h4 ⊢
    omega
theorem Prods.done {m n i : Nat} {S : List Nat} (h : Prods m n i 0 S 0) (hi : Lim.nl m ≤ i) : Lim.lv S = m * n := by
  have h5 := h.sum
  rw [Lim.mod_all hi] at h5
  simpa [Nat.mod_one] using h5
theorem Work.carrier {w wr : World} {H L : Nat} {S : List Nat} (hR : RowAt H L S wr) (hb : Below w.heap.size w wr) (hh : w.heap.size ≤ H) : Work w wr.heap.size 0 H L S (wr.alloc (.cells #[.int .i64 0] 3)) :=
  ⟨heap_lastM wr _, hR.below (alloc_below wr _), hb.alloc hb.size _, hb.size, hh, Nat.ne_of_gt hR.lt⟩
set_option maxHeartbeats 4000000 in
theorem times_any (m n : Nat) (va vb : Value) (w : World) (hm : IntsIn (fun _ => True) w va (Lim.ls m)) (hn : IntsIn (fun _ => True) w vb (Lim.ls n)) (hml : Lim.nl m ≤ 100000) (hnl : Lim.nl n ≤ 100000) :
    Calls Tryd.prog 52 #[va, vb] w fun e w' => ∃ v', e = .returned v' ∧ IntsIn (fun b => w.heap.size ≤ b) w' v' (Lim.ls (m * n)) ∧ Below w.heap.size w w' := by
  obtain ⟨i0, hi0, hz0, hz1, hz2⟩ := info_parts infoI
  obtain ⟨a, ca, rfl, a1, a2, a3⟩ := hm.open_
  obtain ⟨b, cb, rfl, b1, b2, b3⟩ := hn.open_
  have A3 := Lib.hid a3
  have B3 := Lib.hid b3
  clear a3 b3
  obtain ⟨na, hna⟩ : ∃ na, na = (Lim.ls m).length := ⟨_, rfl⟩
  obtain ⟨nb, hnb⟩ : ∃ nb, nb = (Lim.ls n).length := ⟨_, rfl⟩
  rw [← hna] at a1 ⊢
  rw [← hnb] at b1 ⊢
  have ENA := Lib.hid hna
  have ENB := Lib.hid hnb
  have hmA : Hid (Lim.nl m = na) := Lib.hid hna.symm
  have hnB : Hid (Lim.nl n = nb) := Lib.hid hnb.symm
  clear hm hn hna hnb
  have hna2 : na ≤ 100000 := by rw [← hmA.out]; exact hml
  have hnb2 : nb ≤ 100000 := by rw [← hnB.out]; exact hnl
  obtain ⟨L, hL⟩ : ∃ L, L = na + nb := ⟨_, rfl⟩
  have HL := Lib.hid hL
  have i1 : IntKind.i64.wrap ((na : Int) + (nb : Int)) = (L : Int) := by rw [IntWalk.i64_in _ (by omega)]; omega
  have i2 : (na : Int) + (nb : Int) = (L : Int) := by omega
  have i3 : IntKind.i64.wrap (L : Int) = (L : Int) := IntWalk.i64_in _ (by omega)
  clear hL
  go_enter Tryd.func52, Tryd.ntmps52
  go_wp2_with (at_make; refine wpList_make_full _ rfl _ _ 80 rfl w.heap.size 3 i0 (.int .i64 0) 1 Tryd.underlying80 hi0 hz0 hz1 _ _ _ _ L rfl rfl (by omega) (by omega) (by rw [hz2]; have := HL.out; omega) (by have := HL.out; unfold maxLen; omega) (Nat.le_refl _) ?_)
  intro w1 hown hgrow
  have hB1 : Below w.heap.size w w1 := (Below.refl _ _).grown hgrow (Nat.le_refl _) (fun k h => by cases h)
  obtain ⟨H, hH⟩ : ∃ H, H = w.heap.size := ⟨_, rfl⟩
  have hR1 : Hid (RowAt H L (List.replicate L 0) w1) := Lib.hid ⟨by simp, by rw [← zeros_row, hH]; exact hown⟩
  have hP1 : Hid (Prods m n 0 0 (List.replicate L 0) 0) := Lib.hid (Prods.start m n L)
  have HHW : Hid (w.heap.size ≤ H) := Lib.hid (Nat.le_of_eq hH.symm)
  clear hown hgrow
  go_wp2_with fail
  simp only [← hH]
  clear hH
  go_loopw [17] (fun ii wr => ∃ (i : Nat) (S : List Nat), i ≤ na ∧ ii = .int .i64 (i : Int) ∧ Hid (Prods m n i 0 S 0) ∧ Hid (RowAt H L S wr) ∧ Hid (Below w.heap.size w wr)) (fun ii _ => na - (intOf ii).toNat)
  case atStart => exact ⟨0, _, by omega, rfl, hP1, hR1, Lib.hid hB1⟩
  case round =>
    clear hP1 hR1 hB1
    obtain ⟨i, S, hi, rfl, hP, hR, hB⟩ := hrel
    by_cases hlt : i < na
    · go_wp2_with fail
      refine (carrier_any _).mono ?_
      rintro e w2 ⟨rfl, hw2⟩
      obtain ⟨C, hC⟩ : ∃ C, C = wr.heap.size := ⟨_, rfl⟩
      have hW : Hid (Work w C 0 H L S w2) := Lib.hid (by rw [hw2, hC]; exact Work.carrier hR.out hB.out HHW.out)
      rw [← hC]
      clear hw2 hC hR hB
      go_wp2_with fail
      go_loopw [23] (fun kk wr => ∃ (k c : Nat) (S : List Nat), k ≤ nb ∧ kk = .int .i64 (k : Int) ∧ Hid (Prods m n i k S c) ∧ Hid (Work w C c H L S wr)) (fun kk _ => nb - (intOf kk).toNat)
      case atStart => exact ⟨0, 0, S, by omega, rfl, hP, hW⟩
      case round =>
        clear hP hW
        obtain ⟨k, c, S, hk, rfl, hP, hW⟩ := hrel
        by_cases hlt2 : k < nb
        · obtain ⟨ba, oa, rfl, _, hca⟩ := A3.out (by rw [← ENA.out]; omega)
          obtain ⟨bb, ob, rfl, _, hcb⟩ := B3.out (by rw [← ENB.out]; omega)
          have hca1 := hca i (by rw [← ENA.out]; omega)
          have hcb1 := hcb k (by rw [← ENB.out]; omega)
          rw [Lim.pl_ls] at hca1 hcb1
          have hna1 : ba ≠ C := Nat.ne_of_lt (Nat.lt_of_lt_of_le (cell_lt hca1) hW.out.hc)
          have hnb1 : bb ≠ C := Nat.ne_of_lt (Nat.lt_of_lt_of_le (cell_lt hcb1) hW.out.hc)
          have hnaH : ba ≠ H := Nat.ne_of_lt (Nat.lt_of_lt_of_le (cell_lt hca1) hW.out.hh)
          have hnbH : bb ≠ H := Nat.ne_of_lt (Nat.lt_of_lt_of_le (cell_lt hcb1) hW.out.hh)
          have hcx := hW.out.below.cell (p := ⟨ba, oa + i, none⟩) (cell_lt hca1)
          rw [hca1] at hcx
          have hcy := hW.out.below.cell (p := ⟨bb, ob + k, none⟩) (cell_lt hcb1)
          rw [hcb1] at hcy
          have hiL : i + k < L := by have := HL.out; omega
          have hnx := Lim.pl_lt m i
          have hny := Lim.pl_lt n k
          have hc1 := hP.out.small
          have hns := hP.out.lo.getD (i + k)
          obtain ⟨s0, hs0⟩ : ∃ s0, s0 = S.getD (i + k) 0 := ⟨_, rfl⟩
          rw [← hs0] at hns
          have hPn := Lib.hid (hP.out.next (by rw [hW.out.row.1]; exact hiL) (by rw [hnB.out]; omega) hs0)
          obtain ⟨x, hx⟩ : ∃ x, x = Lim.pl m i := ⟨_, rfl⟩
          obtain ⟨y, hy⟩ : ∃ y, y = Lim.pl n k := ⟨_, rfl⟩
          rw [← hx] at hcx hnx hPn
          rw [← hy] at hcy hny hPn
          have hsm := prod_small hns hnx hny hc1
          obtain ⟨q, hq⟩ : ∃ q, q = x * y := ⟨_, rfl⟩
          rw [← hq] at hPn hsm
          obtain ⟨z, hz⟩ : ∃ z, z = s0 + q := ⟨_, rfl⟩
          rw [← hz] at hPn hsm
          rw [Lim.B_eq] at hns hnx hny hc1 hsm
          have e3 : (x : Int) * (y : Int) = (q : Int) := by rw [hq]; simp
          have e4 : IntKind.i64.wrap (q : Int) = (q : Int) := IntWalk.i64_in _ (by omega)
          have e6 : (s0 : Int) + (q : Int) = (z : Int) := by omega
          have e7 : IntKind.i64.wrap (z : Int) = (z : Int) := IntWalk.i64_in _ (by omega)
          have e5 : IntKind.i64.wrap ((k : Int) + 1) = (k : Int) + 1 := IntWalk.i64_in _ (by omega)
          have e8 : IntKind.i64.wrap ((i : Int) + (k : Int)) = (i : Int) + (k : Int) := IntWalk.i64_in _ (by omega)
          have hzb : z + c ≤ 4000000000000000000 := by omega
          have hiL2 : (i : Int) + (k : Int) < (L : Int) := by omega
          have hiL3 : (0 : Int) ≤ (i : Int) + (k : Int) := by omega
          have hiB2 : (i : Int) < (na : Int) := by omega
          have hiS2 : (k : Int) < (nb : Int) := by omega
          obtain ⟨d, hd⟩ : ∃ d, d = (z + c) % Lim.B := ⟨_, rfl⟩
          obtain ⟨e', he⟩ : ∃ e', e' = (z + c) / Lim.B := ⟨_, rfl⟩
          rw [← hd, ← he] at hPn
          have HD := Lib.hid hd
          have HE := Lib.hid he
          have etn : ((i : Int) + (k : Int)).toNat = i + k := by omega
          have hcs := hW.out.row.cell (i + k) hiL
          rw [← hs0, ← etn] at hcs
          have HS0 := Lib.hid hs0
          have ETN := Lib.hid etn
          have HCA := Lib.hid hca
          have HCB := Lib.hid hcb
          clear hx hy hz hq hca hcb hca1 hcb1 hd he hs0 etn hsm
          go_wp2_with fail
          go_region_law (go_simp; go_at_call 83; refine (carried_as C z c d e' _ HD.out HE.out ?hw hzb).mono ?_; (case hw => first | exact hW.out.drew.car | exact hW.out.car); rintro e w5 ⟨rfl, hw5⟩; have hW5 : Hid (Work w C e' H L S w5) := Lib.hid (by rw [hw5]; first | exact hW.out.drew.put e' | exact hW.out.put e'); have hfz5 := hW5.out.row.frozen (i + k); have hcs5 := hW5.out.row.cell (i + k) hiL; rw [← HS0.out] at hcs5; rw [← ETN.out] at hcs5 hfz5; clear hw5)
          all_goals
            go_wp2_with fail
            refine ⟨⟨k + 1, e', S.set (i + k) d, by omega, by simp, hPn, Lib.hid ?_⟩, by simp [intOf]; omega⟩
            exact hW5.out.store (i + k) d
        · obtain rfl : nb = k := by omega
          have hiL : i + nb < L := by have := HL.out; omega
          have e8 : IntKind.i64.wrap ((i : Int) + (nb : Int)) = (i : Int) + (nb : Int) := IntWalk.i64_in _ (by omega)
          have hiL2 : (i : Int) + (nb : Int) < (L : Int) := by omega
          have hiL3 : (0 : Int) ≤ (i : Int) + (nb : Int) := by omega
          have e5 : IntKind.i64.wrap ((i : Int) + 1) = (i : Int) + 1 := IntWalk.i64_in _ (by omega)
          have hPn := Lib.hid (hP.out.row hnB.out.symm (by rw [hW.out.row.1]; exact hiL))
          go_wp2_with fail
          refine (carried_zero C c _ hW.out.car hP.out.small).mono ?_
          rintro e w5 ⟨rfl, hw5⟩
          have hW5 : Hid (Work w C 0 H L S w5) := Lib.hid (by rw [hw5]; exact hW.out.put 0)
          have hfz5 := hW5.out.row.frozen (i + nb)
          have hcs5 := hW5.out.row.cell (i + nb) hiL
          generalize S.getD (i + nb) 0 = s0 at hcs5
          clear hw5
          go_wp2_with fail
          have hW6 := Lib.hid (hW5.out.store (i + nb) c)
          refine ⟨⟨i + 1, S.set (i + nb) c, by omega, by simp, hPn, Lib.hid ?_, Lib.hid ?_⟩, by simp [intOf]; omega⟩
          · exact hW6.out.row
          · exact hW6.out.below
    · obtain rfl : na = i := by omega
      have hdone := hP.out.done (by rw [hmA.out]; exact Nat.le_refl _)
      have HDN := Lib.hid hdone
      have HLO := Lib.hid hP.out.lo
      have hLm : L ≤ 1000000 := by have := HL.out; omega
      clear hdone
      go_wp2_with fail
      refine (trimmed_any (fun b => w.heap.size ≤ b) _ _ _ (hR.out.ints _ HHW.out hLm) HLO.out).mono ?_
      rintro e w7 ⟨v', rfl, hv, rfl⟩
      rw [HDN.out] at hv
      have HV := Lib.hid hv
      clear hv
      go_wp2_with fail
      go_ret
      exact ⟨v', rfl, HV.out, hB.out⟩
end Go.Proofs.YtbcoblpnihdhgaaDoor
