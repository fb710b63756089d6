/-
  The program's differences of limbs: minus.
-/
import Derived.Test.YtbcoblpnihdhgaaDoorLmPlus
set_option linter.unusedVariables false
set_option maxRecDepth 100000
namespace Go.Proofs.YtbcoblpnihdhgaaDoor
open Go.RowKit
/-- the difference up to a place -/
structure Diffs (m n i : Nat) (S : List Nat) (c : Nat) : Prop where
  lo : Lim.Lo S
  one : c ≤ 1
  zero : ∀ j, i ≤ j → S.getD j 0 = 0
  sum : Lim.lv S + n % Lim.B ^ i = m % Lim.B ^ i + c * Lim.B ^ i
theorem Diffs.start (m n L : Nat) : Diffs m n 0 (List.replicate L 0) 0 :=
  ⟨Lim.Lo.zeros L, by omega, (Sums.start m n L).zero, by rw [Lim.lv_zeros]; simp [Nat.mod_one]⟩
theorem Diffs.next {m n i c : Nat} {S : List Nat} (h : Diffs m n i S c) (hi : i < S.length) :
    Diffs m n (i + 1) (S.set i ((Lim.B + Lim.pl m i - Lim.pl n i - c) % Lim.B)) (1 - (Lim.B + Lim.pl m i - Lim.pl n i - c) / Lim.B) := by
  have h4 := Lim.take_step (S := S) (k := i) (x := 0) (w := c) hi (h.zero i (Nat.le_refl _)) (Lim.pl_lt m i) (Lim.pl_lt n i) h.one
  refine ⟨h.lo.set _ _ (Nat.mod_lt _ Lim.B_pos), h4.2, fun j hj => ?_, ?_⟩
  · rw [getD_set_ne _ _ _ _ (by omega)]; exact h.zero j (by omega)
  · have h5 := h.sum
    rw [Lim.mod_next m i, Lim.mod_next n i]
    omega
theorem Diffs.done {m n i c : Nat} {S : List Nat} (h : Diffs m n i S c) (hm : Lim.nl m ≤ i) (hn : Lim.nl n ≤ i) (hi : i = S.length) (hle : n ≤ m) : Lim.lv S = m - n := by
  have h5 := h.sum
  rw [Lim.mod_all hm, Lim.mod_all hn] at h5
  have h6 := Lim.lv_lt h.lo
  rw [← hi] at h6
  rcases Nat.eq_zero_or_pos c with q | q
  · subst q; omega
  · have : 1 * Lim.B ^ i ≤ c * Lim.B ^ i := Nat.mul_le_mul_right _ q
    omega
theorem Work.made0 {w w1 : World} {L : Nat} (hown : w1.ownsRow (w.heap.size + 1) 3 1 (.slice (some ⟨w.heap.size + 1, 0, none⟩) L L) L (madeCells #[Value.int .i64 0] L).toList) (hgrow : (w.alloc (.cells #[.int .i64 0] 3)).grownBy w1 none) : Work w w.heap.size 0 (w.heap.size + 1) L (List.replicate L 0) w1 := Work.made hown hgrow
set_option maxHeartbeats 2000000 in
theorem minus_any (m n : Nat) (va vb : Value) (w : World) (hm : IntsIn (fun _ => True) w va (Lim.ls m)) (hn : IntsIn (fun _ => True) w vb (Lim.ls n)) (hml : Lim.nl m ≤ 100000) (hle : n ≤ m) :
    Calls Tryd.prog 59 #[va, vb] w fun e w' => ∃ v', e = .returned v' ∧ IntsIn (fun b => w.heap.size ≤ b) w' v' (Lim.ls (m - n)) ∧ Below w.heap.size w w' := by
  have hnl : Lim.nl n ≤ 100000 := Nat.le_trans (Lim.nl_mono hle) hml
  obtain ⟨i0, hi0, hz0, hz1, hz2⟩ := info_parts infoI
  obtain ⟨a, ca, rfl, a1, a2, a3⟩ := hm.open_
  obtain ⟨b, cb, rfl, b1, b2, b3⟩ := hn.open_
  have A3 := Lib.hid a3
  have B3 := Lib.hid b3
  clear a3 b3
  obtain ⟨na, hna⟩ : ∃ na, na = (Lim.ls m).length := ⟨_, rfl⟩
  obtain ⟨nb, hnb⟩ : ∃ nb, nb = (Lim.ls n).length := ⟨_, rfl⟩
  rw [← hna] at a1 ⊢
  rw [← hnb] at b1 ⊢
  have HM := Lib.hid hm
  have HN := Lib.hid hn
  have ENA := Lib.hid hna
  have ENB := Lib.hid hnb
  have hmA : Hid (Lim.nl m = na) := Lib.hid hna.symm
  have hnB : Hid (Lim.nl n = nb) := Lib.hid hnb.symm
  clear hm hn hna hnb
  have hna2 : na ≤ 100000 := by rw [← hmA.out]; exact hml
  have hnb2 : nb ≤ 100000 := by rw [← hnB.out]; exact hnl
  have i1 : IntKind.i64.wrap ((na : Int) + 1) = (na : Int) + 1 := IntWalk.i64_in _ (by omega)
  have i2 : IntKind.i64.wrap ((nb : Int) + 1) = (nb : Int) + 1 := IntWalk.i64_in _ (by omega)
  have hnba : nb ≤ na := by rw [← hmA.out, ← hnB.out]; exact Lim.nl_mono hle
  go_enter Tryd.func59, Tryd.ntmps59
  go_wp2_with fail
  refine (borrower_any _).mono ?_
  rintro e w1 ⟨rfl, rfl⟩
  go_wp2_with (at_make; refine wpList_make_full _ rfl _ _ 80 rfl (w.heap.size + 1) 3 i0 (.int .i64 0) 1 Tryd.underlying80 hi0 hz0 hz1 _ _ _ _ na rfl rfl (by first | rfl | omega) (by first | rfl | omega) (by rw [hz2]; omega) (by unfold maxLen; omega) (by simp) ?_)
  intro w1 hown hgrow
  have hW0 := Work.made hown hgrow
  obtain ⟨C, hC⟩ : ∃ C, C = w.heap.size := ⟨_, rfl⟩
  obtain ⟨H, hH⟩ : ∃ H, H = w.heap.size + 1 := ⟨_, rfl⟩
  have hW := Lib.hid hW0
  simp only [← hH] at hW
  simp only [← hC] at hW
  have hS : Hid (Diffs m n 0 (List.replicate na 0) 0) := Lib.hid (Diffs.start m n na)
  clear hown hgrow hW0
  go_wp2_with fail
  simp only [← hH]
  simp only [← hC]
  clear hH hC
  go_loopw [15] (fun ii wr => ∃ (i c : Nat) (S : List Nat), i ≤ nb ∧ ii = .int .i64 (i : Int) ∧ Hid (Diffs m n i S c) ∧ Hid (Work w C c H na S wr)) (fun ii _ => nb - (intOf ii).toNat)
  case atStart => exact ⟨0, 0, _, by omega, rfl, hS, hW⟩
  case round =>
    clear hS hW
    obtain ⟨i, c, S, hi, rfl, hS, hW⟩ := hrel
    by_cases hlt2 : i < nb
    · obtain ⟨ba, oa, rfl, _, hca⟩ := A3.out (by rw [← ENA.out]; omega)
      obtain ⟨bb, ob, rfl, _, hcb⟩ := B3.out (by rw [← ENB.out]; omega)
      have hca1 := hca i (by rw [← ENA.out]; omega)
      have hcb1 := hcb i (by rw [← ENB.out]; omega)
      rw [Lim.pl_ls] at hca1 hcb1
      have hna1 : ba ≠ C := Nat.ne_of_lt (Nat.lt_of_lt_of_le (cell_lt hca1) hW.out.hc)
      have hnb1 : bb ≠ C := Nat.ne_of_lt (Nat.lt_of_lt_of_le (cell_lt hcb1) hW.out.hc)
      have hnaH : ba ≠ H := Nat.ne_of_lt (Nat.lt_of_lt_of_le (cell_lt hca1) hW.out.hh)
      have hnbH : bb ≠ H := Nat.ne_of_lt (Nat.lt_of_lt_of_le (cell_lt hcb1) hW.out.hh)
      have hcx := hW.out.below.cell (p := ⟨ba, oa + i, none⟩) (cell_lt hca1)
      rw [hca1] at hcx
      have hcy := hW.out.below.cell (p := ⟨bb, ob + i, none⟩) (cell_lt hcb1)
      rw [hcb1] at hcy
      have hnx := Lim.pl_lt m i
      have hny := Lim.pl_lt n i
      have hSn := Lib.hid (hS.out.next (by rw [hW.out.row.1]; omega))
      have hc1 := hS.out.one
      obtain ⟨x, hx⟩ : ∃ x, x = Lim.pl m i := ⟨_, rfl⟩
      obtain ⟨y, hy⟩ : ∃ y, y = Lim.pl n i := ⟨_, rfl⟩
      rw [← hx] at hcx hnx hSn
      rw [← hy] at hcy hny hSn
      have e5 : IntKind.i64.wrap ((i : Int) + 1) = (i : Int) + 1 := IntWalk.i64_in _ (by omega)
      have hiL : i < na := by omega
      have hiL2 : (i : Int) < (na : Int) := by omega
      have hiB : i < na := by omega
      have hiB2 : (i : Int) < (na : Int) := by omega
      have hiS2 : (i : Int) < (nb : Int) := by omega
      have hi0 : (0 : Int) ≤ (i : Int) := by omega
      obtain ⟨d, hd⟩ : ∃ d, d = (Lim.B + x - y - c) % Lim.B := ⟨_, rfl⟩
      obtain ⟨e', he⟩ : ∃ e', e' = 1 - (Lim.B + x - y - c) / Lim.B := ⟨_, rfl⟩
      rw [← hd, ← he] at hSn
      have HD := Lib.hid hd
      have HE := Lib.hid he
      clear hd he
      obtain ⟨s0, hs0⟩ : ∃ s0, s0 = S.getD i 0 := ⟨_, rfl⟩
      have HS0 := Lib.hid hs0
      clear hs0
      have HCA := Lib.hid hca
      have HCB := Lib.hid hcb
      clear hx hy hca hcb hca1 hcb1
      go_wp2_with fail
      go_region_held3 (fun w' => w'.cell? ⟨ba, oa + i, none⟩ = some (.int .i64 (x : Int)) ∧ w'.cell? ⟨bb, ob + i, none⟩ = some (.int .i64 (y : Int))) (first | (with_reducible assumption) | exact ⟨hcx, hcy⟩ | exact ⟨hcx5, hcy5⟩ | exact ⟨cell_put hcx5 hnaH, cell_put hcy5 hnbH⟩) (first | (go_at_call 84; refine (less_as C x y c d e' _ HD.out HE.out ?hw hnx hny hc1).mono ?_; (case hw => exact hW.out.drew.car); rintro e w5 ⟨rfl, hw5⟩; have hW5 : Hid (Work w C e' H na S w5) := Lib.hid (by rw [hw5]; exact hW.out.drew.put e'); have hcx5 : w5.cell? ⟨ba, oa + i, none⟩ = some (.int .i64 (x : Int)) := (by rw [hw5]; exact cell_put hcx hna1); have hcy5 : w5.cell? ⟨bb, ob + i, none⟩ = some (.int .i64 (y : Int)) := (by rw [hw5]; exact cell_put hcy hnb1); have hfz5 := hW5.out.row.frozen i; have hcs5 := hW5.out.row.cell i hiL; rw [← HS0.out] at hcs5; clear hw5) | fail "no arm")
      go_wp2_with fail
      refine ⟨⟨i + 1, e', S.set i d, by omega, by simp, hSn, Lib.hid ?_⟩, by simp [intOf]; omega⟩
      exact hW5.out.store i d
    · obtain rfl : nb = i := by omega
      go_wp2_with fail
      go_loopw [8] (fun ii wr => ∃ (i c : Nat) (S : List Nat), nb ≤ i ∧ i ≤ na ∧ ii = .int .i64 (i : Int) ∧ Hid (Diffs m n i S c) ∧ Hid (Work w C c H na S wr)) (fun ii _ => na - (intOf ii).toNat)
      case atStart => exact ⟨nb, c, S, Nat.le_refl _, by omega, rfl, hS, hW⟩
      case round =>
        clear hS hW
        obtain ⟨i, c, S, hi1, hi2, rfl, hS, hW⟩ := hrel
        by_cases hlt3 : i < na
        · obtain ⟨ba, oa, rfl, _, hca⟩ := A3.out (by rw [← ENA.out]; omega)
          have hca1 := hca i (by rw [← ENA.out]; omega)
          rw [Lim.pl_ls] at hca1
          have hcx := hW.out.below.cell (p := ⟨ba, oa + i, none⟩) (cell_lt hca1)
          rw [hca1] at hcx
          have hnx := Lim.pl_lt m i
          have hSn := Lib.hid (hS.out.next (by rw [hW.out.row.1]; omega))
          rw [Lim.pl_out (n := n) (i := i) (by rw [hnB.out]; exact hi1)] at hSn
          have hc1 := hS.out.one
          obtain ⟨x, hx⟩ : ∃ x, x = Lim.pl m i := ⟨_, rfl⟩
          rw [← hx] at hcx hnx hSn
          have e5 : IntKind.i64.wrap ((i : Int) + 1) = (i : Int) + 1 := IntWalk.i64_in _ (by omega)
          have hiL : i < na := by omega
          have hiL2 : (i : Int) < (na : Int) := by omega
          have hiB2 : (i : Int) < (na : Int) := by omega
          obtain ⟨d, hd⟩ : ∃ d, d = (Lim.B + x - 0 - c) % Lim.B := ⟨_, rfl⟩
          obtain ⟨e', he⟩ : ∃ e', e' = 1 - (Lim.B + x - 0 - c) / Lim.B := ⟨_, rfl⟩
          rw [← hd, ← he] at hSn
          have HD := Lib.hid hd
          have HE := Lib.hid he
          have HCA := Lib.hid hca
          clear hd he hx hca hca1
          go_wp2_with fail
          refine (less_zero C x c d e' _ HD.out HE.out hW.out.car hnx hc1).mono ?_
          rintro e w5 ⟨rfl, hw5⟩
          have hW5 : Hid (Work w C e' H na S w5) := Lib.hid (by rw [hw5]; exact hW.out.put e')
          have hfz5 := hW5.out.row.frozen i
          have hcs5 := hW5.out.row.cell i hiL
          generalize S.getD i 0 = s0 at hcs5
          clear hw5
          go_wp2_with fail
          refine ⟨⟨i + 1, e', S.set i d, by omega, by omega, by simp, hSn, Lib.hid ?_⟩, by simp [intOf]; omega⟩
          exact hW5.out.store i d
        · obtain rfl : na = i := by omega
          have hdone := hS.out.done (by rw [hmA.out]; exact Nat.le_refl _) (by rw [hnB.out]; omega) hW.out.row.1.symm hle
          have HDN := Lib.hid hdone
          have HLO := Lib.hid hS.out.lo
          clear hdone
          have hLm : na ≤ 1000000 := by have := hmA.out; omega
          go_wp2_with fail
          refine (trimmed_any (fun b => w.heap.size ≤ b) _ _ _ (hW.out.row.ints _ hW.out.hh hLm) HLO.out).mono ?_
          rintro e w7 ⟨v', rfl, hv, rfl⟩
          rw [HDN.out] at hv
          have HV := Lib.hid hv
          clear hv
          go_wp2_with fail
          go_ret
          exact ⟨v', rfl, HV.out, hW.out.below⟩
end Go.Proofs.YtbcoblpnihdhgaaDoor
