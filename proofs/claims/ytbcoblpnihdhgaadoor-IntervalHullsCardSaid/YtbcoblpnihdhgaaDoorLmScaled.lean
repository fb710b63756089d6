/-
  The program's multiple in one limb more, and the estimate of a quotient.
-/
import Derived.Test.YtbcoblpnihdhgaaDoorLmPlus
import Derived.Test.YtbcoblpnihdhgaaDoorLmTimes
import Derived.BigQuiet
import Derived.Deep.QuietTactic
set_option linter.unusedVariables false
set_option maxRecDepth 100000
namespace Go.Proofs.YtbcoblpnihdhgaaDoor
open Go.RowKit
theorem Lim.getD_pl : ∀ (S : List Nat) (j : Nat), Lim.Lo S → S.getD j 0 = Lim.pl (Lim.lv S) j
  | [], j, _ => by simp [Lim.lv, Lim.pl]
  | d :: l, j, h => by
    have hd := h d (by simp)
    have hl : Lim.Lo l := fun x hx => h x (by simp [hx])
    cases j with
    | zero => rw [List.getD_cons_zero, Lim.pl, Lim.lv, Nat.pow_zero, Nat.div_one, Nat.add_mul_mod_self_left, Nat.mod_eq_of_lt hd]
    | succ j =>
      rw [List.getD_cons_succ, Lim.getD_pl l j hl, Lim.pl, Lim.pl, Lim.lv, Nat.pow_succ, Nat.mul_comm (Lim.B ^ j), ← Nat.div_div_eq_div_mul, Nat.add_mul_div_left _ _ Lim.B_pos, Nat.div_eq_of_lt hd, Nat.zero_add]
/-- the multiple up to a place -/
structure Scales (m f i : Nat) (S : List Nat) (c : Nat) : Prop where
  lo : Lim.Lo S
  small : c < Lim.B
  zero : ∀ j, i ≤ j → S.getD j 0 = 0
  sum : Lim.lv S + c * Lim.B ^ i = m % Lim.B ^ i * f
theorem Scales.start (m f L : Nat) : Scales m f 0 (List.replicate L 0) 0 :=
  ⟨Lim.Lo.zeros L, Lim.B_pos, fun j _ => (Sums.start m m L).zero j (Nat.zero_le _), by rw [Lim.lv_zeros]; simp [Nat.mod_one]⟩
theorem Scales.next {m f i c : Nat} {S : List Nat} (h : Scales m f i S c) (hf : f < Lim.B) (hi : i < S.length) :
    Scales m f (i + 1) (S.set i ((f * Lim.pl m i + c) % Lim.B)) ((f * Lim.pl m i + c) / Lim.B) := by
  have hlt := prod_small (s := 0) Lim.B_pos hf (Lim.pl_lt m i) h.small
  rw [Nat.zero_add] at hlt
  refine ⟨h.lo.set _ _ (Nat.mod_lt _ Lim.B_pos), (Nat.div_lt_iff_lt_mul Lim.B_pos).2 hlt.1, fun j hj => ?_, ?_⟩
  · rw [getD_set_ne _ _ _ _ (by omega)]; exact h.zero j (by omega)
  · have h4 := Lim.put_step (S := S) (k := i) (x := 0) (c := c) (y := f * Lim.pl m i) hi (h.zero i (Nat.le_refl _))
    have h5 := h.sum
    rw [Nat.zero_add] at h4
    rw [Lim.mod_next m i, Nat.add_mul, h4, h5, Nat.mul_comm f, Nat.mul_right_comm]
theorem Scales.done {m f i c : Nat} {S : List Nat} (h : Scales m f i S c) (hm : Lim.nl m ≤ i) (hi : i < S.length) : Lim.lv (S.set i c) = m * f ∧ Lim.Lo (S.set i c) := by
  refine ⟨?_, h.lo.set _ _ h.small⟩
  have h4 := Lim.lv_set S i c hi
  rw [h.zero i (Nat.le_refl _)] at h4
  have h5 := h.sum
  rw [Lim.mod_all hm] at h5
  omega
/-- a row that a call has made -/
def Made (w : World) (L V : Nat) (e : Ending) (w' : World) : Prop := ∃ H S, e = .returned (.slice (some ⟨H, 0, none⟩) L L) ∧ RowAt H L S w' ∧ Lim.Lo S ∧ Lim.lv S = V ∧ w.heap.size ≤ H ∧ Below w.heap.size w w'
set_option maxHeartbeats 2000000 in
theorem scaled_any (m f : Nat) (va : Value) (w : World) (hm : IntsIn (fun _ => True) w va (Lim.ls m)) (hml : Lim.nl m ≤ 100000) (hf : f < Lim.B) :
    Calls Tryd.prog 79 #[va, .int .i64 (f : Int)] w (Made w (Lim.nl m + 1) (m * f)) := by
  obtain ⟨i0, hi0, hz0, hz1, hz2⟩ := info_parts infoI
  obtain ⟨a, ca, rfl, a1, a2, a3⟩ := hm.open_
  have A3 := Lib.hid a3
  obtain ⟨na, hna⟩ : ∃ na, na = (Lim.ls m).length := ⟨_, rfl⟩
  rw [show Lim.nl m = na from hna.symm] at hml ⊢
  rw [← hna] at a1 ⊢
  have ENA := Lib.hid hna
  have hmA : Hid (Lim.nl m = na) := Lib.hid hna.symm
  clear hm hna a3
  have i1 : IntKind.i64.wrap ((na : Int) + 1) = (na : Int) + 1 := IntWalk.i64_in _ (by omega)
  obtain ⟨V, hV⟩ : ∃ V, V = m * f := ⟨_, rfl⟩
  rw [← hV]
  have HV := Lib.hid hV
  have HF := Lib.hid hf
  clear hV
  rw [Lim.B_eq] at hf
  go_enter Tryd.func79, Tryd.ntmps79
  go_wp2_with fail
  refine (carrier_any _).mono ?_
  rintro e w1 ⟨rfl, rfl⟩
  go_wp2_with (at_make; refine wpList_make_full _ rfl _ _ 80 rfl (w.heap.size + 1) 3 i0 (.int .i64 0) 1 Tryd.underlying80 hi0 hz0 hz1 _ _ _ _ (na + 1) rfl rfl (by first | rfl | omega) (by first | rfl | omega) (by rw [hz2]; omega) (by unfold maxLen; omega) (by simp) ?_)
  intro w1 hown hgrow
  have hW0 := Work.made hown hgrow
  obtain ⟨C, hC⟩ : ∃ C, C = w.heap.size := ⟨_, rfl⟩
  obtain ⟨H, hH⟩ : ∃ H, H = w.heap.size + 1 := ⟨_, rfl⟩
  obtain ⟨L, hL⟩ : ∃ L, L = na + 1 := ⟨_, rfl⟩
  have hW := Lib.hid hW0
  have HL := Lib.hid hL
  simp only [← hH] at hW
  simp only [← hC, ← hL] at hW
  have hS : Hid (Scales m f 0 (List.replicate L 0) 0) := Lib.hid (Scales.start m f L)
  have hlC : (na : Int) + 1 = (L : Int) := by omega
  clear hown hgrow hW0
  go_wp2_with fail
  simp only [← hH]
  simp only [← hC, hlC, ← hL]
  clear hH hC hL
  go_loopw [16] (fun ii wr => ∃ (i c : Nat) (S : List Nat), i ≤ na ∧ ii = .int .i64 (i : Int) ∧ Hid (Scales m f i S c) ∧ Hid (Work w C c H L S wr)) (fun ii _ => na - (intOf ii).toNat)
  case atStart => exact ⟨0, 0, _, by omega, rfl, hS, hW⟩
  case round =>
    clear hS hW
    obtain ⟨i, c, S, hi, rfl, hS, hW⟩ := hrel
    by_cases hlt : i < na
    · obtain ⟨ba, oa, rfl, _, hca⟩ := A3.out (by rw [← ENA.out]; omega)
      have hca1 := hca i (by rw [← ENA.out]; omega)
      rw [Lim.pl_ls] at hca1
      have hcx := hW.out.below.cell (p := ⟨ba, oa + i, none⟩) (cell_lt hca1)
      rw [hca1] at hcx
      have hnx := Lim.pl_lt m i
      have hSn := Lib.hid (hS.out.next HF.out (by rw [hW.out.row.1]; have := HL.out; omega))
      have hc1 := hS.out.small
      obtain ⟨x, hx⟩ : ∃ x, x = Lim.pl m i := ⟨_, rfl⟩
      rw [← hx] at hcx hnx hSn
      have hsm := prod_small (s := 0) Lim.B_pos HF.out hnx hc1
      obtain ⟨z, hz⟩ : ∃ z, z = f * x := ⟨_, rfl⟩
      rw [← hz] at hSn hsm
      rw [Lim.B_eq] at hnx hc1 hsm
      have e3 : (f : Int) * (x : Int) = (z : Int) := by rw [hz]; simp
      have e4 : IntKind.i64.wrap (z : Int) = (z : Int) := IntWalk.i64_in _ (by omega)
      have e5 : IntKind.i64.wrap ((i : Int) + 1) = (i : Int) + 1 := IntWalk.i64_in _ (by omega)
      have hzb : z + c ≤ 4000000000000000000 := by omega
      have hiL : i < L := by have := HL.out; omega
      have hiL2 : (i : Int) < (L : Int) := by omega
      have hiB2 : (i : Int) < (na : Int) := by omega
      obtain ⟨d, hd⟩ : ∃ d, d = (z + c) % Lim.B := ⟨_, rfl⟩
      obtain ⟨e', he⟩ : ∃ e', e' = (z + c) / Lim.B := ⟨_, rfl⟩
      rw [← hd, ← he] at hSn
      have HD := Lib.hid hd
      have HE := Lib.hid he
      have HCA := Lib.hid hca
      clear hd he hx hz hca hca1 hsm
      go_wp2_with fail
      refine (carried_as C z c d e' _ HD.out HE.out hW.out.car hzb).mono ?_
      rintro e w5 ⟨rfl, hw5⟩
      have hW5 : Hid (Work w C e' H L S w5) := Lib.hid (by rw [hw5]; exact hW.out.put e')
      have hfz5 := hW5.out.row.frozen i
      have hcs5 := hW5.out.row.cell i hiL
      generalize S.getD i 0 = s0 at hcs5
      clear hw5
      go_wp2_with fail
      refine ⟨⟨i + 1, e', S.set i d, by omega, by simp, hSn, Lib.hid ?_⟩, by simp [intOf]; omega⟩
      exact hW5.out.store i d
    · obtain rfl : na = i := by omega
      have hdone := hS.out.done (by rw [hmA.out]; exact Nat.le_refl _) (by rw [hW.out.row.1]; have := HL.out; omega)
      have HDN := Lib.hid hdone
      have hiL : na < L := by have := HL.out; omega
      have hiL2 : (na : Int) < (L : Int) := by omega
      clear hdone
      go_wp2_with fail
      refine (carried_zero C c _ hW.out.car hS.out.small).mono ?_
      rintro e w5 ⟨rfl, hw5⟩
      have hW5 : Hid (Work w C 0 H L S w5) := Lib.hid (by rw [hw5]; exact hW.out.put 0)
      have hfz5 := hW5.out.row.frozen na
      have hcs5 := hW5.out.row.cell na hiL
      generalize S.getD na 0 = s0 at hcs5
      clear hw5
      go_wp2_with fail
      have hW6 := Lib.hid (hW5.out.store na c)
      go_ret
      exact ⟨H, _, by rw [HL.out]; rfl, by rw [← HL.out]; exact hW6.out.row, HDN.out.2, by rw [HDN.out.1, HV.out], hW6.out.hh, hW6.out.below⟩
end Go.Proofs.YtbcoblpnihdhgaaDoor
