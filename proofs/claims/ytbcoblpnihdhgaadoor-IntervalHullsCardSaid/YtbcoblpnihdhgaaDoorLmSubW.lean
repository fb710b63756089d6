/-
  The walk of the program's subtract.
-/
import Derived.Test.YtbcoblpnihdhgaaDoorLmSubt
import Derived.Deep.RegionLaw
import Derived.BigRegion
set_option linter.unusedVariables false
set_option maxRecDepth 100000
namespace Go.Proofs.YtbcoblpnihdhgaaDoor
open Go.RowKit
/-- what a subtraction leaves -/
structure SubDone (w : World) (H L i k : Nat) (S0 : List Nat) (fd : Nat) (S : List Nat) (b : Nat) (w' : World) : Prop where
  one : b ≤ 1
  lo : Lim.Lo S
  row : RowAt H L S w'
  same : ∀ y, i + k + 1 ≤ y → S.getD y 0 = S0.getD y 0
  sum : Lim.lv S + fd * Lim.B ^ i = Lim.lv S0 + b * Lim.B ^ (i + k + 1)
  bes : Bes H w w'
theorem less_none (C b : Nat) (w : World) (hC : CarAt C b w) (hb : b ≤ 1) :
    Calls Tryd.prog 84 #[.int .i64 0, .int .i64 0, .pointer (some ⟨C, 0, none⟩)] w fun e w' => ∃ x u : Nat, e = .returned (.int .i64 (x : Int)) ∧ (0 < x ↔ b = 1) ∧ w' = w.setCell ⟨C, 0, none⟩ (.int .i64 (u : Int)) := by
  refine (less_as C 0 0 b _ _ w rfl rfl hC Lim.B_pos Lim.B_pos hb).mono ?_
  rintro e w' ⟨rfl, rfl⟩
  refine ⟨_, _, rfl, ?_, rfl⟩
  rw [Lim.B_eq]
  rcases (by omega : b = 0 ∨ b = 1) with q | q <;> subst q <;> decide
set_option maxHeartbeats 8000000 in
theorem subtract_any (H L i k : Nat) (S0 : List Nat) (cap d f : Nat) (vd : Value) (w : World) (hR : RowAt H L S0 w) (hlo : Lim.Lo S0) (hk : Lim.nl d = k) (hL : i + k + 1 ≤ L) (hLm : L ≤ 1000000) (hf : f ≤ Lim.B) (hd : IntsIn (fun b => b ≠ H) w vd (Lim.ls d)) :
    Calls Tryd.prog 81 #[.slice (some ⟨H, i, none⟩) (k + 1) cap, vd, .int .i64 (f : Int)] w fun e w' => ∃ S b, e = .returned (.bool (decide (b = 1))) ∧ SubDone w H L i k S0 (f * d) S b w' := by
  obtain ⟨a, ca, rfl, a1, a2, a3⟩ := hd.open_
  have A3 := Lib.hid a3
  rw [show (Lim.ls d).length = k from hk] at a1 ⊢
  have ENA : Hid ((Lim.ls d).length = k) := Lib.hid hk
  have hmA : Hid (d < Lim.B ^ k) := Lib.hid (Lim.nl_le.1 (Nat.le_of_eq hk))
  have HF := Lib.hid hf
  have hS0 : Hid (Subts d f i L S0 0 S0 0 0) := Lib.hid (by have := Subts.start (d := d) (f := f) (i := i) hlo; rwa [hR.1] at this)
  have hW00 := Work2.made hR
  have HBW : Hid (H < w.heap.size) := Lib.hid hR.lt
  clear hd hk a3 hlo hR
  rw [Lim.B_eq] at hf
  go_enter Tryd.func81, Tryd.ntmps81
  go_wp2_with fail
  refine (carrier_any _).mono ?_
  rintro e w1 ⟨rfl, rfl⟩
  go_wp2_with fail
  refine (borrower_any _).mono ?_
  rintro e w1 ⟨rfl, hw1⟩
  obtain ⟨C, hC⟩ : ∃ C, C = w.heap.size := ⟨_, rfl⟩
  obtain ⟨D, hD⟩ : ∃ D, D = w.heap.size + 1 := ⟨_, rfl⟩
  have hW0 : Hid (Work2 w C 0 D 0 H L S0 w1) := Lib.hid (by rw [hw1, hC, hD]; exact hW00)
  have hDs : (w.alloc (.cells #[.int .i64 0] 3)).heap.size = D := by rw [hD]; simp
  simp only [hDs, ← hC]
  clear hw1 hW00 hDs hC hD
  go_wp2_with fail
  go_loopw [16] (fun jj wr => ∃ (j c b : Nat) (S : List Nat), j ≤ k ∧ jj = .int .i64 (j : Int) ∧ Hid (Subts d f i L S0 j S c b) ∧ Hid (Work2 w C c D b H L S wr)) (fun jj _ => k - (intOf jj).toNat)
  case atStart => exact ⟨0, 0, 0, S0, by omega, rfl, hS0, hW0⟩
  case round =>
    clear hS0 hW0
    obtain ⟨j, c, b, S, hj, rfl, hS, hW⟩ := hrel
    by_cases hlt : j < k
    · obtain ⟨ba, oa, rfl, hbH, hca⟩ := A3.out (by rw [ENA.out]; omega)
      have hca1 := hca j (by rw [ENA.out]; omega)
      rw [Lim.pl_ls] at hca1
      have hcy := hW.out.bes.cell hbH hca1
      have hny := Lim.pl_lt d j
      have hc1 := hS.out.small HF.out
      have hb1 := hS.out.one
      have hiL : i + j < L := by omega
      have hns := hS.out.lo.getD (i + j)
      have hcs := hW.out.row.cell (i + j) hiL
      obtain ⟨x, hx⟩ : ∃ x, x = S.getD (i + j) 0 := ⟨_, rfl⟩
      rw [← hx] at hns hcs
      obtain ⟨dd, hdd⟩ : ∃ dd, dd = (f * Lim.pl d j + c) % Lim.B := ⟨_, rfl⟩
      obtain ⟨e', he⟩ : ∃ e', e' = (f * Lim.pl d j + c) / Lim.B := ⟨_, rfl⟩
      have hSn := Lib.hid (hS.out.next HF.out hiL x hx dd hdd e' he)
      have hdB : dd < Lim.B := by rw [hdd]; exact Nat.mod_lt _ Lim.B_pos
      obtain ⟨y, hy⟩ : ∃ y, y = Lim.pl d j := ⟨_, rfl⟩
      rw [← hy] at hcy hny hdd he
      obtain ⟨z, hz⟩ : ∃ z, z = f * y := ⟨_, rfl⟩
      rw [← hz] at hdd he
      have hzb0 : z ≤ 1000000000 * 999999999 := by rw [hz]; rw [Lim.B_eq] at hny; exact Nat.mul_le_mul hf (by omega)
      obtain ⟨d', hd'⟩ : ∃ d', d' = (Lim.B + x - dd - b) % Lim.B := ⟨_, rfl⟩
      obtain ⟨b', hb'⟩ : ∃ b', b' = 1 - (Lim.B + x - dd - b) / Lim.B := ⟨_, rfl⟩
      rw [← hd', ← hb'] at hSn
      have HDD := Lib.hid hdd
      have HE := Lib.hid he
      have HD' := Lib.hid hd'
      have HB' := Lib.hid hb'
      have HNS := Lib.hid hns
      have HDB := Lib.hid hdB
      have HX := Lib.hid hx
      have e3 : (f : Int) * (y : Int) = (z : Int) := by rw [hz]; simp
      have e4 : IntKind.i64.wrap (z : Int) = (z : Int) := IntWalk.i64_in _ (by omega)
      have e5 : IntKind.i64.wrap ((j : Int) + 1) = (j : Int) + 1 := IntWalk.i64_in _ (by omega)
      rw [Lim.B_eq] at hc1
      have hzb : z + c ≤ 4000000000000000000 := by omega
      have hjk : (j : Int) < (k : Int) := by omega
      have hjk2 : (j : Int) < (k : Int) + 1 := by omega
      have HCA := Lib.hid hca
      clear hdd he hd' hb' hns hdB hx hy hz hca hca1 hny hc1 hzb0
      go_wp2_with fail
      go_region_law (first | (go_simp; go_at_call 83; refine (carried_as C z c dd e' _ HDD.out HE.out ?hw hzb).mono ?_; (case hw => first | exact hW.out.drew.car | exact hW.out.car); rintro e w5 ⟨rfl, hw5⟩; have hW5 : Hid (Work2 w C e' D b H L S w5) := Lib.hid (by rw [hw5]; first | exact hW.out.drew.putC e' | exact hW.out.putC e'); have hcs5 := hW5.out.row.cell (i + j) hiL; rw [← HX.out] at hcs5; clear hw5) | (go_simp; go_at_call 84; refine (less_as D x dd b d' b' _ HD'.out HB'.out ?hw HNS.out HDB.out hb1).mono ?_; (case hw => first | exact hW5.out.bor | exact hW5.out.drew.bor); rintro e w6 ⟨rfl, hw6⟩; have hW6 : Hid (Work2 w C e' D b' H L S w6) := Lib.hid (by rw [hw6]; first | exact hW5.out.putD b' | exact hW5.out.drew.putD b'); have hcs6 := hW6.out.row.cell (i + j) hiL; have hfz6 := hW6.out.row.frozen (i + j); rw [← HX.out] at hcs6; clear hw6))
      all_goals
        go_wp2_with fail
        refine ⟨⟨j + 1, e', b', S.set (i + j) d', by omega, by simp, hSn, Lib.hid ?_⟩, by simp [intOf]; omega⟩
        exact hW6.out.store (i + j) d'
    · obtain rfl : k = j := by omega
      have hc1 := hS.out.small HF.out
      have hb1 := hS.out.one
      have hiL : i + k < L := by omega
      have hns := hS.out.lo.getD (i + k)
      have hcs := hW.out.row.cell (i + k) hiL
      obtain ⟨x, hx⟩ : ∃ x, x = S.getD (i + k) 0 := ⟨_, rfl⟩
      rw [← hx] at hns hcs
      have hT := hS.out.top HF.out hmA.out hiL x hx
      obtain ⟨d', hd'⟩ : ∃ d', d' = (Lim.B + x - c - b) % Lim.B := ⟨_, rfl⟩
      obtain ⟨b', hb'⟩ : ∃ b', b' = 1 - (Lim.B + x - c - b) / Lim.B := ⟨_, rfl⟩
      rw [← hd', ← hb'] at hT
      have HT := Lib.hid hT
      have HD' := Lib.hid hd'
      have HB' := Lib.hid hb'
      have HNS := Lib.hid hns
      have HC1 := Lib.hid hc1
      have HX := Lib.hid hx
      have hkk2 : (k : Int) < (k : Int) + 1 := by omega
      clear hd' hb' hns hx hc1 hT
      go_wp2_with fail
      go_region_law (first | (go_simp; go_at_call 83; refine (carried_zero C c _ ?hw HC1.out).mono ?_; (case hw => first | exact hW.out.drew.car | exact hW.out.car); rintro e w5 ⟨rfl, hw5⟩; have hW5 : Hid (Work2 w C 0 D b H L S w5) := Lib.hid (by rw [hw5]; first | exact hW.out.drew.putC 0 | exact hW.out.putC 0); have hcs5 := hW5.out.row.cell (i + k) hiL; rw [← HX.out] at hcs5; clear hw5) | (go_simp; go_at_call 84; refine (less_as D x c b d' b' _ HD'.out HB'.out ?hw HNS.out HC1.out hb1).mono ?_; (case hw => first | exact hW5.out.bor | exact hW5.out.drew.bor); rintro e w6 ⟨rfl, hw6⟩; have hW6 : Hid (Work2 w C 0 D b' H L S w6) := Lib.hid (by rw [hw6]; first | exact hW5.out.putD b' | exact hW5.out.drew.putD b'); have hcs6 := hW6.out.row.cell (i + k) hiL; have hfz6 := hW6.out.row.frozen (i + k); rw [← HX.out] at hcs6; clear hw6))
      all_goals
        go_wp2_with fail
        have hW7 := Lib.hid (hW6.out.store (i + k) d')
        refine (less_none D b' _ hW7.out.bor HT.out.2.1).mono ?_
        rintro e w8 ⟨x8, u8, rfl, hx8, hw8⟩
        have hW8 : Hid (Work2 w C 0 D u8 H L (S.set (i + k) d') w8) := Lib.hid (by rw [hw8]; exact hW7.out.putD u8)
        have HX8 := Lib.hid hx8
        clear hw8 hx8
        go_wp2_with fail
        go_ret
        refine ⟨_, b', ?_, HT.out.2.1, HT.out.1, hW8.out.row, HT.out.2.2.1, HT.out.2.2.2, hW8.out.bes⟩
        show Ending.returned (Value.bool (decide (0 < x8))) = _
        congr 2
        exact decide_eq_decide.2 ⟨HX8.out.1, HX8.out.2⟩
end Go.Proofs.YtbcoblpnihdhgaaDoor
