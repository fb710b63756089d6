/-
  The walk of the program's addBack.
-/
import Derived.Test.YtbcoblpnihdhgaaDoorLmSubW
set_option linter.unusedVariables false
set_option maxRecDepth 100000
namespace Go.Proofs.YtbcoblpnihdhgaaDoor
open Go.RowKit
/-- a world with a carry and a row that was there before -/
structure Work1 (w : World) (C c H L : Nat) (S : List Nat) (wr : World) : Prop where
  car : CarAt C c wr
  row : RowAt H L S wr
  bes : Bes H w wr
  hc : w.heap.size ≤ C
  hh : H < w.heap.size
theorem Work1.put {w : World} {C c H L : Nat} {S : List Nat} {wr : World} (h : Work1 w C c H L S wr) (x : Nat) : Work1 w C x H L S (wr.setCell ⟨C, 0, none⟩ (.int .i64 (x : Int))) :=
  ⟨h.car.store x, h.row.bes (Bes.set _ _ _ _) (by have := h.hc; have := h.hh; omega), h.bes.put _ _ h.hc, h.hc, h.hh⟩
theorem Work1.store {w : World} {C c H L : Nat} {S : List Nat} {wr : World} (h : Work1 w C c H L S wr) (j x : Nat) : Work1 w C c H L (S.set j x) (wr.setCell ⟨H, j, none⟩ (.int .i64 (x : Int))) :=
  ⟨h.car.bes (Bes.set _ _ _ _) (by have := h.hc; have := h.hh; omega), h.row.store j x, h.bes.putSelf _ _, h.hc, h.hh⟩
theorem Work1.made {w : World} {H L : Nat} {S : List Nat} (hR : RowAt H L S w) : Work1 w w.heap.size 0 H L S (w.alloc (.cells #[.int .i64 0] 3)) :=
  ⟨heap_lastM w _, hR.below (alloc_below w _), Bes.of (alloc_below w _), Nat.le_refl _, hR.lt⟩
/-- what is added up to a place -/
structure Adds1 (d i L : Nat) (S0 : List Nat) (j : Nat) (S : List Nat) (c : Nat) : Prop where
  lo : Lim.Lo S
  len : S.length = L
  one : c ≤ 1
  same : ∀ x, i + j ≤ x → S.getD x 0 = S0.getD x 0
  sum : Lim.lv S + c * Lim.B ^ (i + j) = Lim.lv S0 + d % Lim.B ^ j * Lim.B ^ i
theorem Adds1.start {d i : Nat} {S0 : List Nat} (h : Lim.Lo S0) : Adds1 d i S0.length S0 0 S0 0 :=
  ⟨h, rfl, by omega, fun _ _ => rfl, by simp [Nat.mod_one]⟩
theorem Adds1.next {d i L j c : Nat} {S0 S : List Nat} (h : Adds1 d i L S0 j S c) (hi : i + j < L) (x : Nat) (hx : x = S.getD (i + j) 0) :
    Adds1 d i L S0 (j + 1) (S.set (i + j) ((x + Lim.pl d j + c) % Lim.B)) ((x + Lim.pl d j + c) / Lim.B) := by
  have hxB : x < Lim.B := by rw [hx]; exact h.lo.getD _
  have hyB := Lim.pl_lt d j
  have h1 := h.one
  refine ⟨h.lo.set _ _ (Nat.mod_lt _ Lim.B_pos), by rw [List.length_set, h.len], ?_, fun y hy => ?_, ?_⟩
  · rw [Lim.B_eq] at hxB hyB ⊢; omega
  · rw [getD_set_ne _ _ _ _ (by omega)]; exact h.same y (by omega)
  · have h4 := Lim.put_step (S := S) (k := i + j) (x := x) (c := c) (y := Lim.pl d j) (by rw [h.len]; exact hi) hx.symm
    have h5 := h.sum
    rw [show i + (j + 1) = i + j + 1 by omega, h4, h5, Lim.mod_next, Nat.add_mul, Nat.mul_assoc, ← Nat.pow_add, Nat.add_comm j i]
    omega
theorem Adds1.top {d i L k c : Nat} {S0 S : List Nat} (h : Adds1 d i L S0 k S c) (hd : d < Lim.B ^ k) (hi : i + k < L) (x : Nat) (hx : x = S.getD (i + k) 0) :
    Lim.Lo (S.set (i + k) ((x + c) % Lim.B)) ∧ (∀ y, i + k + 1 ≤ y → (S.set (i + k) ((x + c) % Lim.B)).getD y 0 = S0.getD y 0) ∧
    Lim.lv (S.set (i + k) ((x + c) % Lim.B)) + (x + c) / Lim.B * Lim.B ^ (i + k + 1) = Lim.lv S0 + d * Lim.B ^ i := by
  refine ⟨h.lo.set _ _ (Nat.mod_lt _ Lim.B_pos), fun y hy => ?_, ?_⟩
  · rw [getD_set_ne _ _ _ _ (by omega)]; exact h.same y (by omega)
  · have h4 := Lim.put_step (S := S) (k := i + k) (x := x) (c := c) (y := 0) (by rw [h.len]; exact hi) hx.symm
    have h5 := h.sum
    rw [Nat.mod_eq_of_lt hd] at h5
    rw [Nat.add_zero] at h4
    omega
/-- what the way back leaves -/
structure BackDone (w : World) (H L i k : Nat) (S0 : List Nat) (d : Nat) (S : List Nat) (b : Nat) (w' : World) : Prop where
  lo : Lim.Lo S
  row : RowAt H L S w'
  same : ∀ y, i + k + 1 ≤ y → S.getD y 0 = S0.getD y 0
  sum : Lim.lv S + b * Lim.B ^ (i + k + 1) = Lim.lv S0 + d * Lim.B ^ i
  bes : Bes H w w'
set_option maxHeartbeats 4000000 in
theorem addBack_any (H L i k : Nat) (S0 : List Nat) (cap d : Nat) (vd : Value) (w : World) (hR : RowAt H L S0 w) (hlo : Lim.Lo S0) (hk : Lim.nl d = k) (hL : i + k + 1 ≤ L) (hLm : L ≤ 1000000) (hd : IntsIn (fun b => b ≠ H) w vd (Lim.ls d)) :
    Calls Tryd.prog 82 #[.slice (some ⟨H, i, none⟩) (k + 1) cap, vd] w fun e w' => ∃ S b v, e = .returned v ∧ BackDone w H L i k S0 d S b w' := by
  obtain ⟨a, ca, rfl, a1, a2, a3⟩ := hd.open_
  have A3 := Lib.hid a3
  rw [show (Lim.ls d).length = k from hk] at a1 ⊢
  have ENA : Hid ((Lim.ls d).length = k) := Lib.hid hk
  have hmA : Hid (d < Lim.B ^ k) := Lib.hid (Lim.nl_le.1 (Nat.le_of_eq hk))
  have hS0 : Hid (Adds1 d i L S0 0 S0 0) := Lib.hid (by have := Adds1.start (d := d) (i := i) hlo; rwa [hR.1] at this)
  have hW00 := Work1.made hR
  clear hd hk a3 hlo hR
  go_enter Tryd.func82, Tryd.ntmps82
  go_wp2_with fail
  refine (carrier_any _).mono ?_
  rintro e w1 ⟨rfl, hw1⟩
  obtain ⟨C, hC⟩ : ∃ C, C = w.heap.size := ⟨_, rfl⟩
  have hW0 : Hid (Work1 w C 0 H L S0 w1) := Lib.hid (by rw [hw1, hC]; exact hW00)
  simp only [← hC]
  clear hw1 hW00 hC
  go_wp2_with fail
  go_loopw [11] (fun jj wr => ∃ (j c : Nat) (S : List Nat), j ≤ k ∧ jj = .int .i64 (j : Int) ∧ Hid (Adds1 d i L S0 j S c) ∧ Hid (Work1 w C c H L S wr)) (fun jj _ => k - (intOf jj).toNat)
  case atStart => exact ⟨0, 0, S0, by omega, rfl, hS0, hW0⟩
  case round =>
    clear hS0 hW0
    obtain ⟨j, c, S, hj, rfl, hS, hW⟩ := hrel
    by_cases hlt : j < k
    · obtain ⟨ba, oa, rfl, hbH, hca⟩ := A3.out (by rw [ENA.out]; omega)
      have hca1 := hca j (by rw [ENA.out]; omega)
      rw [Lim.pl_ls] at hca1
      have hcy := hW.out.bes.cell hbH hca1
      have hny := Lim.pl_lt d j
      have hc1 := hS.out.one
      have hiL : i + j < L := by omega
      have hns := hS.out.lo.getD (i + j)
      have hcs := hW.out.row.cell (i + j) hiL
      obtain ⟨x, hx⟩ : ∃ x, x = S.getD (i + j) 0 := ⟨_, rfl⟩
      rw [← hx] at hns hcs
      have hSn := Lib.hid (hS.out.next hiL x hx)
      obtain ⟨y, hy⟩ : ∃ y, y = Lim.pl d j := ⟨_, rfl⟩
      rw [← hy] at hcy hny hSn
      obtain ⟨z, hz⟩ : ∃ z, z = x + y := ⟨_, rfl⟩
      rw [← hz] at hSn
      obtain ⟨d', hd'⟩ : ∃ d', d' = (z + c) % Lim.B := ⟨_, rfl⟩
      obtain ⟨e', he⟩ : ∃ e', e' = (z + c) / Lim.B := ⟨_, rfl⟩
      rw [← hd', ← he] at hSn
      have HD' := Lib.hid hd'
      have HE := Lib.hid he
      have HX := Lib.hid hx
      rw [Lim.B_eq] at hns hny
      have e3 : (x : Int) + (y : Int) = (z : Int) := by omega
      have e4 : IntKind.i64.wrap (z : Int) = (z : Int) := IntWalk.i64_in _ (by omega)
      have e5 : IntKind.i64.wrap ((j : Int) + 1) = (j : Int) + 1 := IntWalk.i64_in _ (by omega)
      have hzb : z + c ≤ 4000000000000000000 := by omega
      have hjk : (j : Int) < (k : Int) := by omega
      have hjk2 : (j : Int) < (k : Int) + 1 := by omega
      have HCA := Lib.hid hca
      clear he hd' hns hx hy hz hca hca1 hny
      go_wp2_with fail
      refine (carried_as C z c d' e' _ HD'.out HE.out hW.out.car hzb).mono ?_
      rintro e w5 ⟨rfl, hw5⟩
      have hW5 : Hid (Work1 w C e' H L S w5) := Lib.hid (by rw [hw5]; exact hW.out.put e')
      have hfz5 := hW5.out.row.frozen (i + j)
      have hcs5 := hW5.out.row.cell (i + j) hiL
      rw [← HX.out] at hcs5
      clear hw5
      go_wp2_with fail
      refine ⟨⟨j + 1, e', S.set (i + j) d', by omega, by simp, hSn, Lib.hid ?_⟩, by simp [intOf]; omega⟩
      exact hW5.out.store (i + j) d'
    · obtain rfl : k = j := by omega
      have hc1 := hS.out.one
      have hiL : i + k < L := by omega
      have hns := hS.out.lo.getD (i + k)
      have hcs := hW.out.row.cell (i + k) hiL
      obtain ⟨x, hx⟩ : ∃ x, x = S.getD (i + k) 0 := ⟨_, rfl⟩
      rw [← hx] at hns hcs
      have hT := hS.out.top hmA.out hiL x hx
      obtain ⟨d', hd'⟩ : ∃ d', d' = (x + c) % Lim.B := ⟨_, rfl⟩
      obtain ⟨e', he⟩ : ∃ e', e' = (x + c) / Lim.B := ⟨_, rfl⟩
      rw [← hd', ← he] at hT
      have HT := Lib.hid hT
      have HD' := Lib.hid hd'
      have HE := Lib.hid he
      have HX := Lib.hid hx
      rw [Lim.B_eq] at hns
      have hzb : x + c ≤ 4000000000000000000 := by omega
      have hkk2 : (k : Int) < (k : Int) + 1 := by omega
      clear hd' he hns hx hT
      go_wp2_with fail
      refine (carried_as C x c d' e' _ HD'.out HE.out hW.out.car hzb).mono ?_
      rintro e w5 ⟨rfl, hw5⟩
      have hW5 : Hid (Work1 w C e' H L S w5) := Lib.hid (by rw [hw5]; exact hW.out.put e')
      have hfz5 := hW5.out.row.frozen (i + k)
      have hcs5 := hW5.out.row.cell (i + k) hiL
      rw [← HX.out] at hcs5
      clear hw5
      go_wp2_with fail
      have hW6 := Lib.hid (hW5.out.store (i + k) d')
      go_end0
      exact ⟨_, e', _, rfl, HT.out.1, hW6.out.row, HT.out.2.1, HT.out.2.2, hW6.out.bes⟩
end Go.Proofs.YtbcoblpnihdhgaaDoor
