/-
  The program's sums of limbs: plus.
-/
import Derived.Test.YtbcoblpnihdhgaaDoorLmA
set_option linter.unusedVariables false
set_option maxRecDepth 100000
namespace Go.Proofs.YtbcoblpnihdhgaaDoor
open Go.RowKit
theorem alloc_below (w : World) (o : Obj) : Below w.heap.size w (w.alloc o) := (Below.refl _ _).alloc (Nat.le_refl _) _
theorem heap_lastM (w : World) (o : Obj) : (w.alloc o).heap[w.heap.size]? = some o := by show (w.heap.push o)[w.heap.size]? = _; simp
theorem zeros_row (n : Nat) : (madeCells #[Value.int .i64 0] n).toList = cellsI (List.replicate n 0) := by
  rw [toList_madeCells_one]; simp [cellsI]
/-- the sum up to a place -/
structure Sums (m n i : Nat) (S : List Nat) (c : Nat) : Prop where
  lo : Lim.Lo S
  one : c ≤ 1
  zero : ∀ j, i ≤ j → S.getD j 0 = 0
  sum : Lim.lv S + c * Lim.B ^ i = m % Lim.B ^ i + n % Lim.B ^ i
theorem getD_set_ne (S : List Nat) (i j x : Nat) (h : i ≠ j) : (S.set i x).getD j 0 = S.getD j 0 := by
  simp only [List.getD_eq_getElem?_getD, List.getElem?_set_ne h]
theorem Sums.start (m n L : Nat) : Sums m n 0 (List.replicate L 0) 0 := ⟨Lim.Lo.zeros L, by omega, fun j _ => by
  rw [List.getD_eq_getElem?_getD]
  by_cases h : j < L
  · simp [h]
  · rw [List.getElem?_eq_none (by simpa using h)]; rfl, by rw [Lim.lv_zeros]; simp [Nat.mod_one]⟩
theorem Sums.next {m n i c : Nat} {S : List Nat} (h : Sums m n i S c) (hi : i < S.length) :
    Sums m n (i + 1) (S.set i ((Lim.pl m i + Lim.pl n i + c) % Lim.B)) ((Lim.pl m i + Lim.pl n i + c) / Lim.B) := by
  have h1 := Lim.pl_lt m i
  have h2 := Lim.pl_lt n i
  have h3 := h.one
  have hB := Lim.B_eq
  refine ⟨h.lo.set _ _ (Nat.mod_lt _ Lim.B_pos), ?_, fun j hj => ?_, ?_⟩
  · rw [hB] at h1 h2 ⊢; omega
  · rw [getD_set_ne _ _ _ _ (by omega)]; exact h.zero j (by omega)
  · have h4 := Lim.put_step (S := S) (k := i) (x := 0) (c := c) (y := Lim.pl m i + Lim.pl n i) hi (h.zero i (Nat.le_refl _))
    have h5 := h.sum
    rw [Lim.mod_next m i, Lim.mod_next n i]
    rw [Nat.zero_add] at h4
    rw [Nat.add_mul] at h4
    omega
theorem Sums.done {m n i c : Nat} {S : List Nat} (h : Sums m n i S c) (hm : Lim.nl m ≤ i) (hn : Lim.nl n ≤ i) (hi : i < S.length) : Lim.lv (S.set i (c % Lim.B)) = m + n ∧ Lim.Lo (S.set i (c % Lim.B)) := by
  have h3 := h.one
  have hB := Lim.B_eq
  have e : c % Lim.B = c := Nat.mod_eq_of_lt (by omega)
  rw [e]
  refine ⟨?_, h.lo.set _ _ (by omega)⟩
  have h4 := Lim.lv_set S i c hi
  rw [h.zero i (Nat.le_refl _)] at h4
  have h5 := h.sum
  rw [Lim.mod_all hm, Lim.mod_all hn] at h5
  omega
theorem cell_put {w : World} {b j C k : Nat} {v u : Value} (h : w.cell? ⟨b, j, none⟩ = some v) (hn : b ≠ C) : (w.setCell ⟨C, k, none⟩ u).cell? ⟨b, j, none⟩ = some v := by
  have hb : (w.setCell ⟨C, k, none⟩ u).heap[b]? = w.heap[b]? := Below.heap_setCell _ _ _ _ hn
  rw [← h]; simp only [World.cell?, hb]
theorem frozen_put {w : World} {b j C k : Nat} {u : Value} {f : Bool} (h : w.frozen? ⟨b, j, none⟩ = f) (hn : b ≠ C) : (w.setCell ⟨C, k, none⟩ u).frozen? ⟨b, j, none⟩ = f := by
  have hb : (w.setCell ⟨C, k, none⟩ u).heap[b]? = w.heap[b]? := Below.heap_setCell _ _ _ _ hn
  rw [← h]; simp only [World.frozen?, hb]
/-- a world with a carry and a row, over a world before them -/
structure Work (w : World) (C c H L : Nat) (S : List Nat) (wr : World) : Prop where
  car : CarAt C c wr
  row : RowAt H L S wr
  below : Below w.heap.size w wr
  hc : w.heap.size ≤ C
  hh : w.heap.size ≤ H
  ne : C ≠ H
theorem Work.drew {w : World} {C c H L : Nat} {S : List Nat} {wr : World} (h : Work w C c H L S wr) : Work w C c H L S wr.drew := ⟨h.car, h.row, h.below.drew, h.hc, h.hh, h.ne⟩
theorem Work.put {w : World} {C c H L : Nat} {S : List Nat} {wr : World} (h : Work w C c H L S wr) (d : Nat) : Work w C d H L S (wr.setCell ⟨C, 0, none⟩ (.int .i64 (d : Int))) :=
  ⟨h.car.store d, h.row.bes (Bes.set _ _ _ _) (Ne.symm h.ne), h.below.setCell (p := ⟨C, 0, none⟩) h.hc _, h.hc, h.hh, h.ne⟩
theorem Work.store {w : World} {C c H L : Nat} {S : List Nat} {wr : World} (h : Work w C c H L S wr) (j x : Nat) : Work w C c H L (S.set j x) (wr.setCell ⟨H, j, none⟩ (.int .i64 (x : Int))) :=
  ⟨h.car.bes (Bes.set _ _ _ _) h.ne, h.row.store j x, h.below.setCell (p := ⟨H, j, none⟩) h.hh _, h.hc, h.hh, h.ne⟩
theorem Work.made {w w1 : World} {L : Nat} (hown : w1.ownsRow (w.heap.size + 1) 3 1 (.slice (some ⟨w.heap.size + 1, 0, none⟩) L L) L (madeCells #[Value.int .i64 0] L).toList) (hgrow : (w.alloc (.cells #[.int .i64 0] 3)).grownBy w1 none) : Work w w.heap.size 0 (w.heap.size + 1) L (List.replicate L 0) w1 := by
  have hB : Below w.heap.size w w1 := (alloc_below w _).grown hgrow (by simp) (fun k h => by cases h)
  refine ⟨?_, ⟨by simp, by rw [← zeros_row]; exact hown⟩, hB, Nat.le_refl _, Nat.le_succ _, by omega⟩
  exact (hgrow.block w.heap.size (by simp) (by simp)).trans (heap_lastM w _)
set_option maxHeartbeats 2000000 in
theorem plus_any (m n : Nat) (va vb : Value) (w : World) (hm : IntsIn (fun _ => True) w va (Lim.ls m)) (hn : IntsIn (fun _ => True) w vb (Lim.ls n)) (hml : Lim.nl m ≤ 100000) (hnl : Lim.nl n ≤ 100000) :
    Calls Tryd.prog 55 #[va, vb] w fun e w' => ∃ v', e = .returned v' ∧ IntsIn (fun b => w.heap.size ≤ b) w' v' (Lim.ls (m + n)) ∧ Below w.heap.size w w' := by
  obtain ⟨i0, hi0, hz0, hz1, hz2⟩ := info_parts infoI
  obtain ⟨a, ca, rfl, a1, a2, a3⟩ := hm.open_
  obtain ⟨b, cb, rfl, b1, b2, b3⟩ := hn.open_
  have A3 := Lib.hid a3
  have B3 := Lib.hid b3
  clear a3 b3
  obtain ⟨na, hna⟩ : ∃ na, na = (Lim.ls m).length := ⟨_, rfl⟩
  obtain ⟨nb, hnb⟩ : ∃ nb, nb = (Lim.ls n).length := ⟨_, rfl⟩
  rw [← hna] at a1 ⊢
  rw [← hnb] at b1 ⊢
  have HM := Lib.hid hm
  have HN := Lib.hid hn
  have ENA := Lib.hid hna
  have ENB := Lib.hid hnb
  have hmA : Hid (Lim.nl m = na) := Lib.hid hna.symm
  have hnB : Hid (Lim.nl n = nb) := Lib.hid hnb.symm
  clear hm hn hna hnb
  have hna2 : na ≤ 100000 := by rw [← hmA.out]; exact hml
  have hnb2 : nb ≤ 100000 := by rw [← hnB.out]; exact hnl
  have i1 : IntKind.i64.wrap ((na : Int) + 1) = (na : Int) + 1 := IntWalk.i64_in _ (by omega)
  have i2 : IntKind.i64.wrap ((nb : Int) + 1) = (nb : Int) + 1 := IntWalk.i64_in _ (by omega)
  by_cases hlt : na < nb
  · have t0 : decide (na < nb) = true := decide_eq_true (by omega)
    go_enter Tryd.func55, Tryd.ntmps55
    go_wp2_with fail
    refine (carrier_any _).mono ?_
    rintro e w1 ⟨rfl, rfl⟩
    go_wp2_with (at_make; refine wpList_make_full _ rfl _ _ 80 rfl (w.heap.size + 1) 3 i0 (.int .i64 0) 1 Tryd.underlying80 hi0 hz0 hz1 _ _ _ _ (nb + 1) rfl rfl (by first | rfl | omega) (by first | rfl | omega) (by rw [hz2]; omega) (by unfold maxLen; omega) (by simp) ?_)
    intro w1 hown hgrow
    have hW0 := Work.made hown hgrow
    obtain ⟨C, hC⟩ : ∃ C, C = w.heap.size := ⟨_, rfl⟩
    obtain ⟨H, hH⟩ : ∃ H, H = w.heap.size + 1 := ⟨_, rfl⟩
    obtain ⟨L, hL⟩ : ∃ L, L = nb + 1 := ⟨_, rfl⟩
    have hW := Lib.hid hW0
    have HL := Lib.hid hL
    simp only [← hH] at hW
    simp only [← hC, ← hL] at hW
    have hS : Hid (Sums m n 0 (List.replicate L 0) 0) := Lib.hid (Sums.start m n L)
    have hlC : (nb : Int) + 1 = (L : Int) := by omega
    clear hown hgrow hW0
    go_wp2_with fail
    simp only [← hH]
    simp only [← hC, hlC, ← hL]
    clear hH hC hL
    go_loopw [23] (fun ii wr => ∃ (i c : Nat) (S : List Nat), i ≤ na ∧ ii = .int .i64 (i : Int) ∧ Hid (Sums m n i S c) ∧ Hid (Work w C c H L S wr)) (fun ii _ => na - (intOf ii).toNat)
    case atStart => exact ⟨0, 0, _, by omega, rfl, hS, hW⟩
    case round =>
      clear hS hW
      obtain ⟨i, c, S, hi, rfl, hS, hW⟩ := hrel
      by_cases hlt2 : i < na
      · obtain ⟨ba, oa, rfl, _, hca⟩ := A3.out (by rw [← ENA.out]; omega)
        obtain ⟨bb, ob, rfl, _, hcb⟩ := B3.out (by rw [← ENB.out]; omega)
        have hca1 := hca i (by rw [← ENA.out]; omega)
        have hcb1 := hcb i (by rw [← ENB.out]; omega)
        rw [Lim.pl_ls] at hca1 hcb1
        have hna1 : ba ≠ C := Nat.ne_of_lt (Nat.lt_of_lt_of_le (cell_lt hca1) hW.out.hc)
        have hnb1 : bb ≠ C := Nat.ne_of_lt (Nat.lt_of_lt_of_le (cell_lt hcb1) hW.out.hc)
        have hnaH : ba ≠ H := Nat.ne_of_lt (Nat.lt_of_lt_of_le (cell_lt hca1) hW.out.hh)
        have hnbH : bb ≠ H := Nat.ne_of_lt (Nat.lt_of_lt_of_le (cell_lt hcb1) hW.out.hh)
        have hcx := hW.out.below.cell (p := ⟨ba, oa + i, none⟩) (cell_lt hca1)
        rw [hca1] at hcx
        have hcy := hW.out.below.cell (p := ⟨bb, ob + i, none⟩) (cell_lt hcb1)
        rw [hcb1] at hcy
        have hnx := Lim.pl_lt m i
        have hny := Lim.pl_lt n i
        have hSn := Lib.hid (hS.out.next (by rw [hW.out.row.1]; have := HL.out; omega))
        have hc1 := hS.out.one
        obtain ⟨x, hx⟩ : ∃ x, x = Lim.pl m i := ⟨_, rfl⟩
        obtain ⟨y, hy⟩ : ∃ y, y = Lim.pl n i := ⟨_, rfl⟩
        obtain ⟨z, hz⟩ : ∃ z, z = x + y := ⟨_, rfl⟩
        rw [← hx] at hcx hnx hSn
        rw [← hy] at hcy hny hSn
        rw [← hz] at hSn
        rw [Lim.B_eq] at hnx hny
        have e3 : (x : Int) + (y : Int) = (z : Int) := by omega
        have e3' : (y : Int) + (x : Int) = (z : Int) := by omega
        have e4 : IntKind.i64.wrap (z : Int) = (z : Int) := IntWalk.i64_in _ (by omega)
        have e5 : IntKind.i64.wrap ((i : Int) + 1) = (i : Int) + 1 := IntWalk.i64_in _ (by omega)
        have hzb : z + c ≤ 4000000000000000000 := by omega
        have hiL : i < L := by have := HL.out; omega
        have hiL2 : (i : Int) < (L : Int) := by omega
        have hiB : i < nb := by omega
        have hiB2 : (i : Int) < (nb : Int) := by omega
        have hiS2 : (i : Int) < (na : Int) := by omega
        have hi0 : (0 : Int) ≤ (i : Int) := by omega
        obtain ⟨d, hd⟩ : ∃ d, d = (z + c) % Lim.B := ⟨_, rfl⟩
        obtain ⟨e', he⟩ : ∃ e', e' = (z + c) / Lim.B := ⟨_, rfl⟩
        rw [← hd, ← he] at hSn
        have HD := Lib.hid hd
        have HE := Lib.hid he
        clear hd he
        obtain ⟨s0, hs0⟩ : ∃ s0, s0 = S.getD i 0 := ⟨_, rfl⟩
        have HS0 := Lib.hid hs0
        clear hs0
        have HCA := Lib.hid hca
        have HCB := Lib.hid hcb
        clear hx hy hz hca hcb hca1 hcb1
        go_wp2_with fail
        go_region_held3 (fun w' => w'.cell? ⟨ba, oa + i, none⟩ = some (.int .i64 (x : Int)) ∧ w'.cell? ⟨bb, ob + i, none⟩ = some (.int .i64 (y : Int))) (first | (with_reducible assumption) | exact ⟨hcx, hcy⟩ | exact ⟨hcx5, hcy5⟩ | exact ⟨cell_put hcx5 hnaH, cell_put hcy5 hnbH⟩) (first | (go_at_call 83; refine (carried_as C z c d e' _ HD.out HE.out ?hw hzb).mono ?_; (case hw => exact hW.out.drew.car); rintro e w5 ⟨rfl, hw5⟩; have hW5 : Hid (Work w C e' H L S w5) := Lib.hid (by rw [hw5]; exact hW.out.drew.put e'); have hcx5 : w5.cell? ⟨ba, oa + i, none⟩ = some (.int .i64 (x : Int)) := (by rw [hw5]; exact cell_put hcx hna1); have hcy5 : w5.cell? ⟨bb, ob + i, none⟩ = some (.int .i64 (y : Int)) := (by rw [hw5]; exact cell_put hcy hnb1); have hfz5 := hW5.out.row.frozen i; have hcs5 := hW5.out.row.cell i hiL; rw [← HS0.out] at hcs5; clear hw5) | fail "no arm")
        go_wp2_with fail
        refine ⟨⟨i + 1, e', S.set i d, by omega, by simp, hSn, Lib.hid ?_⟩, by simp [intOf]; omega⟩
        exact hW5.out.store i d
      · obtain rfl : na = i := by omega
        go_wp2_with fail
        go_loopw [8] (fun ii wr => ∃ (i c : Nat) (S : List Nat), na ≤ i ∧ i ≤ nb ∧ ii = .int .i64 (i : Int) ∧ Hid (Sums m n i S c) ∧ Hid (Work w C c H L S wr)) (fun ii _ => nb - (intOf ii).toNat)
        case atStart => exact ⟨na, c, S, Nat.le_refl _, by omega, rfl, hS, hW⟩
        case round =>
          clear hS hW
          obtain ⟨i, c, S, hi1, hi2, rfl, hS, hW⟩ := hrel
          by_cases hlt3 : i < nb
          · obtain ⟨ba, oa, rfl, _, hca⟩ := B3.out (by rw [← ENB.out]; omega)
            have hca1 := hca i (by rw [← ENB.out]; omega)
            rw [Lim.pl_ls] at hca1
            have hcx := hW.out.below.cell (p := ⟨ba, oa + i, none⟩) (cell_lt hca1)
            rw [hca1] at hcx
            have hnx := Lim.pl_lt n i
            have hSn := Lib.hid (hS.out.next (by rw [hW.out.row.1]; have := HL.out; omega))
            rw [Lim.pl_out (n := m) (i := i) (by rw [hmA.out]; exact hi1)] at hSn
            have hc1 := hS.out.one
            obtain ⟨x, hx⟩ : ∃ x, x = Lim.pl n i := ⟨_, rfl⟩
            rw [← hx] at hcx hnx hSn
            rw [Nat.zero_add x] at hSn
            rw [Lim.B_eq] at hnx
            have e5 : IntKind.i64.wrap ((i : Int) + 1) = (i : Int) + 1 := IntWalk.i64_in _ (by omega)
            have hzb : x + c ≤ 4000000000000000000 := by omega
            have hiL : i < L := by have := HL.out; omega
            have hiL2 : (i : Int) < (L : Int) := by omega
            have hiB2 : (i : Int) < (nb : Int) := by omega
            obtain ⟨d, hd⟩ : ∃ d, d = (x + c) % Lim.B := ⟨_, rfl⟩
            obtain ⟨e', he⟩ : ∃ e', e' = (x + c) / Lim.B := ⟨_, rfl⟩
            rw [← hd, ← he] at hSn
            have HD := Lib.hid hd
            have HE := Lib.hid he
            have HCA := Lib.hid hca
            clear hd he hx hca hca1
            go_wp2_with fail
            refine (carried_as C x c d e' _ HD.out HE.out hW.out.car hzb).mono ?_
            rintro e w5 ⟨rfl, hw5⟩
            have hW5 : Hid (Work w C e' H L S w5) := Lib.hid (by rw [hw5]; exact hW.out.put e')
            have hfz5 := hW5.out.row.frozen i
            have hcs5 := hW5.out.row.cell i hiL
            generalize S.getD i 0 = s0 at hcs5
            clear hw5
            go_wp2_with fail
            refine ⟨⟨i + 1, e', S.set i d, by omega, by omega, by simp, hSn, Lib.hid ?_⟩, by simp [intOf]; omega⟩
            exact hW5.out.store i d
          · obtain rfl : nb = i := by omega
            have hdone := hS.out.done (by rw [hmA.out]; omega) (by rw [hnB.out]; omega) (by rw [hW.out.row.1]; have := HL.out; omega)
            have hc1 := hS.out.one
            have ecc : c % Lim.B = c := Nat.mod_eq_of_lt (by rw [Lim.B_eq]; omega)
            rw [ecc] at hdone
            have HDN := Lib.hid hdone
            clear hdone ecc
            have hiL : nb < L := by have := HL.out; omega
            have hiL2 : (nb : Int) < (L : Int) := by omega
            have hLm : L ≤ 1000000 := by have := HL.out; have := hmA.out; have := hnB.out; omega
            go_wp2_with fail
            refine (carried_zero C c _ hW.out.car (by rw [Lim.B_eq]; omega)).mono ?_
            rintro e w5 ⟨rfl, hw5⟩
            have hW5 : Hid (Work w C 0 H L S w5) := Lib.hid (by rw [hw5]; exact hW.out.put 0)
            have hfz5 := hW5.out.row.frozen nb
            have hcs5 := hW5.out.row.cell nb hiL
            generalize S.getD nb 0 = s0 at hcs5
            clear hw5
            go_wp2_with fail
            have hW6 := Lib.hid (hW5.out.store nb c)
            generalize w5.setCell ⟨H, nb, none⟩ (.int .i64 (c : Int)) = w6 at hW6 ⊢
            refine (trimmed_any (fun b => w.heap.size ≤ b) _ _ _ (hW6.out.row.ints _ hW6.out.hh hLm) HDN.out.2).mono ?_
            rintro e w7 ⟨v', rfl, hv, rfl⟩
            rw [HDN.out.1] at hv
            have HV := Lib.hid hv
            clear hv
            go_wp2_with fail
            go_ret
            exact ⟨v', rfl, HV.out, hW6.out.below⟩
  · have t0 : decide (na < nb) = false := decide_eq_false (by omega)
    go_enter Tryd.func55, Tryd.ntmps55
    go_wp2_with fail
    refine (carrier_any _).mono ?_
    rintro e w1 ⟨rfl, rfl⟩
    go_wp2_with (at_make; refine wpList_make_full _ rfl _ _ 80 rfl (w.heap.size + 1) 3 i0 (.int .i64 0) 1 Tryd.underlying80 hi0 hz0 hz1 _ _ _ _ (na + 1) rfl rfl (by first | rfl | omega) (by first | rfl | omega) (by rw [hz2]; omega) (by unfold maxLen; omega) (by simp) ?_)
    intro w1 hown hgrow
    have hW0 := Work.made hown hgrow
    obtain ⟨C, hC⟩ : ∃ C, C = w.heap.size := ⟨_, rfl⟩
    obtain ⟨H, hH⟩ : ∃ H, H = w.heap.size + 1 := ⟨_, rfl⟩
    obtain ⟨L, hL⟩ : ∃ L, L = na + 1 := ⟨_, rfl⟩
    have hW := Lib.hid hW0
    have HL := Lib.hid hL
    simp only [← hH] at hW
    simp only [← hC, ← hL] at hW
    have hS : Hid (Sums m n 0 (List.replicate L 0) 0) := Lib.hid (Sums.start m n L)
    have hlC : (na : Int) + 1 = (L : Int) := by omega
    clear hown hgrow hW0
    go_wp2_with fail
    simp only [← hH]
    simp only [← hC, hlC, ← hL]
    clear hH hC hL
    go_loopw [23] (fun ii wr => ∃ (i c : Nat) (S : List Nat), i ≤ nb ∧ ii = .int .i64 (i : Int) ∧ Hid (Sums m n i S c) ∧ Hid (Work w C c H L S wr)) (fun ii _ => nb - (intOf ii).toNat)
    case atStart => exact ⟨0, 0, _, by omega, rfl, hS, hW⟩
    case round =>
      clear hS hW
      obtain ⟨i, c, S, hi, rfl, hS, hW⟩ := hrel
      by_cases hlt2 : i < nb
      · obtain ⟨ba, oa, rfl, _, hca⟩ := A3.out (by rw [← ENA.out]; omega)
        obtain ⟨bb, ob, rfl, _, hcb⟩ := B3.out (by rw [← ENB.out]; omega)
        have hca1 := hca i (by rw [← ENA.out]; omega)
        have hcb1 := hcb i (by rw [← ENB.out]; omega)
        rw [Lim.pl_ls] at hca1 hcb1
        have hna1 : ba ≠ C := Nat.ne_of_lt (Nat.lt_of_lt_of_le (cell_lt hca1) hW.out.hc)
        have hnb1 : bb ≠ C := Nat.ne_of_lt (Nat.lt_of_lt_of_le (cell_lt hcb1) hW.out.hc)
        have hnaH : ba ≠ H := Nat.ne_of_lt (Nat.lt_of_lt_of_le (cell_lt hca1) hW.out.hh)
        have hnbH : bb ≠ H := Nat.ne_of_lt (Nat.lt_of_lt_of_le (cell_lt hcb1) hW.out.hh)
        have hcx := hW.out.below.cell (p := ⟨ba, oa + i, none⟩) (cell_lt hca1)
        rw [hca1] at hcx
        have hcy := hW.out.below.cell (p := ⟨bb, ob + i, none⟩) (cell_lt hcb1)
        rw [hcb1] at hcy
        have hnx := Lim.pl_lt m i
        have hny := Lim.pl_lt n i
        have hSn := Lib.hid (hS.out.next (by rw [hW.out.row.1]; have := HL.out; omega))
        have hc1 := hS.out.one
        obtain ⟨x, hx⟩ : ∃ x, x = Lim.pl m i := ⟨_, rfl⟩
        obtain ⟨y, hy⟩ : ∃ y, y = Lim.pl n i := ⟨_, rfl⟩
        obtain ⟨z, hz⟩ : ∃ z, z = x + y := ⟨_, rfl⟩
        rw [← hx] at hcx hnx hSn
        rw [← hy] at hcy hny hSn
        rw [← hz] at hSn
        rw [Lim.B_eq] at hnx hny
        have e3 : (x : Int) + (y : Int) = (z : Int) := by omega
        have e3' : (y : Int) + (x : Int) = (z : Int) := by omega
        have e4 : IntKind.i64.wrap (z : Int) = (z : Int) := IntWalk.i64_in _ (by omega)
        have e5 : IntKind.i64.wrap ((i : Int) + 1) = (i : Int) + 1 := IntWalk.i64_in _ (by omega)
        have hzb : z + c ≤ 4000000000000000000 := by omega
        have hiL : i < L := by have := HL.out; omega
        have hiL2 : (i : Int) < (L : Int) := by omega
        have hiB : i < na := by omega
        have hiB2 : (i : Int) < (na : Int) := by omega
        have hiS2 : (i : Int) < (nb : Int) := by omega
        have hi0 : (0 : Int) ≤ (i : Int) := by omega
        obtain ⟨d, hd⟩ : ∃ d, d = (z + c) % Lim.B := ⟨_, rfl⟩
        obtain ⟨e', he⟩ : ∃ e', e' = (z + c) / Lim.B := ⟨_, rfl⟩
        rw [← hd, ← he] at hSn
        have HD := Lib.hid hd
        have HE := Lib.hid he
        clear hd he
        obtain ⟨s0, hs0⟩ : ∃ s0, s0 = S.getD i 0 := ⟨_, rfl⟩
        have HS0 := Lib.hid hs0
        clear hs0
        have HCA := Lib.hid hca
        have HCB := Lib.hid hcb
        clear hx hy hz hca hcb hca1 hcb1
        go_wp2_with fail
        go_region_held3 (fun w' => w'.cell? ⟨ba, oa + i, none⟩ = some (.int .i64 (x : Int)) ∧ w'.cell? ⟨bb, ob + i, none⟩ = some (.int .i64 (y : Int))) (first | (with_reducible assumption) | exact ⟨hcx, hcy⟩ | exact ⟨hcx5, hcy5⟩ | exact ⟨cell_put hcx5 hnaH, cell_put hcy5 hnbH⟩) (first | (go_at_call 83; refine (carried_as C z c d e' _ HD.out HE.out ?hw hzb).mono ?_; (case hw => exact hW.out.drew.car); rintro e w5 ⟨rfl, hw5⟩; have hW5 : Hid (Work w C e' H L S w5) := Lib.hid (by rw [hw5]; exact hW.out.drew.put e'); have hcx5 : w5.cell? ⟨ba, oa + i, none⟩ = some (.int .i64 (x : Int)) := (by rw [hw5]; exact cell_put hcx hna1); have hcy5 : w5.cell? ⟨bb, ob + i, none⟩ = some (.int .i64 (y : Int)) := (by rw [hw5]; exact cell_put hcy hnb1); have hfz5 := hW5.out.row.frozen i; have hcs5 := hW5.out.row.cell i hiL; rw [← HS0.out] at hcs5; clear hw5) | fail "no arm")
        go_wp2_with fail
        refine ⟨⟨i + 1, e', S.set i d, by omega, by simp, hSn, Lib.hid ?_⟩, by simp [intOf]; omega⟩
        exact hW5.out.store i d
      · obtain rfl : nb = i := by omega
        go_wp2_with fail
        go_loopw [8] (fun ii wr => ∃ (i c : Nat) (S : List Nat), nb ≤ i ∧ i ≤ na ∧ ii = .int .i64 (i : Int) ∧ Hid (Sums m n i S c) ∧ Hid (Work w C c H L S wr)) (fun ii _ => na - (intOf ii).toNat)
        case atStart => exact ⟨nb, c, S, Nat.le_refl _, by omega, rfl, hS, hW⟩
        case round =>
          clear hS hW
          obtain ⟨i, c, S, hi1, hi2, rfl, hS, hW⟩ := hrel
          by_cases hlt3 : i < na
          · obtain ⟨ba, oa, rfl, _, hca⟩ := A3.out (by rw [← ENA.out]; omega)
            have hca1 := hca i (by rw [← ENA.out]; omega)
            rw [Lim.pl_ls] at hca1
            have hcx := hW.out.below.cell (p := ⟨ba, oa + i, none⟩) (cell_lt hca1)
            rw [hca1] at hcx
            have hnx := Lim.pl_lt m i
            have hSn := Lib.hid (hS.out.next (by rw [hW.out.row.1]; have := HL.out; omega))
            rw [Lim.pl_out (n := n) (i := i) (by rw [hnB.out]; exact hi1)] at hSn
            have hc1 := hS.out.one
            obtain ⟨x, hx⟩ : ∃ x, x = Lim.pl m i := ⟨_, rfl⟩
            rw [← hx] at hcx hnx hSn
            rw [Nat.add_zero x] at hSn
            rw [Lim.B_eq] at hnx
            have e5 : IntKind.i64.wrap ((i : Int) + 1) = (i : Int) + 1 := IntWalk.i64_in _ (by omega)
            have hzb : x + c ≤ 4000000000000000000 := by omega
            have hiL : i < L := by have := HL.out; omega
            have hiL2 : (i : Int) < (L : Int) := by omega
            have hiB2 : (i : Int) < (na : Int) := by omega
            obtain ⟨d, hd⟩ : ∃ d, d = (x + c) % Lim.B := ⟨_, rfl⟩
            obtain ⟨e', he⟩ : ∃ e', e' = (x + c) / Lim.B := ⟨_, rfl⟩
            rw [← hd, ← he] at hSn
            have HD := Lib.hid hd
            have HE := Lib.hid he
            have HCA := Lib.hid hca
            clear hd he hx hca hca1
            go_wp2_with fail
            refine (carried_as C x c d e' _ HD.out HE.out hW.out.car hzb).mono ?_
            rintro e w5 ⟨rfl, hw5⟩
            have hW5 : Hid (Work w C e' H L S w5) := Lib.hid (by rw [hw5]; exact hW.out.put e')
            have hfz5 := hW5.out.row.frozen i
            have hcs5 := hW5.out.row.cell i hiL
            generalize S.getD i 0 = s0 at hcs5
            clear hw5
            go_wp2_with fail
            refine ⟨⟨i + 1, e', S.set i d, by omega, by omega, by simp, hSn, Lib.hid ?_⟩, by simp [intOf]; omega⟩
            exact hW5.out.store i d
          · obtain rfl : na = i := by omega
            have hdone := hS.out.done (by rw [hmA.out]; omega) (by rw [hnB.out]; omega) (by rw [hW.out.row.1]; have := HL.out; omega)
            have hc1 := hS.out.one
            have ecc : c % Lim.B = c := Nat.mod_eq_of_lt (by rw [Lim.B_eq]; omega)
            rw [ecc] at hdone
            have HDN := Lib.hid hdone
            clear hdone ecc
            have hiL : na < L := by have := HL.out; omega
            have hiL2 : (na : Int) < (L : Int) := by omega
            have hLm : L ≤ 1000000 := by have := HL.out; have := hmA.out; have := hnB.out; omega
            go_wp2_with fail
            refine (carried_zero C c _ hW.out.car (by rw [Lim.B_eq]; omega)).mono ?_
            rintro e w5 ⟨rfl, hw5⟩
            have hW5 : Hid (Work w C 0 H L S w5) := Lib.hid (by rw [hw5]; exact hW.out.put 0)
            have hfz5 := hW5.out.row.frozen na
            have hcs5 := hW5.out.row.cell na hiL
            generalize S.getD na 0 = s0 at hcs5
            clear hw5
            go_wp2_with fail
            have hW6 := Lib.hid (hW5.out.store na c)
            generalize w5.setCell ⟨H, na, none⟩ (.int .i64 (c : Int)) = w6 at hW6 ⊢
            refine (trimmed_any (fun b => w.heap.size ≤ b) _ _ _ (hW6.out.row.ints _ hW6.out.hh hLm) HDN.out.2).mono ?_
            rintro e w7 ⟨v', rfl, hv, rfl⟩
            rw [HDN.out.1] at hv
            have HV := Lib.hid hv
            clear hv
            go_wp2_with fail
            go_ret
            exact ⟨v', rfl, HV.out, hW6.out.below⟩
end Go.Proofs.YtbcoblpnihdhgaaDoor
