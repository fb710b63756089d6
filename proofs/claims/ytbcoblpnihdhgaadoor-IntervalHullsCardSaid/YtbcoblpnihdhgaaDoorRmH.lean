/-
  The program's rational package: compareSizes and Compare.
-/
import Derived.Test.YtbcoblpnihdhgaaDoorRmE
set_option linter.unusedVariables false
set_option maxRecDepth 100000
namespace Go.Proofs.YtbcoblpnihdhgaaDoor
open Go.RowKit
open Rt
theorem divS {x y : Nat} (hx : Sm x) (hy : Sm y) (h : 0 < y) : divR (nS x) (nS y) = (nS (x / y), nS (x % y), 0) := by
  unfold divR; rw [if_pos (bN hx hy), val_nS, val_nS, if_neg (by omega)]
theorem cmp_sgn {x y : Nat} (hx : Sm x) (hy : Sm y) : cmpR (nS x) (nS y) = sgnI ((x : Int) - (y : Int)) := by
  rw [cmpS hx hy]; unfold sgnI
  split
  · rw [if_pos (by omega)]
  · split
    · rw [if_neg (by omega), if_neg (by omega)]
    · rw [if_neg (by omega), if_pos (by omega)]
structure CsW (w : World) (c : Int) (x y u v : Nat) (wr : World) : Prop where
  a : ∃ g, RatAt w.heap.size ⟨g, nS x, nS y⟩ wr
  b : ∃ g, RatAt (w.heap.size + 1) ⟨g, nS u, nS v⟩ wr
  hx : Sm x
  hy : Sm y
  hu : Sm u
  hv : Sm v
  py : 0 < y
  pv : 0 < v
  sgn : sgnI ((x : Int) * v - (u : Int) * y) = c
  bel : Below w.heap.size w wr
def denAt (wr : World) (b : Nat) : Nat := strV ((wr.cell? ⟨b, 2, none⟩).getD undef)
theorem den_is {wr : World} {b : Nat} {g : Bool} {s : ByteArray} {y : Nat} (h : RatAt b ⟨g, s, nS y⟩ wr) : denAt wr b = y := by
  unfold denAt; rw [h.c2]; exact strV_nS y
theorem RatAt.setOther {B C i : Nat} {r : Raw} {w : World} (h : RatAt B r w) (hne : B ≠ C) (u : Value) : RatAt B r (w.setCell ⟨C, i, none⟩ u) := h.bes (Bes.set w C i u) hne
set_option maxHeartbeats 4000000 in
theorem pcsizes_any (a b : Q) (ga gb : Bool) (w : World) (h1 : Sm a.num) (h2 : Sm a.den) (h3 : Sm b.num) (h4 : Sm b.den) (p1 : 0 < a.den) (p2 : 0 < b.den) :
    Calls Tryd.prog 51 #[.agg #[.bool ga, .string (nS a.num), .string (nS a.den)], .agg #[.bool gb, .string (nS b.num), .string (nS b.den)]] w fun e w' => e = .returned (.int .i64 (sgnI ((a.num : Int) * b.den - (b.num : Int) * a.den))) ∧ Below w.heap.size w w' := by
  obtain ⟨c, hc⟩ : ∃ c, c = sgnI ((a.num : Int) * b.den - (b.num : Int) * a.den) := ⟨_, rfl⟩
  rw [← hc]
  have hW : Hid (CsW w c a.num a.den b.num b.den ((w.alloc (ratO ⟨ga, nS a.num, nS a.den⟩)).alloc (ratO ⟨gb, nS b.num, nS b.den⟩))) := Lib.hid (by
    have e0 := heap_lastM w (ratO ⟨ga, nS a.num, nS a.den⟩)
    have e1 := heap_lastM (w.alloc (ratO ⟨ga, nS a.num, nS a.den⟩)) (ratO ⟨gb, nS b.num, nS b.den⟩)
    have s1 : (w.alloc (ratO ⟨ga, nS a.num, nS a.den⟩)).heap.size = w.heap.size + 1 := by simp
    rw [s1] at e1
    refine ⟨⟨ga, ⟨?_⟩⟩, ⟨gb, ⟨e1⟩⟩, h1, h2, h3, h4, p1, p2, hc.symm, ((Below.refl _ _).alloc (Nat.le_refl _) _).alloc (by simp) _⟩
    rw [Lib.alloc_old _ _ _ (by rw [s1]; omega)]; exact e0)
  generalize nS a.num = sa at *
  generalize nS a.den = sb at *
  generalize nS b.num = sc at *
  generalize nS b.den = sd at *
  obtain ⟨W1, hW1⟩ : ∃ W1, W1 = (w.alloc (ratO ⟨ga, sa, sb⟩)).alloc (ratO ⟨gb, sc, sd⟩) := ⟨_, rfl⟩
  rw [← hW1] at hW
  have HW1 := Lib.hid hW1
  clear h1 h2 h3 h4 p1 p2 hc hW1
  go_enter Tryd.func51, Tryd.ntmps51
  go_wp2_with fail
  rw [← HW1.out]
  go_loopw [5] (fun z wr => ∃ x y u v : Nat, Hid (CsW w c x y u v wr)) (fun _ wr => denAt wr w.heap.size + denAt wr (w.heap.size + 1))
  case atStart => exact ⟨_, _, _, _, hW⟩
  case round =>
    clear hW
    obtain ⟨x, y, u, v, hW⟩ := hrel
    obtain ⟨g1, hA⟩ := hW.out.a
    obtain ⟨g2, hB⟩ := hW.out.b
    have hmu : Hid (denAt wr w.heap.size + denAt wr (w.heap.size + 1) = y + v) := Lib.hid (by rw [den_is hA, den_is hB])
    have hd1 := divS hW.out.hx hW.out.hy hW.out.py
    have hd2 := divS hW.out.hu hW.out.hv hW.out.pv
    have hr1 : x % y < y := Nat.mod_lt _ hW.out.py
    have hr2 : u % v < v := Nat.mod_lt _ hW.out.pv
    have sp : Sm (x / y) := sm_le (Nat.div_le_self _ _) hW.out.hx
    have sq : Sm (u / v) := sm_le (Nat.div_le_self _ _) hW.out.hu
    have sr : Sm (x % y) := sm_le (Nat.le_of_lt hr1) hW.out.hy
    have ss : Sm (u % v) := sm_le (Nat.le_of_lt hr2) hW.out.hv
    have hstep := sgnI_step (a := x) (b := y) (c := u) (d := v) hW.out.py hW.out.pv
    rw [hW.out.sgn] at hstep
    generalize x / y = p at *
    generalize x % y = r at *
    generalize u / v = q at *
    generalize u % v = t at *
    have hc1 : Hid (∀ w, Calls Tryd.prog 70 #[.string (nS x), .string (nS y)] w (Gives3 (nS p, nS r, 0) w)) := Lib.hid (fun w => by have := pDiv_any (nS x) (nS y) w; rwa [hd1] at this)
    have hc2 : Hid (∀ w, Calls Tryd.prog 70 #[.string (nS u), .string (nS v)] w (Gives3 (nS q, nS t, 0) w)) := Lib.hid (fun w => by have := pDiv_any (nS u) (nS v) w; rwa [hd2] at this)
    have hc3 : Hid (∀ w, Calls Tryd.prog 45 #[.string (nS p), .string (nS q)] w fun e w' => e = .returned (.int .i64 (sgnI ((p : Int) - q))) ∧ w = w') := Lib.hid (fun w => by have := pCompare_same (nS p) (nS q) w; rwa [cmp_sgn sp sq] at this)
    have hc4 : Hid (∀ w, Calls Tryd.prog 45 #[.string (nS r), .string (nS t)] w fun e w' => e = .returned (.int .i64 (sgnI ((r : Int) - t))) ∧ w = w') := Lib.hid (fun w => by have := pCompare_same (nS r) (nS t) w; rwa [cmp_sgn sr ss] at this)
    have zr := z_str (nS r)
    have zt := z_str (nS t)
    rw [isZ_nS] at zr zt
    have hX : Hid (CsW w c x y u v wr ∧ c = (if p ≠ q then sgnI ((p : Int) - q) else if r = 0 then (if t = 0 then 0 else -1) else if t = 0 then 1 else sgnI ((v : Int) * (r : Int) - (y : Int) * (t : Int))) ∧ r < y ∧ t < v ∧ Sm r ∧ Sm t) := Lib.hid ⟨hW.out, hstep, hr1, hr2, sr, ss⟩
    have HA := Lib.hid hA
    have HB := Lib.hid hB
    have c1 := hA.c1
    have c2 := hA.c2
    have c3 := hB.c1
    have c4 := hB.c2
    clear hW hA hB hd1 hd2 hr1 hr2 sp sq sr ss hstep
    go_wp2_with fail
    refine (hc1.out _).mono ?_
    rintro en w1 ⟨rfl, hb1⟩
    have hA1 := HA.out.bel hb1
    have hB1 := HB.out.bel hb1
    have c1 := hA1.c1
    have c2 := hA1.c2
    have c3 := hB1.c1
    have c4 := hB1.c2
    have HA1 := Lib.hid hA1
    have HB1 := Lib.hid hB1
    have HW1 := Lib.hid (hX.out.1.bel.trans (hb1.mono hX.out.1.bel.size))
    clear hb1 hA1 hB1
    go_wp2_with fail
    refine (hc2.out _).mono ?_
    rintro en w2 ⟨rfl, hb2⟩
    have hA2 := HA1.out.bel hb2
    have hB2 := HB1.out.bel hb2
    have c1 := hA2.c1
    have c2 := hA2.c2
    have c3 := hB2.c1
    have c4 := hB2.c2
    have f0 := hA2.fz 0
    have f1 := hA2.fz 1
    have f2 := hA2.fz 2
    have f3 := hB2.fz 0
    have f4 := hB2.fz 1
    have f5 := hB2.fz 2
    have c5 := hA2.c0
    have c6 := hB2.c0
    have HA2 := Lib.hid hA2
    have HB2 := Lib.hid hB2
    have HW2 := Lib.hid (HW1.out.trans (hb2.mono HW1.out.size))
    clear hb2 hA2 hB2 HA HB HA1 HB1 HW1
    go_wp2_with fail
    refine (hc3.out _).mono ?_
    rintro en w3 ⟨rfl, rfl⟩
    clear hc1 hc2 hc3
    by_cases hpq : p = q
    · have e0 : sgnI ((p : Int) - q) = 0 := by rw [hpq, Int.sub_self]; rfl
      rw [e0]
      have HPQ := Lib.hid hpq
      clear hpq e0
      by_cases hr0 : r = 0
      · rw [decide_eq_true hr0] at zr
        have HR0 := Lib.hid hr0
        clear hr0
        go_wp2_with fail
        refine (hc4.out _).mono ?_
        rintro en w3 ⟨rfl, rfl⟩
        go_wp2_with fail
        go_ret
        refine ⟨?_, HW2.out⟩
        rw [hX.out.2.1, if_neg (by simp [HPQ.out]), if_pos HR0.out, HR0.out]
        by_cases ht0 : t = 0
        · rw [if_pos ht0, ht0]; rfl
        · rw [if_neg ht0]; unfold sgnI; rw [if_pos (by omega)]; rfl
      · rw [decide_eq_false hr0] at zr
        have HR0 := Lib.hid hr0
        clear hr0
        by_cases ht0 : t = 0
        · rw [decide_eq_true ht0] at zt
          have HT0 := Lib.hid ht0
          clear ht0
          go_wp2_with fail
          refine (hc4.out _).mono ?_
          rintro en w3 ⟨rfl, rfl⟩
          go_wp2_with fail
          go_ret
          refine ⟨?_, HW2.out⟩
          have hr0 := HR0.out
          rw [hX.out.2.1, if_neg (by simp [HPQ.out]), if_neg HR0.out, if_pos HT0.out, HT0.out]
          unfold sgnI; rw [if_neg (by omega), if_neg (by omega)]; rfl
        · rw [decide_eq_false ht0] at zt
          have HT0 := Lib.hid ht0
          clear ht0
          go_wp2_with fail
          have hA3 := ((((HA2.out.set ⟨false, nS v, nS t⟩).setOther (C := w.heap.size + 1) (i := 0) (by omega) (.bool false)).setOther (C := w.heap.size + 1) (i := 1) (by omega) (.string (nS y))).setOther (C := w.heap.size + 1) (i := 2) (by omega) (.string (nS r)))
          have hB3 := (((HB2.out.setOther (C := w.heap.size) (i := 0) (by omega) (.bool false)).setOther (C := w.heap.size) (i := 1) (by omega) (.string (nS v))).setOther (C := w.heap.size) (i := 2) (by omega) (.string (nS t))).set ⟨false, nS y, nS r⟩
          have hlt := hX.out.2.2.1
          have hlt2 := hX.out.2.2.2.1
          refine ⟨⟨v, t, y, r, Lib.hid ⟨⟨false, hA3⟩, ⟨false, hB3⟩, hX.out.1.hv, hX.out.2.2.2.2.2, hX.out.1.hy, hX.out.2.2.2.2.1, Nat.pos_of_ne_zero HT0.out, Nat.pos_of_ne_zero HR0.out, ?_, ?_⟩⟩, ?_⟩
          · have := hX.out.2.1
            rw [if_neg (by simp [HPQ.out]), if_neg HR0.out, if_neg HT0.out] at this
            exact this.symm
          · refine ((((((HW2.out.setCell (p := ⟨w.heap.size, 0, none⟩) ?_ _).setCell (p := ⟨w.heap.size, 1, none⟩) ?_ _).setCell (p := ⟨w.heap.size, 2, none⟩) ?_ _).setCell (p := ⟨w.heap.size + 1, 0, none⟩) ?_ _).setCell (p := ⟨w.heap.size + 1, 1, none⟩) ?_ _).setCell (p := ⟨w.heap.size + 1, 2, none⟩) ?_ _)
            all_goals (first | exact Nat.le_refl _ | exact Nat.le_succ _)
          · rw [den_is hA3, den_is hB3, hmu.out]; omega
    · have e0 : (sgnI ((p : Int) - q) == 0) = false := beq_eq_false_iff_ne.2 (fun e => hpq (by have := sgnI_zero.1 e; omega))
      have e1 : (sgnI ((p : Int) - q) != 0) = true := by rw [bne, e0]; rfl
      have HPQ := Lib.hid hpq
      clear hpq
      generalize hz : sgnI ((p : Int) - q) = z at *
      have HZ := Lib.hid hz
      clear hz
      go_wp2_with fail
      go_ret
      refine ⟨?_, HW2.out⟩
      rw [hX.out.2.1, if_pos HPQ.out]; rfl
end Go.Proofs.YtbcoblpnihdhgaaDoor
