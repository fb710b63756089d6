/-
  The document's own answers of layer 4: Sub, compare, Compare, Text.
-/
import Derived.Test.YtbcoblpnihdhgaaGreatDoorRfB
import Derived.Test.YtbcoblpnihdhgaaGreatDoorRmJ
import Derived.Deep.RegionHeld3
import Derived.Deep.DeepCutAuto
set_option linter.unusedVariables false
set_option maxRecDepth 100000
namespace Go.Proofs.YtbcoblpnihdhgaaGreatDoor
open Go.RowKit
open Rt
/-- a store into one number's block keeps the others -/
theorem sub_keep {w y : World} {A B z : Nat} {ra rb : Raw} {u0 u1 u2 : Value} (hW : Below w.heap.size w y) (ha : RatAt A ra y) (hb : RatAt B rb y) (hz : w.heap.size ≤ z) (hA : A ≠ z) (hB : B ≠ z) :
    Below w.heap.size w (((y.setCell ⟨z, 0, none⟩ u0).setCell ⟨z, 1, none⟩ u1).setCell ⟨z, 2, none⟩ u2) ∧ RatAt A ra (((y.setCell ⟨z, 0, none⟩ u0).setCell ⟨z, 1, none⟩ u1).setCell ⟨z, 2, none⟩ u2) ∧ RatAt B rb (((y.setCell ⟨z, 0, none⟩ u0).setCell ⟨z, 1, none⟩ u1).setCell ⟨z, 2, none⟩ u2) :=
  ⟨((hW.setCell (p := ⟨z, 0, none⟩) hz _).setCell (p := ⟨z, 1, none⟩) hz _).setCell (p := ⟨z, 2, none⟩) hz _, ((ha.setOther hA _).setOther hA _).setOther hA _, ((hb.setOther hB _).setOther hB _).setOther hB _⟩
theorem sub_cells {w y : World} {A B : Nat} {ra rb : Raw} (h : Below w.heap.size w y ∧ RatAt A ra y ∧ RatAt B rb y) :
    Below w.heap.size w y ∧ y.cell? ⟨A, 0, none⟩ = some (.bool ra.neg) ∧ y.cell? ⟨A, 1, none⟩ = some (.string ra.num) ∧ y.cell? ⟨A, 2, none⟩ = some (.string ra.den) ∧ y.cell? ⟨B, 0, none⟩ = some (.bool rb.neg) ∧ y.cell? ⟨B, 1, none⟩ = some (.string rb.num) ∧ y.cell? ⟨B, 2, none⟩ = some (.string rb.den) :=
  ⟨h.1, h.2.1.c0, h.2.1.c1, h.2.1.c2, h.2.2.c0, h.2.2.c1, h.2.2.c2⟩
structure CsR (w : World) (c : Int) (x y u v : Nat) (wr : World) : Prop where
  hx : Sm x
  hy : Sm y
  hu : Sm u
  hv : Sm v
  py : 0 < y
  pv : 0 < v
  sgn : sgnI ((x : Int) * v - (u : Int) * y) = c
  bel : Below w.heap.size w wr
set_option maxHeartbeats 4000000 in
theorem refcs4_any (x0 y0 u0 v0 : Nat) (w : World) (h1 : Sm x0) (h2 : Sm y0) (h3 : Sm u0) (h4 : Sm v0) (p1 : 0 < y0) (p2 : 0 < v0) :
    Calls Tryz.prog 47 #[.string (nS x0), .string (nS y0), .string (nS u0), .string (nS v0)] w fun e w' => e = .returned (.int .i64 (sgnI ((x0 : Int) * v0 - (u0 : Int) * y0))) ∧ Below w.heap.size w w' := by
  obtain ⟨c, hc⟩ : ∃ c, c = sgnI ((x0 : Int) * v0 - (u0 : Int) * y0) := ⟨_, rfl⟩
  rw [← hc]
  have hW : Hid (CsR w c x0 y0 u0 v0 w) := Lib.hid ⟨h1, h2, h3, h4, p1, p2, hc.symm, Below.refl _ _⟩
  have hS : Hid (∃ a b d f : ByteArray, a = nS x0 ∧ b = nS y0 ∧ d = nS u0 ∧ f = nS v0) := Lib.hid ⟨_, _, _, _, rfl, rfl, rfl, rfl⟩
  clear h1 h2 h3 h4 p1 p2 hc hS
  go_enter Tryz.func47, Tryz.ntmps47
  go_wp2_with fail
  go_loopw [0, 1, 2, 3] (fun za zb zc zd wr => ∃ x y u v : Nat, za = .string (nS x) ∧ zb = .string (nS y) ∧ zc = .string (nS u) ∧ zd = .string (nS v) ∧ Hid (CsR w c x y u v wr)) (fun _ zb _ zd _ => strV zb + strV zd)
  case atStart => exact ⟨_, _, _, _, rfl, rfl, rfl, rfl, hW⟩
  case round =>
    clear hW
    obtain ⟨x, y, u, v, rfl, rfl, rfl, rfl, hW⟩ := hrel
    have hd1 := divS hW.out.hx hW.out.hy hW.out.py
    have hd2 := divS hW.out.hu hW.out.hv hW.out.pv
    have hr1 : x % y < y := Nat.mod_lt _ hW.out.py
    have hr2 : u % v < v := Nat.mod_lt _ hW.out.pv
    have sp : Sm (x / y) := sm_le (Nat.div_le_self _ _) hW.out.hx
    have sq : Sm (u / v) := sm_le (Nat.div_le_self _ _) hW.out.hu
    have sr : Sm (x % y) := sm_le (Nat.le_of_lt hr1) hW.out.hy
    have ss : Sm (u % v) := sm_le (Nat.le_of_lt hr2) hW.out.hv
    have hstep := sgnI_step (a := x) (b := y) (c := u) (d := v) hW.out.py hW.out.pv
    rw [hW.out.sgn] at hstep
    generalize x / y = p at *
    generalize x % y = r at *
    generalize u / v = q at *
    generalize u % v = t at *
    have hc1 : Hid (∀ w, Calls Tryz.prog 66 #[.string (nS x), .string (nS y)] w (Gives3 (nS p, nS r, 0) w)) := Lib.hid (fun w => by have := refDiv_any (nS x) (nS y) w; rwa [hd1] at this)
    have hc2 : Hid (∀ w, Calls Tryz.prog 66 #[.string (nS u), .string (nS v)] w (Gives3 (nS q, nS t, 0) w)) := Lib.hid (fun w => by have := refDiv_any (nS u) (nS v) w; rwa [hd2] at this)
    have hc3 : Hid (∀ w, Calls Tryz.prog 42 #[.string (nS p), .string (nS q)] w fun e w' => e = .returned (.int .i64 (sgnI ((p : Int) - q))) ∧ w = w') := Lib.hid (fun w => by have := refCompare_any (nS p) (nS q) w; rwa [cmp_sgn sp sq] at this)
    have zr := z_str (nS r)
    have zt := z_str (nS t)
    rw [isZ_nS] at zr zt
    have hX : Hid (CsR w c x y u v wr ∧ c = (if p ≠ q then sgnI ((p : Int) - q) else if r = 0 then (if t = 0 then 0 else -1) else if t = 0 then 1 else sgnI ((v : Int) * (r : Int) - (y : Int) * (t : Int))) ∧ r < y ∧ t < v ∧ Sm r ∧ Sm t) := Lib.hid ⟨hW.out, hstep, hr1, hr2, sr, ss⟩
    clear hW hd1 hd2 hr1 hr2 sp sq sr ss hstep
    go_wp2_with fail
    refine (hc1.out _).mono ?_
    rintro en w1 ⟨rfl, hb1⟩
    have HW1 := Lib.hid (hX.out.1.bel.trans (hb1.mono hX.out.1.bel.size))
    clear hb1
    go_wp2_with fail
    refine (hc2.out _).mono ?_
    rintro en w2 ⟨rfl, hb2⟩
    have HW2 := Lib.hid (HW1.out.trans (hb2.mono HW1.out.size))
    clear hb2 HW1
    go_wp2_with fail
    refine (hc3.out _).mono ?_
    rintro en w3 ⟨rfl, rfl⟩
    clear hc1 hc2 hc3
    by_cases hpq : p = q
    · have e0 : sgnI ((p : Int) - q) = 0 := by rw [hpq, Int.sub_self]; rfl
      rw [e0]
      have HPQ := Lib.hid hpq
      clear hpq e0
      by_cases hr0 : r = 0
      · rw [decide_eq_true hr0] at zr
        have HR0 := Lib.hid hr0
        clear hr0
        by_cases ht0 : t = 0
        · rw [decide_eq_true ht0] at zt
          have HT0 := Lib.hid ht0
          clear ht0
          go_wp2_with fail
          go_ret
          refine ⟨?_, HW2.out⟩
          rw [hX.out.2.1, if_neg (by simp [HPQ.out]), if_pos HR0.out, if_pos HT0.out]; rfl
        · rw [decide_eq_false ht0] at zt
          have HT0 := Lib.hid ht0
          clear ht0
          go_wp2_with fail
          go_ret
          refine ⟨?_, HW2.out⟩
          rw [hX.out.2.1, if_neg (by simp [HPQ.out]), if_pos HR0.out, if_neg HT0.out]; rfl
      · rw [decide_eq_false hr0] at zr
        have HR0 := Lib.hid hr0
        clear hr0
        by_cases ht0 : t = 0
        · rw [decide_eq_true ht0] at zt
          have HT0 := Lib.hid ht0
          clear ht0
          go_wp2_with fail
          go_ret
          refine ⟨?_, HW2.out⟩
          rw [hX.out.2.1, if_neg (by simp [HPQ.out]), if_neg HR0.out, if_pos HT0.out]; rfl
        · rw [decide_eq_false ht0] at zt
          have HT0 := Lib.hid ht0
          clear ht0
          go_wp2_with fail
          have hlt := hX.out.2.2.1
          have hlt2 := hX.out.2.2.2.1
          go_roundw
          case rel =>
            refine ⟨v, t, y, r, rfl, rfl, rfl, rfl, Lib.hid ⟨hX.out.1.hv, hX.out.2.2.2.2.2, hX.out.1.hy, hX.out.2.2.2.2.1, Nat.pos_of_ne_zero HT0.out, Nat.pos_of_ne_zero HR0.out, ?_, HW2.out⟩⟩
            have := hX.out.2.1
            rw [if_neg (by simp [HPQ.out]), if_neg HR0.out, if_neg HT0.out] at this
            exact this.symm
          case measure => simp only [strV_nS]; omega
    · have e0 : (sgnI ((p : Int) - q) == 0) = false := beq_eq_false_iff_ne.2 (fun e => hpq (by have := sgnI_zero.1 e; omega))
      have e1 : (sgnI ((p : Int) - q) != 0) = true := by rw [bne, e0]; rfl
      have HPQ := Lib.hid hpq
      clear hpq
      generalize hz : sgnI ((p : Int) - q) = z at *
      have HZ := Lib.hid hz
      clear hz
      go_wp2_with fail
      go_ret
      refine ⟨?_, HW2.out⟩
      rw [hX.out.2.1, if_pos HPQ.out, ← HZ.out]; rfl
set_option maxHeartbeats 4000000 in
theorem refcmp4_any (a b : Raw) (w : World) : Calls Tryz.prog 28 #[.agg #[.bool a.neg, .string a.num, .string a.den], .agg #[.bool b.neg, .string b.num, .string b.den]] w fun e w' => e = .returned (.int .i64 (cmpE a b)) ∧ Below w.heap.size w w' := by
  obtain ⟨t, ht⟩ : ∃ t, t = cmpE a b := ⟨_, rfl⟩
  rw [← ht]
  have D0 := Lib.hid (Below.refl w.heap.size w)
  by_cases ha : okR a = true
  case neg =>
    have ha := Bool.eq_false_iff.2 ha
    have hva : Hid (∀ w, Calls Tryz.prog 35 #[.agg #[.bool a.neg, .string a.num, .string a.den]] w (GivesB false w)) := Lib.hid (fun w => by have := refvalid4_any a w; rwa [ha] at this)
    have HTT : Hid (t = 0) := Lib.hid (by rw [ht]; unfold cmpE; rw [ha]; rfl)
    clear ht ha
    go_enter Tryz.func28, Tryz.ntmps28
    go_wp2_with fail
    obtain ⟨B1, hB1⟩ : ∃ B, B = w.heap.size := ⟨_, rfl⟩
    obtain ⟨W1_0, hW1_0⟩ : ∃ W, W = w.alloc (Obj.cells #[Value.bool a.neg, Value.string a.num, Value.string a.den] 24) := ⟨_, rfl⟩
    have hb : Below w.heap.size w W1_0 := by rw [hW1_0]; exact (Below.refl _ _).alloc (Nat.le_refl _) _
    have hzW1_0 : w.heap.size = B1 := by rw [hB1]
    have hlW1_0 : RatAt (B1) a W1_0 := by rw [← hzW1_0, hW1_0]; exact ⟨heap_lastM _ _⟩
    have D1 := Lib.hid (D0.out.trans (hb.mono D0.out.size))
    clear hb
    have a_1 := Lib.hid hlW1_0
    clear hlW1_0
    obtain ⟨W1_1, hW1_1⟩ : ∃ W, W = W1_0.alloc (Obj.cells #[Value.bool b.neg, Value.string b.num, Value.string b.den] 24) := ⟨_, rfl⟩
    have hb : Below W1_0.heap.size W1_0 W1_1 := by rw [hW1_1]; exact (Below.refl _ _).alloc (Nat.le_refl _) _
    have hzW1_1 : W1_0.heap.size = B1 + 1 := by rw [hW1_0]; simp [hzW1_0]
    have hlW1_1 : RatAt (B1 + 1) b W1_1 := by rw [← hzW1_1, hW1_1]; exact ⟨heap_lastM _ _⟩
    have D2 := Lib.hid (D1.out.trans (hb.mono D1.out.size))
    have a_2 := Lib.hid (a_1.out.bel hb)
    clear D1 a_1
    clear hb
    have b_2 := Lib.hid hlW1_1
    clear hlW1_1
    rw [← hW1_0]
    rw [← hW1_1]
    simp only [← hB1]
    have HW1_0 := Lib.hid hW1_0
    clear hW1_0 hzW1_0
    have HW1_1 := Lib.hid hW1_1
    clear hW1_1 hzW1_1
    have HB1 := Lib.hid hB1
    clear hB1
    have ac0 := a_2.out.c0
    have ac1 := a_2.out.c1
    have ac2 := a_2.out.c2
    have bc0 := b_2.out.c0
    have bc1 := b_2.out.c1
    have bc2 := b_2.out.c2
    go_wp2_with fail
    clear ac0 ac1 ac2 bc0 bc1 bc2
    refine (hva.out _).mono ?_
    rintro e v3 ⟨rfl, hb⟩
    have D3 := Lib.hid (D2.out.trans (hb.mono D2.out.size))
    have a_3 := Lib.hid (a_2.out.bel hb)
    have b_3 := Lib.hid (b_2.out.bel hb)
    clear D2 a_2 b_2
    clear hb
    go_wp2_with fail
    go_ret
    exact ⟨by rw [HTT.out]; rfl, D3.out⟩
  have hva : Hid (∀ w, Calls Tryz.prog 35 #[.agg #[.bool a.neg, .string a.num, .string a.den]] w (GivesB true w)) := Lib.hid (fun w => by have := refvalid4_any a w; rwa [ha] at this)
  by_cases hb : okR b = true
  case neg =>
    have hb := Bool.eq_false_iff.2 hb
    have hvb : Hid (∀ w, Calls Tryz.prog 35 #[.agg #[.bool b.neg, .string b.num, .string b.den]] w (GivesB false w)) := Lib.hid (fun w => by have := refvalid4_any b w; rwa [hb] at this)
    have HTT : Hid (t = 0) := Lib.hid (by rw [ht]; unfold cmpE; rw [ha, hb]; rfl)
    clear ht ha hb
    go_enter Tryz.func28, Tryz.ntmps28
    go_wp2_with fail
    obtain ⟨B1, hB1⟩ : ∃ B, B = w.heap.size := ⟨_, rfl⟩
    obtain ⟨W1_0, hW1_0⟩ : ∃ W, W = w.alloc (Obj.cells #[Value.bool a.neg, Value.string a.num, Value.string a.den] 24) := ⟨_, rfl⟩
    have hb : Below w.heap.size w W1_0 := by rw [hW1_0]; exact (Below.refl _ _).alloc (Nat.le_refl _) _
    have hzW1_0 : w.heap.size = B1 := by rw [hB1]
    have hlW1_0 : RatAt (B1) a W1_0 := by rw [← hzW1_0, hW1_0]; exact ⟨heap_lastM _ _⟩
    have D1 := Lib.hid (D0.out.trans (hb.mono D0.out.size))
    clear hb
    have a_1 := Lib.hid hlW1_0
    clear hlW1_0
    obtain ⟨W1_1, hW1_1⟩ : ∃ W, W = W1_0.alloc (Obj.cells #[Value.bool b.neg, Value.string b.num, Value.string b.den] 24) := ⟨_, rfl⟩
    have hb : Below W1_0.heap.size W1_0 W1_1 := by rw [hW1_1]; exact (Below.refl _ _).alloc (Nat.le_refl _) _
    have hzW1_1 : W1_0.heap.size = B1 + 1 := by rw [hW1_0]; simp [hzW1_0]
    have hlW1_1 : RatAt (B1 + 1) b W1_1 := by rw [← hzW1_1, hW1_1]; exact ⟨heap_lastM _ _⟩
    have D2 := Lib.hid (D1.out.trans (hb.mono D1.out.size))
    have a_2 := Lib.hid (a_1.out.bel hb)
    clear D1 a_1
    clear hb
    have b_2 := Lib.hid hlW1_1
    clear hlW1_1
    rw [← hW1_0]
    rw [← hW1_1]
    simp only [← hB1]
    have HW1_0 := Lib.hid hW1_0
    clear hW1_0 hzW1_0
    have HW1_1 := Lib.hid hW1_1
    clear hW1_1 hzW1_1
    have HB1 := Lib.hid hB1
    clear hB1
    have ac0 := a_2.out.c0
    have ac1 := a_2.out.c1
    have ac2 := a_2.out.c2
    have bc0 := b_2.out.c0
    have bc1 := b_2.out.c1
    have bc2 := b_2.out.c2
    go_wp2_with fail
    clear ac0 ac1 ac2 bc0 bc1 bc2
    refine (hva.out _).mono ?_
    rintro e v3 ⟨rfl, hb⟩
    have D3 := Lib.hid (D2.out.trans (hb.mono D2.out.size))
    have a_3 := Lib.hid (a_2.out.bel hb)
    have b_3 := Lib.hid (b_2.out.bel hb)
    clear D2 a_2 b_2
    clear hb
    have ac0 := a_3.out.c0
    have ac1 := a_3.out.c1
    have ac2 := a_3.out.c2
    have bc0 := b_3.out.c0
    have bc1 := b_3.out.c1
    have bc2 := b_3.out.c2
    go_wp2_with fail
    clear ac0 ac1 ac2 bc0 bc1 bc2
    refine (hvb.out _).mono ?_
    rintro e v4 ⟨rfl, hb⟩
    have D4 := Lib.hid (D3.out.trans (hb.mono D3.out.size))
    have a_4 := Lib.hid (a_3.out.bel hb)
    have b_4 := Lib.hid (b_3.out.bel hb)
    clear D3 a_3 b_3
    clear hb
    go_wp2_with fail
    go_ret
    exact ⟨by rw [HTT.out]; rfl, D4.out⟩
  have hvb : Hid (∀ w, Calls Tryz.prog 35 #[.agg #[.bool b.neg, .string b.num, .string b.den]] w (GivesB true w)) := Lib.hid (fun w => by have := refvalid4_any b w; rwa [hb] at this)
  obtain ⟨p, hp⟩ : ∃ p : Q, a = p.raw := ⟨a.q, (okR_of ha).2.1.symm⟩
  obtain ⟨q, hq⟩ : ∃ q : Q, b = q.raw := ⟨b.q, (okR_of hb).2.1.symm⟩
  have hcs : t = if p.neg = q.neg then (if p.neg = true then sgnI ((q.num : Int) * p.den - (p.num : Int) * q.den) else sgnI ((p.num : Int) * q.den - (q.num : Int) * p.den)) else if p.neg = true then -1 else 1 := by
    rw [hp] at ha
    rw [hq] at hb
    rw [ht, hp, hq, cmpE_val ha hb]
    obtain ⟨h1, _, _⟩ := raw_sm ha
    obtain ⟨k1, _, _⟩ := raw_sm hb
    by_cases hn : p.neg = q.neg
    · rw [if_pos hn, cmpQ_sign hn]
    · rw [if_neg hn, cmpQ_diff h1 k1 hn]
  have hl : Sm p.num ∧ Sm p.den ∧ Sm q.num ∧ Sm q.den ∧ 0 < p.den ∧ 0 < q.den := by
    rw [hp] at ha
    rw [hq] at hb
    obtain ⟨h1, h2, h3⟩ := raw_sm ha
    obtain ⟨k1, k2, k3⟩ := raw_sm hb
    exact ⟨h2, h3, k2, k3, h1.1, k1.1⟩
  clear ht ha hb
  obtain ⟨na, xa, ya⟩ := p
  obtain ⟨nb, xb, yb⟩ := q
  simp only at hcs hl
  have e0 : a = ⟨na, nS xa, nS ya⟩ := hp
  have e1 : b = ⟨nb, nS xb, nS yb⟩ := hq
  clear hp hq
  have HS1 : Hid (∀ w, Calls Tryz.prog 47 #[.string (nS xa), .string (nS ya), .string (nS xb), .string (nS yb)] w fun e w' => e = .returned (.int .i64 (sgnI ((xa : Int) * yb - (xb : Int) * ya))) ∧ Below w.heap.size w w') := Lib.hid (fun w => refcs4_any xa ya xb yb w hl.1 hl.2.1 hl.2.2.1 hl.2.2.2.1 hl.2.2.2.2.1 hl.2.2.2.2.2)
  have HS2 : Hid (∀ w, Calls Tryz.prog 47 #[.string (nS xb), .string (nS yb), .string (nS xa), .string (nS ya)] w fun e w' => e = .returned (.int .i64 (sgnI ((xb : Int) * ya - (xa : Int) * yb))) ∧ Below w.heap.size w w') := Lib.hid (fun w => refcs4_any xb yb xa ya w hl.2.2.1 hl.2.2.2.1 hl.1 hl.2.1 hl.2.2.2.2.2 hl.2.2.2.2.1)
  clear hl
  generalize sgnI ((xa : Int) * yb - (xb : Int) * ya) = s1 at *
  generalize sgnI ((xb : Int) * ya - (xa : Int) * yb) = s2 at *
  generalize nS xa = xas at *
  generalize nS ya = yas at *
  generalize nS xb = xbs at *
  generalize nS yb = ybs at *
  subst e0 e1
  have HTT := Lib.hid hcs
  clear hcs
  cases na <;> cases nb
  ·
    go_enter Tryz.func28, Tryz.ntmps28
    go_wp2_with fail
    obtain ⟨B1, hB1⟩ : ∃ B, B = w.heap.size := ⟨_, rfl⟩
    obtain ⟨W1_0, hW1_0⟩ : ∃ W, W = w.alloc (Obj.cells #[Value.bool false, Value.string xas, Value.string yas] 24) := ⟨_, rfl⟩
    have hb : Below w.heap.size w W1_0 := by rw [hW1_0]; exact (Below.refl _ _).alloc (Nat.le_refl _) _
    have hzW1_0 : w.heap.size = B1 := by rw [hB1]
    have hlW1_0 : RatAt (B1) ⟨false, xas, yas⟩ W1_0 := by rw [← hzW1_0, hW1_0]; exact ⟨heap_lastM _ _⟩
    have D1 := Lib.hid (D0.out.trans (hb.mono D0.out.size))
    clear hb
    have a_1 := Lib.hid hlW1_0
    clear hlW1_0
    obtain ⟨W1_1, hW1_1⟩ : ∃ W, W = W1_0.alloc (Obj.cells #[Value.bool false, Value.string xbs, Value.string ybs] 24) := ⟨_, rfl⟩
    have hb : Below W1_0.heap.size W1_0 W1_1 := by rw [hW1_1]; exact (Below.refl _ _).alloc (Nat.le_refl _) _
    have hzW1_1 : W1_0.heap.size = B1 + 1 := by rw [hW1_0]; simp [hzW1_0]
    have hlW1_1 : RatAt (B1 + 1) ⟨false, xbs, ybs⟩ W1_1 := by rw [← hzW1_1, hW1_1]; exact ⟨heap_lastM _ _⟩
    have D2 := Lib.hid (D1.out.trans (hb.mono D1.out.size))
    have a_2 := Lib.hid (a_1.out.bel hb)
    clear D1 a_1
    clear hb
    have b_2 := Lib.hid hlW1_1
    clear hlW1_1
    rw [← hW1_0]
    rw [← hW1_1]
    simp only [← hB1]
    have HW1_0 := Lib.hid hW1_0
    clear hW1_0 hzW1_0
    have HW1_1 := Lib.hid hW1_1
    clear hW1_1 hzW1_1
    have HB1 := Lib.hid hB1
    clear hB1
    have ac0 := a_2.out.c0
    have ac1 := a_2.out.c1
    have ac2 := a_2.out.c2
    have bc0 := b_2.out.c0
    have bc1 := b_2.out.c1
    have bc2 := b_2.out.c2
    go_wp2_with fail
    clear ac0 ac1 ac2 bc0 bc1 bc2
    refine (hva.out _).mono ?_
    rintro e v3 ⟨rfl, hb⟩
    have D3 := Lib.hid (D2.out.trans (hb.mono D2.out.size))
    have a_3 := Lib.hid (a_2.out.bel hb)
    have b_3 := Lib.hid (b_2.out.bel hb)
    clear D2 a_2 b_2
    clear hb
    have ac0 := a_3.out.c0
    have ac1 := a_3.out.c1
    have ac2 := a_3.out.c2
    have bc0 := b_3.out.c0
    have bc1 := b_3.out.c1
    have bc2 := b_3.out.c2
    go_wp2_with fail
    clear ac0 ac1 ac2 bc0 bc1 bc2
    refine (hvb.out _).mono ?_
    rintro e v4 ⟨rfl, hb⟩
    have D4 := Lib.hid (D3.out.trans (hb.mono D3.out.size))
    have a_4 := Lib.hid (a_3.out.bel hb)
    have b_4 := Lib.hid (b_3.out.bel hb)
    clear D3 a_3 b_3
    clear hb
    have ac0 := a_4.out.c0
    have ac1 := a_4.out.c1
    have ac2 := a_4.out.c2
    have bc0 := b_4.out.c0
    have bc1 := b_4.out.c1
    have bc2 := b_4.out.c2
    go_wp2_with fail
    clear ac0 ac1 ac2 bc0 bc1 bc2
    refine (HS1.out _).mono ?_
    rintro e v5 ⟨rfl, hb⟩
    have D5 := Lib.hid (D4.out.trans (hb.mono D4.out.size))
    have a_5 := Lib.hid (a_4.out.bel hb)
    have b_5 := Lib.hid (b_4.out.bel hb)
    clear D4 a_4 b_4
    clear hb
    go_wp2_with fail
    go_ret
    exact ⟨by rw [HTT.out]; rfl, D5.out⟩
  ·
    go_enter Tryz.func28, Tryz.ntmps28
    go_wp2_with fail
    obtain ⟨B1, hB1⟩ : ∃ B, B = w.heap.size := ⟨_, rfl⟩
    obtain ⟨W1_0, hW1_0⟩ : ∃ W, W = w.alloc (Obj.cells #[Value.bool false, Value.string xas, Value.string yas] 24) := ⟨_, rfl⟩
    have hb : Below w.heap.size w W1_0 := by rw [hW1_0]; exact (Below.refl _ _).alloc (Nat.le_refl _) _
    have hzW1_0 : w.heap.size = B1 := by rw [hB1]
    have hlW1_0 : RatAt (B1) ⟨false, xas, yas⟩ W1_0 := by rw [← hzW1_0, hW1_0]; exact ⟨heap_lastM _ _⟩
    have D1 := Lib.hid (D0.out.trans (hb.mono D0.out.size))
    clear hb
    have a_1 := Lib.hid hlW1_0
    clear hlW1_0
    obtain ⟨W1_1, hW1_1⟩ : ∃ W, W = W1_0.alloc (Obj.cells #[Value.bool true, Value.string xbs, Value.string ybs] 24) := ⟨_, rfl⟩
    have hb : Below W1_0.heap.size W1_0 W1_1 := by rw [hW1_1]; exact (Below.refl _ _).alloc (Nat.le_refl _) _
    have hzW1_1 : W1_0.heap.size = B1 + 1 := by rw [hW1_0]; simp [hzW1_0]
    have hlW1_1 : RatAt (B1 + 1) ⟨true, xbs, ybs⟩ W1_1 := by rw [← hzW1_1, hW1_1]; exact ⟨heap_lastM _ _⟩
    have D2 := Lib.hid (D1.out.trans (hb.mono D1.out.size))
    have a_2 := Lib.hid (a_1.out.bel hb)
    clear D1 a_1
    clear hb
    have b_2 := Lib.hid hlW1_1
    clear hlW1_1
    rw [← hW1_0]
    rw [← hW1_1]
    simp only [← hB1]
    have HW1_0 := Lib.hid hW1_0
    clear hW1_0 hzW1_0
    have HW1_1 := Lib.hid hW1_1
    clear hW1_1 hzW1_1
    have HB1 := Lib.hid hB1
    clear hB1
    have ac0 := a_2.out.c0
    have ac1 := a_2.out.c1
    have ac2 := a_2.out.c2
    have bc0 := b_2.out.c0
    have bc1 := b_2.out.c1
    have bc2 := b_2.out.c2
    go_wp2_with fail
    clear ac0 ac1 ac2 bc0 bc1 bc2
    refine (hva.out _).mono ?_
    rintro e v3 ⟨rfl, hb⟩
    have D3 := Lib.hid (D2.out.trans (hb.mono D2.out.size))
    have a_3 := Lib.hid (a_2.out.bel hb)
    have b_3 := Lib.hid (b_2.out.bel hb)
    clear D2 a_2 b_2
    clear hb
    have ac0 := a_3.out.c0
    have ac1 := a_3.out.c1
    have ac2 := a_3.out.c2
    have bc0 := b_3.out.c0
    have bc1 := b_3.out.c1
    have bc2 := b_3.out.c2
    go_wp2_with fail
    clear ac0 ac1 ac2 bc0 bc1 bc2
    refine (hvb.out _).mono ?_
    rintro e v4 ⟨rfl, hb⟩
    have D4 := Lib.hid (D3.out.trans (hb.mono D3.out.size))
    have a_4 := Lib.hid (a_3.out.bel hb)
    have b_4 := Lib.hid (b_3.out.bel hb)
    clear D3 a_3 b_3
    clear hb
    have ac0 := a_4.out.c0
    have ac1 := a_4.out.c1
    have ac2 := a_4.out.c2
    have bc0 := b_4.out.c0
    have bc1 := b_4.out.c1
    have bc2 := b_4.out.c2
    go_wp2_with fail
    clear ac0 ac1 ac2 bc0 bc1 bc2
    go_ret
    exact ⟨by rw [HTT.out]; rfl, D4.out⟩
  ·
    go_enter Tryz.func28, Tryz.ntmps28
    go_wp2_with fail
    obtain ⟨B1, hB1⟩ : ∃ B, B = w.heap.size := ⟨_, rfl⟩
    obtain ⟨W1_0, hW1_0⟩ : ∃ W, W = w.alloc (Obj.cells #[Value.bool true, Value.string xas, Value.string yas] 24) := ⟨_, rfl⟩
    have hb : Below w.heap.size w W1_0 := by rw [hW1_0]; exact (Below.refl _ _).alloc (Nat.le_refl _) _
    have hzW1_0 : w.heap.size = B1 := by rw [hB1]
    have hlW1_0 : RatAt (B1) ⟨true, xas, yas⟩ W1_0 := by rw [← hzW1_0, hW1_0]; exact ⟨heap_lastM _ _⟩
    have D1 := Lib.hid (D0.out.trans (hb.mono D0.out.size))
    clear hb
    have a_1 := Lib.hid hlW1_0
    clear hlW1_0
    obtain ⟨W1_1, hW1_1⟩ : ∃ W, W = W1_0.alloc (Obj.cells #[Value.bool false, Value.string xbs, Value.string ybs] 24) := ⟨_, rfl⟩
    have hb : Below W1_0.heap.size W1_0 W1_1 := by rw [hW1_1]; exact (Below.refl _ _).alloc (Nat.le_refl _) _
    have hzW1_1 : W1_0.heap.size = B1 + 1 := by rw [hW1_0]; simp [hzW1_0]
    have hlW1_1 : RatAt (B1 + 1) ⟨false, xbs, ybs⟩ W1_1 := by rw [← hzW1_1, hW1_1]; exact ⟨heap_lastM _ _⟩
    have D2 := Lib.hid (D1.out.trans (hb.mono D1.out.size))
    have a_2 := Lib.hid (a_1.out.bel hb)
    clear D1 a_1
    clear hb
    have b_2 := Lib.hid hlW1_1
    clear hlW1_1
    rw [← hW1_0]
    rw [← hW1_1]
    simp only [← hB1]
    have HW1_0 := Lib.hid hW1_0
    clear hW1_0 hzW1_0
    have HW1_1 := Lib.hid hW1_1
    clear hW1_1 hzW1_1
    have HB1 := Lib.hid hB1
    clear hB1
    have ac0 := a_2.out.c0
    have ac1 := a_2.out.c1
    have ac2 := a_2.out.c2
    have bc0 := b_2.out.c0
    have bc1 := b_2.out.c1
    have bc2 := b_2.out.c2
    go_wp2_with fail
    clear ac0 ac1 ac2 bc0 bc1 bc2
    refine (hva.out _).mono ?_
    rintro e v3 ⟨rfl, hb⟩
    have D3 := Lib.hid (D2.out.trans (hb.mono D2.out.size))
    have a_3 := Lib.hid (a_2.out.bel hb)
    have b_3 := Lib.hid (b_2.out.bel hb)
    clear D2 a_2 b_2
    clear hb
    have ac0 := a_3.out.c0
    have ac1 := a_3.out.c1
    have ac2 := a_3.out.c2
    have bc0 := b_3.out.c0
    have bc1 := b_3.out.c1
    have bc2 := b_3.out.c2
    go_wp2_with fail
    clear ac0 ac1 ac2 bc0 bc1 bc2
    refine (hvb.out _).mono ?_
    rintro e v4 ⟨rfl, hb⟩
    have D4 := Lib.hid (D3.out.trans (hb.mono D3.out.size))
    have a_4 := Lib.hid (a_3.out.bel hb)
    have b_4 := Lib.hid (b_3.out.bel hb)
    clear D3 a_3 b_3
    clear hb
    have ac0 := a_4.out.c0
    have ac1 := a_4.out.c1
    have ac2 := a_4.out.c2
    have bc0 := b_4.out.c0
    have bc1 := b_4.out.c1
    have bc2 := b_4.out.c2
    go_wp2_with fail
    clear ac0 ac1 ac2 bc0 bc1 bc2
    go_ret
    exact ⟨by rw [HTT.out]; rfl, D4.out⟩
  ·
    go_enter Tryz.func28, Tryz.ntmps28
    go_wp2_with fail
    obtain ⟨B1, hB1⟩ : ∃ B, B = w.heap.size := ⟨_, rfl⟩
    obtain ⟨W1_0, hW1_0⟩ : ∃ W, W = w.alloc (Obj.cells #[Value.bool true, Value.string xas, Value.string yas] 24) := ⟨_, rfl⟩
    have hb : Below w.heap.size w W1_0 := by rw [hW1_0]; exact (Below.refl _ _).alloc (Nat.le_refl _) _
    have hzW1_0 : w.heap.size = B1 := by rw [hB1]
    have hlW1_0 : RatAt (B1) ⟨true, xas, yas⟩ W1_0 := by rw [← hzW1_0, hW1_0]; exact ⟨heap_lastM _ _⟩
    have D1 := Lib.hid (D0.out.trans (hb.mono D0.out.size))
    clear hb
    have a_1 := Lib.hid hlW1_0
    clear hlW1_0
    obtain ⟨W1_1, hW1_1⟩ : ∃ W, W = W1_0.alloc (Obj.cells #[Value.bool true, Value.string xbs, Value.string ybs] 24) := ⟨_, rfl⟩
    have hb : Below W1_0.heap.size W1_0 W1_1 := by rw [hW1_1]; exact (Below.refl _ _).alloc (Nat.le_refl _) _
    have hzW1_1 : W1_0.heap.size = B1 + 1 := by rw [hW1_0]; simp [hzW1_0]
    have hlW1_1 : RatAt (B1 + 1) ⟨true, xbs, ybs⟩ W1_1 := by rw [← hzW1_1, hW1_1]; exact ⟨heap_lastM _ _⟩
    have D2 := Lib.hid (D1.out.trans (hb.mono D1.out.size))
    have a_2 := Lib.hid (a_1.out.bel hb)
    clear D1 a_1
    clear hb
    have b_2 := Lib.hid hlW1_1
    clear hlW1_1
    rw [← hW1_0]
    rw [← hW1_1]
    simp only [← hB1]
    have HW1_0 := Lib.hid hW1_0
    clear hW1_0 hzW1_0
    have HW1_1 := Lib.hid hW1_1
    clear hW1_1 hzW1_1
    have HB1 := Lib.hid hB1
    clear hB1
    have ac0 := a_2.out.c0
    have ac1 := a_2.out.c1
    have ac2 := a_2.out.c2
    have bc0 := b_2.out.c0
    have bc1 := b_2.out.c1
    have bc2 := b_2.out.c2
    go_wp2_with fail
    clear ac0 ac1 ac2 bc0 bc1 bc2
    refine (hva.out _).mono ?_
    rintro e v3 ⟨rfl, hb⟩
    have D3 := Lib.hid (D2.out.trans (hb.mono D2.out.size))
    have a_3 := Lib.hid (a_2.out.bel hb)
    have b_3 := Lib.hid (b_2.out.bel hb)
    clear D2 a_2 b_2
    clear hb
    have ac0 := a_3.out.c0
    have ac1 := a_3.out.c1
    have ac2 := a_3.out.c2
    have bc0 := b_3.out.c0
    have bc1 := b_3.out.c1
    have bc2 := b_3.out.c2
    go_wp2_with fail
    clear ac0 ac1 ac2 bc0 bc1 bc2
    refine (hvb.out _).mono ?_
    rintro e v4 ⟨rfl, hb⟩
    have D4 := Lib.hid (D3.out.trans (hb.mono D3.out.size))
    have a_4 := Lib.hid (a_3.out.bel hb)
    have b_4 := Lib.hid (b_3.out.bel hb)
    clear D3 a_3 b_3
    clear hb
    have ac0 := a_4.out.c0
    have ac1 := a_4.out.c1
    have ac2 := a_4.out.c2
    have bc0 := b_4.out.c0
    have bc1 := b_4.out.c1
    have bc2 := b_4.out.c2
    go_wp2_with fail
    clear ac0 ac1 ac2 bc0 bc1 bc2
    refine (HS2.out _).mono ?_
    rintro e v5 ⟨rfl, hb⟩
    have D5 := Lib.hid (D4.out.trans (hb.mono D4.out.size))
    have a_5 := Lib.hid (a_4.out.bel hb)
    have b_5 := Lib.hid (b_4.out.bel hb)
    clear D4 a_4 b_4
    clear hb
    go_wp2_with fail
    go_ret
    exact ⟨by rw [HTT.out]; rfl, D5.out⟩
theorem ba_assoc (a b c : ByteArray) : a ++ b ++ c = a ++ (b ++ c) := by apply tl_inj; simp [tl_app]
end Go.Proofs.YtbcoblpnihdhgaaGreatDoor
