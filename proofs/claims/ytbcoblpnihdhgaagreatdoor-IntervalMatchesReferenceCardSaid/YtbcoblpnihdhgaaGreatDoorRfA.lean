/-
  The document's own answers of layer 4: Valid, lowest, Of, Make, Minus, Add, Sub, Mul, Div.
-/
import Derived.Test.YtbcoblpnihdhgaaGreatDoorRmI
import Derived.Test.YtbcoblpnihdhgaaGreatDoorRmF
import Derived.Test.YtbcoblpnihdhgaaGreatDoorRatRef
import Derived.Test.YtbcoblpnihdhgaaGreatDoorRatAbs
import Derived.Test.YtbcoblpnihdhgaaGreatDoorNatB
set_option linter.unusedVariables false
set_option maxRecDepth 100000
namespace Go.Proofs.YtbcoblpnihdhgaaGreatDoor
open Go.RowKit
open Rt
theorem rvalid_is (r : Raw) : okR r = (validB r.num && (validB r.den && (!isZ r.den && (if isZ r.num then isO r.den && !r.neg else isO (gcdR r.num r.den).1)))) := by
  obtain ⟨neg, num, den⟩ := r
  unfold okR
  simp only
  by_cases h1 : validB num = true
  · by_cases h2 : validB den = true
    · rw [h1, h2]
      obtain ⟨n, hn⟩ : ∃ n, num = nS n := ⟨_, nS_of h1⟩
      obtain ⟨d, hd⟩ : ∃ d, den = nS d := ⟨_, nS_of h2⟩
      subst hn hd
      have s1 : Sm n := ((validB_iff _).1 h1).2
      have s2 : Sm d := ((validB_iff _).1 h2).2
      have e : (Raw.q ⟨neg, nS n, nS d⟩) = ⟨neg, n, d⟩ := Q.eq_of rfl (val_nS _) (val_nS _)
      rw [e, isZ_nS, isZ_nS, isO_nS, gcdS s1 s2]
      simp only [isO_nS]
      unfold okQB
      simp only [Bool.true_and]
      by_cases hd0 : d = 0
      · simp [hd0]
      · by_cases hn0 : n = 0
        · subst hn0
          have a1 : (0 < d) = True := by simp; omega
          simp [hd0, a1]
        · have a1 : (0 < d) = True := by simp; omega
          simp [hd0, hn0, a1]
    · have e2 : validB den = false := by simpa using h2
      rw [e2]; simp
  · have e1 : validB num = false := by simpa using h1
    rw [e1]; simp
theorem results_rat1 {fn : Func} {p : Tmp} (h : fn.results = #[.cell p 24]) (tmps : Array Value) (w : World) (g : Nat) (r : Raw)
    (hp : tmps.getD p undef = .pointer (some ⟨g, 0, none⟩)) (hg : RatAt g r w) :
    (results fn tmps).run Tryz.prog w = .ok (.agg #[.bool r.neg, .string r.num, .string r.den]) w := by
  have hp' : tmps[p]?.getD undef = .pointer (some ⟨g, 0, none⟩) := by simpa using hp
  simp [results, h, hp', asAddr, run_loadVar_row w g 24 24 _ (0, 0) _ hg.cells Tryz.underlying24 rfl (by kernel_rfl)]
set_option maxHeartbeats 2000000 in
theorem refvalid4_any (r : Raw) (w : World) : Calls Tryz.prog 35 #[.agg #[.bool r.neg, .string r.num, .string r.den]] w (GivesB (okR r) w) := by
  rw [rvalid_is r]
  obtain ⟨neg, num, den⟩ := r
  have z0 := z_str num
  have z1 := z_str den
  have o1 := o_str den
  have o2 := o_str (gcdR num den).1
  have hcall : ∀ w, Calls Tryz.prog 50 #[.string num, .string den] w (Gives2 (gcdR num den) w) := fun w => refGcd_any num den w
  have hva : Hid (∀ w, Calls Tryz.prog 49 #[.string num] w fun e w' => e = .returned (.bool (validB num)) ∧ w = w') := Lib.hid (fun w => refvalid_any num w)
  have hvb : Hid (∀ w, Calls Tryz.prog 49 #[.string den] w fun e w' => e = .returned (.bool (validB den)) ∧ w = w') := Lib.hid (fun w => refvalid_any den w)
  have HCALL := Lib.hid hcall
  clear hcall
  simp only
  generalize gcdR num den = gg at *
  generalize validB num = v1 at *
  generalize validB den = v2 at *
  generalize isZ num = zn at *
  generalize isZ den = zd at *
  generalize isO den = od at *
  generalize isO gg.1 = og at *
  have D0 := Lib.hid (Below.refl w.heap.size w)
  cases v1
  ·
    go_enter Tryz.func35, Tryz.ntmps35
    go_wp2_with fail
    obtain ⟨B1, hB1⟩ : ∃ B, B = w.heap.size := ⟨_, rfl⟩
    obtain ⟨W1_0, hW1_0⟩ : ∃ W, W = w.alloc (Obj.cells #[Value.bool neg, Value.string num, Value.string den] 24) := ⟨_, rfl⟩
    have hb : Below w.heap.size w W1_0 := by rw [hW1_0]; exact (Below.refl _ _).alloc (Nat.le_refl _) _
    have hzW1_0 : w.heap.size = B1 := by rw [hB1]
    have hlW1_0 : RatAt (B1) ⟨neg, num, den⟩ W1_0 := by rw [← hzW1_0, hW1_0]; exact ⟨heap_lastM _ _⟩
    have D1 := Lib.hid (D0.out.trans (hb.mono D0.out.size))
    clear hb
    have r_1 := Lib.hid hlW1_0
    clear hlW1_0
    rw [← hW1_0]
    simp only [← hB1]
    have HW1_0 := Lib.hid hW1_0
    clear hW1_0 hzW1_0
    have HB1 := Lib.hid hB1
    clear hB1
    have rc0 := r_1.out.c0
    have rc1 := r_1.out.c1
    have rc2 := r_1.out.c2
    refine (hva.out _).mono ?_
    rintro e wz ⟨rfl, rfl⟩
    go_wp2_with fail
    all_goals
      go_ret
      exact ⟨by first | rfl | simp, D1.out⟩
  · cases v2
    ·
      go_enter Tryz.func35, Tryz.ntmps35
      go_wp2_with fail
      obtain ⟨B1, hB1⟩ : ∃ B, B = w.heap.size := ⟨_, rfl⟩
      obtain ⟨W1_0, hW1_0⟩ : ∃ W, W = w.alloc (Obj.cells #[Value.bool neg, Value.string num, Value.string den] 24) := ⟨_, rfl⟩
      have hb : Below w.heap.size w W1_0 := by rw [hW1_0]; exact (Below.refl _ _).alloc (Nat.le_refl _) _
      have hzW1_0 : w.heap.size = B1 := by rw [hB1]
      have hlW1_0 : RatAt (B1) ⟨neg, num, den⟩ W1_0 := by rw [← hzW1_0, hW1_0]; exact ⟨heap_lastM _ _⟩
      have D1 := Lib.hid (D0.out.trans (hb.mono D0.out.size))
      clear hb
      have r_1 := Lib.hid hlW1_0
      clear hlW1_0
      rw [← hW1_0]
      simp only [← hB1]
      have HW1_0 := Lib.hid hW1_0
      clear hW1_0 hzW1_0
      have HB1 := Lib.hid hB1
      clear hB1
      have rc0 := r_1.out.c0
      have rc1 := r_1.out.c1
      have rc2 := r_1.out.c2
      refine (hva.out _).mono ?_
      rintro e wz ⟨rfl, rfl⟩
      go_wp2_with fail
      refine (hvb.out _).mono ?_
      rintro e wz ⟨rfl, rfl⟩
      go_wp2_with fail
      all_goals
        go_ret
        exact ⟨by first | rfl | simp, D1.out⟩
    · cases zd
      · cases zn
        ·
          go_enter Tryz.func35, Tryz.ntmps35
          go_wp2_with fail
          obtain ⟨B1, hB1⟩ : ∃ B, B = w.heap.size := ⟨_, rfl⟩
          obtain ⟨W1_0, hW1_0⟩ : ∃ W, W = w.alloc (Obj.cells #[Value.bool neg, Value.string num, Value.string den] 24) := ⟨_, rfl⟩
          have hb : Below w.heap.size w W1_0 := by rw [hW1_0]; exact (Below.refl _ _).alloc (Nat.le_refl _) _
          have hzW1_0 : w.heap.size = B1 := by rw [hB1]
          have hlW1_0 : RatAt (B1) ⟨neg, num, den⟩ W1_0 := by rw [← hzW1_0, hW1_0]; exact ⟨heap_lastM _ _⟩
          have D1 := Lib.hid (D0.out.trans (hb.mono D0.out.size))
          clear hb
          have r_1 := Lib.hid hlW1_0
          clear hlW1_0
          rw [← hW1_0]
          simp only [← hB1]
          have HW1_0 := Lib.hid hW1_0
          clear hW1_0 hzW1_0
          have HB1 := Lib.hid hB1
          clear hB1
          have rc0 := r_1.out.c0
          have rc1 := r_1.out.c1
          have rc2 := r_1.out.c2
          refine (hva.out _).mono ?_
          rintro e wz ⟨rfl, rfl⟩
          go_wp2_with fail
          refine (hvb.out _).mono ?_
          rintro e wz ⟨rfl, rfl⟩
          go_wp2_with fail
          refine (HCALL.out _).mono ?_
          rintro e v2 ⟨rfl, hb⟩
          have D2 := Lib.hid (D1.out.trans (hb.mono D1.out.size))
          have r_2 := Lib.hid (r_1.out.bel hb)
          clear D1 r_1
          clear hb
          clear rc0 rc1 rc2
          go_wp2_with fail
          all_goals
            go_ret
            exact ⟨by first | rfl | simp, D2.out⟩
        · cases od
          ·
            go_enter Tryz.func35, Tryz.ntmps35
            go_wp2_with fail
            obtain ⟨B1, hB1⟩ : ∃ B, B = w.heap.size := ⟨_, rfl⟩
            obtain ⟨W1_0, hW1_0⟩ : ∃ W, W = w.alloc (Obj.cells #[Value.bool neg, Value.string num, Value.string den] 24) := ⟨_, rfl⟩
            have hb : Below w.heap.size w W1_0 := by rw [hW1_0]; exact (Below.refl _ _).alloc (Nat.le_refl _) _
            have hzW1_0 : w.heap.size = B1 := by rw [hB1]
            have hlW1_0 : RatAt (B1) ⟨neg, num, den⟩ W1_0 := by rw [← hzW1_0, hW1_0]; exact ⟨heap_lastM _ _⟩
            have D1 := Lib.hid (D0.out.trans (hb.mono D0.out.size))
            clear hb
            have r_1 := Lib.hid hlW1_0
            clear hlW1_0
            rw [← hW1_0]
            simp only [← hB1]
            have HW1_0 := Lib.hid hW1_0
            clear hW1_0 hzW1_0
            have HB1 := Lib.hid hB1
            clear hB1
            have rc0 := r_1.out.c0
            have rc1 := r_1.out.c1
            have rc2 := r_1.out.c2
            refine (hva.out _).mono ?_
            rintro e wz ⟨rfl, rfl⟩
            go_wp2_with fail
            refine (hvb.out _).mono ?_
            rintro e wz ⟨rfl, rfl⟩
            go_wp2_with fail
            all_goals
              go_ret
              exact ⟨by first | rfl | simp, D1.out⟩
          ·
            go_enter Tryz.func35, Tryz.ntmps35
            go_wp2_with fail
            obtain ⟨B1, hB1⟩ : ∃ B, B = w.heap.size := ⟨_, rfl⟩
            obtain ⟨W1_0, hW1_0⟩ : ∃ W, W = w.alloc (Obj.cells #[Value.bool neg, Value.string num, Value.string den] 24) := ⟨_, rfl⟩
            have hb : Below w.heap.size w W1_0 := by rw [hW1_0]; exact (Below.refl _ _).alloc (Nat.le_refl _) _
            have hzW1_0 : w.heap.size = B1 := by rw [hB1]
            have hlW1_0 : RatAt (B1) ⟨neg, num, den⟩ W1_0 := by rw [← hzW1_0, hW1_0]; exact ⟨heap_lastM _ _⟩
            have D1 := Lib.hid (D0.out.trans (hb.mono D0.out.size))
            clear hb
            have r_1 := Lib.hid hlW1_0
            clear hlW1_0
            rw [← hW1_0]
            simp only [← hB1]
            have HW1_0 := Lib.hid hW1_0
            clear hW1_0 hzW1_0
            have HB1 := Lib.hid hB1
            clear hB1
            have rc0 := r_1.out.c0
            have rc1 := r_1.out.c1
            have rc2 := r_1.out.c2
            refine (hva.out _).mono ?_
            rintro e wz ⟨rfl, rfl⟩
            go_wp2_with fail
            refine (hvb.out _).mono ?_
            rintro e wz ⟨rfl, rfl⟩
            go_wp2_with fail
            all_goals
              go_ret
              exact ⟨by first | rfl | simp, D1.out⟩
      ·
        go_enter Tryz.func35, Tryz.ntmps35
        go_wp2_with fail
        obtain ⟨B1, hB1⟩ : ∃ B, B = w.heap.size := ⟨_, rfl⟩
        obtain ⟨W1_0, hW1_0⟩ : ∃ W, W = w.alloc (Obj.cells #[Value.bool neg, Value.string num, Value.string den] 24) := ⟨_, rfl⟩
        have hb : Below w.heap.size w W1_0 := by rw [hW1_0]; exact (Below.refl _ _).alloc (Nat.le_refl _) _
        have hzW1_0 : w.heap.size = B1 := by rw [hB1]
        have hlW1_0 : RatAt (B1) ⟨neg, num, den⟩ W1_0 := by rw [← hzW1_0, hW1_0]; exact ⟨heap_lastM _ _⟩
        have D1 := Lib.hid (D0.out.trans (hb.mono D0.out.size))
        clear hb
        have r_1 := Lib.hid hlW1_0
        clear hlW1_0
        rw [← hW1_0]
        simp only [← hB1]
        have HW1_0 := Lib.hid hW1_0
        clear hW1_0 hzW1_0
        have HB1 := Lib.hid hB1
        clear hB1
        have rc0 := r_1.out.c0
        have rc1 := r_1.out.c1
        have rc2 := r_1.out.c2
        refine (hva.out _).mono ?_
        rintro e wz ⟨rfl, rfl⟩
        go_wp2_with fail
        refine (hvb.out _).mono ?_
        rintro e wz ⟨rfl, rfl⟩
        go_wp2_with fail
        all_goals
          go_ret
          exact ⟨by first | rfl | simp, D1.out⟩
set_option maxHeartbeats 2000000 in
theorem reflowest_any (neg : Bool) (n d : Nat) (w : World) (hn : Sm n) (hd : Sm d) (h0 : d ≠ 0) : Calls Tryz.prog 41 #[.bool neg, .string (nS n), .string (nS d)] w (GivesQ (low neg n d).raw w) := by
  obtain ⟨t, ht⟩ : ∃ t, t = (low neg n d).raw := ⟨_, rfl⟩
  rw [← ht]
  have D0 := Lib.hid (Below.refl w.heap.size w)
  obtain ⟨num, hnum⟩ : ∃ x, x = nS n := ⟨_, rfl⟩
  obtain ⟨den, hden⟩ : ∃ x, x = nS d := ⟨_, rfl⟩
  have z0 := z_str num
  by_cases c0 : n = 0
  · have hz : isZ num = true := by rw [hnum, isZ_nS]; exact decide_eq_true c0
    have HTT : Hid (t = zeroQ.raw) := Lib.hid (by rw [ht, c0, low_zero])
    rw [← hnum, ← hden]
    rw [hz] at z0
    clear ht hn hd h0 c0 hz hnum hden
    go_enter Tryz.func41, Tryz.ntmps41
    go_wp2_with fail
    obtain ⟨B1, hB1⟩ : ∃ B, B = w.heap.size := ⟨_, rfl⟩
    obtain ⟨W1_0, hW1_0⟩ : ∃ W, W = w.alloc (Obj.cells #[Value.bool false, Value.string ⟨#[]⟩, Value.string ⟨#[]⟩] 24) := ⟨_, rfl⟩
    have hb : Below w.heap.size w W1_0 := by rw [hW1_0]; exact (Below.refl _ _).alloc (Nat.le_refl _) _
    have hzW1_0 : w.heap.size = B1 := by rw [hB1]
    have hlW1_0 : RatAt (B1) noRaw W1_0 := by rw [← hzW1_0, hW1_0]; exact ⟨heap_lastM _ _⟩
    have D1 := Lib.hid (D0.out.trans (hb.mono D0.out.size))
    clear hb
    have z_1 := Lib.hid hlW1_0
    clear hlW1_0
    rw [← hW1_0]
    simp only [← hB1]
    have HW1_0 := Lib.hid hW1_0
    clear hW1_0 hzW1_0
    have HB1 := Lib.hid hB1
    clear hB1
    refine (refZero_any _).mono ?_
    rintro e v2 ⟨rfl, hb⟩
    have D2 := Lib.hid (D1.out.trans (hb.mono D1.out.size))
    have z_2 := Lib.hid (z_1.out.bel hb)
    clear D1 z_1
    clear hb
    have zz0 := z_2.out.c0; have kk0 := z_2.out.fz 0
    have zz1 := z_2.out.c1; have kk1 := z_2.out.fz 1
    have zz2 := z_2.out.c2; have kk2 := z_2.out.fz 2
    go_wp2_with fail
    (try simp only [Exit.inBlock, Exit.then])
    refine bodyPost_ret (results_rat1 rfl _ _ (B1) ⟨_, _, _⟩ rfl (z_2.out.set ⟨_, _, _⟩)) rfl ?_
    rw [HTT.out]
    exact ⟨rfl, ((D2.out.setCell (p := ⟨B1, 0, none⟩) (by have := HB1.out; show w.heap.size ≤ B1; omega) _).setCell (p := ⟨B1, 1, none⟩) (by have := HB1.out; show w.heap.size ≤ B1; omega) _).setCell (p := ⟨B1, 2, none⟩) (by have := HB1.out; show w.heap.size ≤ B1; omega) _⟩
  · have hz : isZ num = false := by rw [hnum, isZ_nS]; exact decide_eq_false c0
    have HTT : Hid (t = ⟨neg, nS (n / Nat.gcd n d), nS (d / Nat.gcd n d)⟩) := Lib.hid (by rw [ht, low_pos c0]; rfl)
    have sg : Sm (Nat.gcd n d) := sm_le (Nat.gcd_le_left _ (by omega)) hn
    have hg0 : Nat.gcd n d ≠ 0 := by intro e; exact c0 (Nat.eq_zero_of_gcd_eq_zero_left e)
    have G1 := Lib.hid (gcdS hn hd)
    have G2 := Lib.hid (divS hn sg (Nat.pos_of_ne_zero hg0))
    have G3 := Lib.hid (divS hd sg (Nat.pos_of_ne_zero hg0))
    rw [← hnum, ← hden] at G1
    rw [← hnum] at G2
    rw [← hden] at G3
    rw [← hnum, ← hden]
    rw [hz] at z0
    clear ht hn hd h0 c0 hz hnum hden sg hg0
    go_enter Tryz.func41, Tryz.ntmps41
    go_wp2_with fail
    obtain ⟨B1, hB1⟩ : ∃ B, B = w.heap.size := ⟨_, rfl⟩
    obtain ⟨W1_0, hW1_0⟩ : ∃ W, W = w.alloc (Obj.cells #[Value.bool false, Value.string ⟨#[]⟩, Value.string ⟨#[]⟩] 24) := ⟨_, rfl⟩
    have hb : Below w.heap.size w W1_0 := by rw [hW1_0]; exact (Below.refl _ _).alloc (Nat.le_refl _) _
    have hzW1_0 : w.heap.size = B1 := by rw [hB1]
    have hlW1_0 : RatAt (B1) noRaw W1_0 := by rw [← hzW1_0, hW1_0]; exact ⟨heap_lastM _ _⟩
    have D1 := Lib.hid (D0.out.trans (hb.mono D0.out.size))
    clear hb
    have z_1 := Lib.hid hlW1_0
    clear hlW1_0
    rw [← hW1_0]
    simp only [← hB1]
    have HW1_0 := Lib.hid hW1_0
    clear hW1_0 hzW1_0
    have HB1 := Lib.hid hB1
    clear hB1
    refine (refGcd_any _ _ _).mono ?_
    rintro e v2 ⟨rfl, hb⟩
    have D2 := Lib.hid (D1.out.trans (hb.mono D1.out.size))
    have z_2 := Lib.hid (z_1.out.bel hb)
    clear D1 z_1
    clear hb
    simp only [G1.out]
    go_wp2_with fail
    refine (refDiv_any _ _ _).mono ?_
    rintro e v3 ⟨rfl, hb⟩
    have D3 := Lib.hid (D2.out.trans (hb.mono D2.out.size))
    have z_3 := Lib.hid (z_2.out.bel hb)
    clear D2 z_2
    clear hb
    simp only [G2.out]
    go_wp2_with fail
    refine (refDiv_any _ _ _).mono ?_
    rintro e v4 ⟨rfl, hb⟩
    have D4 := Lib.hid (D3.out.trans (hb.mono D3.out.size))
    have z_4 := Lib.hid (z_3.out.bel hb)
    clear D3 z_3
    clear hb
    simp only [G3.out]
    have zz0 := z_4.out.c0; have kk0 := z_4.out.fz 0
    have zz1 := z_4.out.c1; have kk1 := z_4.out.fz 1
    have zz2 := z_4.out.c2; have kk2 := z_4.out.fz 2
    go_wp2_with fail
    (try simp only [Exit.inBlock, Exit.then])
    refine bodyPost_ret (results_rat1 rfl _ _ (B1) ⟨_, _, _⟩ rfl (z_4.out.set ⟨_, _, _⟩)) rfl ?_
    rw [HTT.out]
    exact ⟨rfl, ((D4.out.setCell (p := ⟨B1, 0, none⟩) (by have := HB1.out; show w.heap.size ≤ B1; omega) _).setCell (p := ⟨B1, 1, none⟩) (by have := HB1.out; show w.heap.size ≤ B1; omega) _).setCell (p := ⟨B1, 2, none⟩) (by have := HB1.out; show w.heap.size ≤ B1; omega) _⟩
end Go.Proofs.YtbcoblpnihdhgaaGreatDoor
