/-
  The program's rational package: Valid.
-/
import Derived.Test.YtbcoblpnihdhgaaDoorRmABC
import Derived.BigQuiet
set_option linter.unusedVariables false
set_option maxRecDepth 100000
namespace Go.Proofs.YtbcoblpnihdhgaaDoor
open Go.RowKit
open Rt
/-- the call answers with a bool and has made memory -/
def GivesB (b : Bool) (w : World) (e : Ending) (w' : World) : Prop := e = .returned (.bool b) ∧ Below w.heap.size w w'
set_option maxHeartbeats 1000000 in
theorem pratvalid_any (r : Raw) (w : World) : Calls Tryd.prog 21 #[.agg #[.bool r.neg, .string r.num, .string r.den]] w (GivesB (okR r) w) := by
  rw [valid_is r]
  obtain ⟨neg, num, den⟩ := r
  have z0 := z_str num
  have z1 := z_str den
  have hcall := pGcd_any num den (w.alloc (ratO ⟨neg, num, den⟩))
  simp only
  generalize gcdR num den = g at *
  have o1 := o_str g.1
  have HCALL := Lib.hid hcall
  have hbW : Hid (Below w.heap.size w (w.alloc (ratO ⟨neg, num, den⟩))) := Lib.hid ((Below.refl _ _).alloc (Nat.le_refl _) _)
  have hzW := Lib.hid (RatAt.mk (heap_lastM w (ratO ⟨neg, num, den⟩)))
  clear hcall
  by_cases e0 : g.2 = 0
  · have t0 : ((g.2 : Int) == 0) = true := by rw [e0]; rfl
    rw [decide_eq_true e0]
    clear e0
    generalize isO g.1 = c1 at *
    generalize isZ den = c2 at *
    generalize isZ num = c3 at *
    cases c1
    · go_enter Tryd.func21, Tryd.ntmps21
      go_wp2_with fail
      refine HCALL.out.mono ?_
      rintro en w1 ⟨rfl, hb1⟩
      have HB1 : Hid (Below w.heap.size w w1) := Lib.hid (hbW.out.trans (hb1.mono hbW.out.size))
      have hr := hzW.out.bel hb1
      have r0 := hr.c0
      have r1 := hr.c1
      have r2 := hr.c2
      clear hb1 hr
      go_wp2_with fail
      go_ret
      exact ⟨rfl, HB1.out⟩
    · cases c2
      · cases neg
        · go_enter Tryd.func21, Tryd.ntmps21
          go_wp2_with fail
          refine HCALL.out.mono ?_
          rintro en w1 ⟨rfl, hb1⟩
          have HB1 : Hid (Below w.heap.size w w1) := Lib.hid (hbW.out.trans (hb1.mono hbW.out.size))
          have hr := hzW.out.bel hb1
          have r0 := hr.c0
          have r1 := hr.c1
          have r2 := hr.c2
          clear hb1 hr
          go_wp2_with fail
          go_ret
          exact ⟨rfl, HB1.out⟩
        · cases c3
          all_goals
            go_enter Tryd.func21, Tryd.ntmps21
            go_wp2_with fail
            refine HCALL.out.mono ?_
            rintro en w1 ⟨rfl, hb1⟩
            have HB1 : Hid (Below w.heap.size w w1) := Lib.hid (hbW.out.trans (hb1.mono hbW.out.size))
            have hr := hzW.out.bel hb1
            have r0 := hr.c0
            have r1 := hr.c1
            have r2 := hr.c2
            clear hb1 hr
            go_wp2_with fail
            go_ret
            exact ⟨rfl, HB1.out⟩
      · go_enter Tryd.func21, Tryd.ntmps21
        go_wp2_with fail
        refine HCALL.out.mono ?_
        rintro en w1 ⟨rfl, hb1⟩
        have HB1 : Hid (Below w.heap.size w w1) := Lib.hid (hbW.out.trans (hb1.mono hbW.out.size))
        have hr := hzW.out.bel hb1
        have r0 := hr.c0
        have r1 := hr.c1
        have r2 := hr.c2
        clear hb1 hr
        go_wp2_with fail
        go_ret
        exact ⟨rfl, HB1.out⟩
  · have t0 : ((g.2 : Int) == 0) = false := beq_eq_false_iff_ne.2 e0
    rw [decide_eq_false e0]
    clear e0
    go_enter Tryd.func21, Tryd.ntmps21
    go_wp2_with fail
    refine HCALL.out.mono ?_
    rintro en w1 ⟨rfl, hb1⟩
    have HB1 : Hid (Below w.heap.size w w1) := Lib.hid (hbW.out.trans (hb1.mono hbW.out.size))
    have hr := hzW.out.bel hb1
    have r0 := hr.c0
    have r1 := hr.c1
    have r2 := hr.c2
    clear hb1 hr
    go_wp2_with fail
    go_ret
    exact ⟨rfl, HB1.out⟩
end Go.Proofs.YtbcoblpnihdhgaaDoor
