/-
  The document's own answers of layer 5: Valid, Contains, Add, Meet.
-/
import Derived.Test.YtbcoblpnihdhgaaGreatDoorRfC
import Derived.Test.YtbcoblpnihdhgaaGreatDoorIvA2
import Derived.Deep.RegionHeld3
import Derived.Deep.DeepCutAuto
import Derived.Test.YtbcoblpnihdhgaaGreatDoorIvA1
set_option linter.unusedVariables false
set_option maxRecDepth 100000
namespace Go.Proofs.YtbcoblpnihdhgaaGreatDoor
open Go.RowKit
open Rt
set_option maxHeartbeats 2000000 in
theorem refivalid_any (i : Iv) (w : World) : Calls Tryz.prog 15 #[.agg #[.bool i.low.neg, .string i.low.num, .string i.low.den, .bool i.high.neg, .string i.high.num, .string i.high.den]] w (GivesB (okI i) w) := by
  have hl : Hid (∀ w, Calls Tryz.prog 35 #[.agg #[.bool i.low.neg, .string i.low.num, .string i.low.den]] w (GivesB (okR i.low) w)) := Lib.hid (fun w => refvalid4_any i.low w)
  have hh : Hid (∀ w, Calls Tryz.prog 35 #[.agg #[.bool i.high.neg, .string i.high.num, .string i.high.den]] w (GivesB (okR i.high) w)) := Lib.hid (fun w => refvalid4_any i.high w)
  have hc : Hid (∀ w, Calls Tryz.prog 28 #[.agg #[.bool i.low.neg, .string i.low.num, .string i.low.den], .agg #[.bool i.high.neg, .string i.high.num, .string i.high.den]] w fun e w' => e = .returned (.int .i64 (cmpE i.low i.high)) ∧ Below w.heap.size w w') := Lib.hid (fun w => refcmp4_any i.low i.high w)
  unfold okI
  generalize okR i.low = v1 at *
  generalize okR i.high = v2 at *
  generalize cmpE i.low i.high = c at *
  have D0 := Lib.hid (Below.refl w.heap.size w)
  cases v1
  ·
    go_enter Tryz.func15, Tryz.ntmps15
    go_wp2_with fail
    obtain ⟨B1, hB1⟩ : ∃ B, B = w.heap.size := ⟨_, rfl⟩
    obtain ⟨W1_0, hW1_0⟩ : ∃ W, W = w.alloc (Obj.cells #[Value.bool i.low.neg, Value.string i.low.num, Value.string i.low.den, Value.bool i.high.neg, Value.string i.high.num, Value.string i.high.den] 26) := ⟨_, rfl⟩
    have hb : Below w.heap.size w W1_0 := by rw [hW1_0]; exact (Below.refl _ _).alloc (Nat.le_refl _) _
    have hzW1_0 : w.heap.size = B1 := by rw [hB1]
    have hlW1_0 : IvAt (B1) i W1_0 := by rw [← hzW1_0, hW1_0]; exact ⟨heap_lastM _ _⟩
    have D1 := Lib.hid (D0.out.trans (hb.mono D0.out.size))
    clear hb
    have i_1 := Lib.hid hlW1_0
    clear hlW1_0
    rw [← hW1_0]
    simp only [← hB1]
    clear hW1_0 hzW1_0
    have HB1 := Lib.hid hB1
    clear hB1
    have ic0 := i_1.out.c0
    have ic1 := i_1.out.c1
    have ic2 := i_1.out.c2
    have ic3 := i_1.out.c3
    have ic4 := i_1.out.c4
    have ic5 := i_1.out.c5
    refine (hl.out _).mono ?_
    rintro e v2 ⟨rfl, hb⟩
    have D2 := Lib.hid (D1.out.trans (hb.mono D1.out.size))
    have i_2 := Lib.hid (i_1.out.bel hb)
    clear D1 i_1
    clear hb
    go_wp2_with fail
    go_ret
    exact ⟨by first | rfl | simp, D2.out⟩
  · cases v2
    ·
      go_enter Tryz.func15, Tryz.ntmps15
      go_wp2_with fail
      obtain ⟨B1, hB1⟩ : ∃ B, B = w.heap.size := ⟨_, rfl⟩
      obtain ⟨W1_0, hW1_0⟩ : ∃ W, W = w.alloc (Obj.cells #[Value.bool i.low.neg, Value.string i.low.num, Value.string i.low.den, Value.bool i.high.neg, Value.string i.high.num, Value.string i.high.den] 26) := ⟨_, rfl⟩
      have hb : Below w.heap.size w W1_0 := by rw [hW1_0]; exact (Below.refl _ _).alloc (Nat.le_refl _) _
      have hzW1_0 : w.heap.size = B1 := by rw [hB1]
      have hlW1_0 : IvAt (B1) i W1_0 := by rw [← hzW1_0, hW1_0]; exact ⟨heap_lastM _ _⟩
      have D1 := Lib.hid (D0.out.trans (hb.mono D0.out.size))
      clear hb
      have i_1 := Lib.hid hlW1_0
      clear hlW1_0
      rw [← hW1_0]
      simp only [← hB1]
      clear hW1_0 hzW1_0
      have HB1 := Lib.hid hB1
      clear hB1
      have ic0 := i_1.out.c0
      have ic1 := i_1.out.c1
      have ic2 := i_1.out.c2
      have ic3 := i_1.out.c3
      have ic4 := i_1.out.c4
      have ic5 := i_1.out.c5
      refine (hl.out _).mono ?_
      rintro e v2 ⟨rfl, hb⟩
      have D2 := Lib.hid (D1.out.trans (hb.mono D1.out.size))
      have i_2 := Lib.hid (i_1.out.bel hb)
      clear D1 i_1
      clear hb
      have ic0 := i_2.out.c0
      have ic1 := i_2.out.c1
      have ic2 := i_2.out.c2
      have ic3 := i_2.out.c3
      have ic4 := i_2.out.c4
      have ic5 := i_2.out.c5
      go_wp2_with fail
      clear ic0 ic1 ic2 ic3 ic4 ic5
      refine (hh.out _).mono ?_
      rintro e v3 ⟨rfl, hb⟩
      have D3 := Lib.hid (D2.out.trans (hb.mono D2.out.size))
      have i_3 := Lib.hid (i_2.out.bel hb)
      clear D2 i_2
      clear hb
      go_wp2_with fail
      go_ret
      exact ⟨by first | rfl | simp, D3.out⟩
    ·
      go_enter Tryz.func15, Tryz.ntmps15
      go_wp2_with fail
      obtain ⟨B1, hB1⟩ : ∃ B, B = w.heap.size := ⟨_, rfl⟩
      obtain ⟨W1_0, hW1_0⟩ : ∃ W, W = w.alloc (Obj.cells #[Value.bool i.low.neg, Value.string i.low.num, Value.string i.low.den, Value.bool i.high.neg, Value.string i.high.num, Value.string i.high.den] 26) := ⟨_, rfl⟩
      have hb : Below w.heap.size w W1_0 := by rw [hW1_0]; exact (Below.refl _ _).alloc (Nat.le_refl _) _
      have hzW1_0 : w.heap.size = B1 := by rw [hB1]
      have hlW1_0 : IvAt (B1) i W1_0 := by rw [← hzW1_0, hW1_0]; exact ⟨heap_lastM _ _⟩
      have D1 := Lib.hid (D0.out.trans (hb.mono D0.out.size))
      clear hb
      have i_1 := Lib.hid hlW1_0
      clear hlW1_0
      rw [← hW1_0]
      simp only [← hB1]
      clear hW1_0 hzW1_0
      have HB1 := Lib.hid hB1
      clear hB1
      have ic0 := i_1.out.c0
      have ic1 := i_1.out.c1
      have ic2 := i_1.out.c2
      have ic3 := i_1.out.c3
      have ic4 := i_1.out.c4
      have ic5 := i_1.out.c5
      refine (hl.out _).mono ?_
      rintro e v2 ⟨rfl, hb⟩
      have D2 := Lib.hid (D1.out.trans (hb.mono D1.out.size))
      have i_2 := Lib.hid (i_1.out.bel hb)
      clear D1 i_1
      clear hb
      have ic0 := i_2.out.c0
      have ic1 := i_2.out.c1
      have ic2 := i_2.out.c2
      have ic3 := i_2.out.c3
      have ic4 := i_2.out.c4
      have ic5 := i_2.out.c5
      go_wp2_with fail
      clear ic0 ic1 ic2 ic3 ic4 ic5
      refine (hh.out _).mono ?_
      rintro e v3 ⟨rfl, hb⟩
      have D3 := Lib.hid (D2.out.trans (hb.mono D2.out.size))
      have i_3 := Lib.hid (i_2.out.bel hb)
      clear D2 i_2
      clear hb
      have ic0 := i_3.out.c0
      have ic1 := i_3.out.c1
      have ic2 := i_3.out.c2
      have ic3 := i_3.out.c3
      have ic4 := i_3.out.c4
      have ic5 := i_3.out.c5
      go_wp2_with fail
      clear ic0 ic1 ic2 ic3 ic4 ic5
      refine (hc.out _).mono ?_
      rintro e v4 ⟨rfl, hb⟩
      have D4 := Lib.hid (D3.out.trans (hb.mono D3.out.size))
      have i_4 := Lib.hid (i_3.out.bel hb)
      clear D3 i_3
      clear hb
      go_wp2_with fail
      go_ret
      exact ⟨by first | rfl | simp, D4.out⟩
set_option maxHeartbeats 2000000 in
theorem reficon_any (i : Iv) (r : Raw) (w : World) : Calls Tryz.prog 17 #[.agg #[.bool i.low.neg, .string i.low.num, .string i.low.den, .bool i.high.neg, .string i.high.num, .string i.high.den], .agg #[.bool r.neg, .string r.num, .string r.den]] w (GivesB (hasI i r) w) := by
  have hi : Hid (∀ w, Calls Tryz.prog 15 #[.agg #[.bool i.low.neg, .string i.low.num, .string i.low.den, .bool i.high.neg, .string i.high.num, .string i.high.den]] w (GivesB (okI i) w)) := Lib.hid (fun w => refivalid_any i w)
  have hr : Hid (∀ w, Calls Tryz.prog 35 #[.agg #[.bool r.neg, .string r.num, .string r.den]] w (GivesB (okR r) w)) := Lib.hid (fun w => refvalid4_any r w)
  have hc1 : Hid (∀ w, Calls Tryz.prog 28 #[.agg #[.bool i.low.neg, .string i.low.num, .string i.low.den], .agg #[.bool r.neg, .string r.num, .string r.den]] w fun e w' => e = .returned (.int .i64 (cmpE i.low r)) ∧ Below w.heap.size w w') := Lib.hid (fun w => refcmp4_any i.low r w)
  have hc2 : Hid (∀ w, Calls Tryz.prog 28 #[.agg #[.bool r.neg, .string r.num, .string r.den], .agg #[.bool i.high.neg, .string i.high.num, .string i.high.den]] w fun e w' => e = .returned (.int .i64 (cmpE r i.high)) ∧ Below w.heap.size w w') := Lib.hid (fun w => refcmp4_any r i.high w)
  unfold hasI
  generalize okI i = v1 at *
  generalize okR r = v2 at *
  generalize cmpE i.low r = c1 at *
  generalize cmpE r i.high = c2 at *
  have D0 := Lib.hid (Below.refl w.heap.size w)
  cases v1
  ·
    go_enter Tryz.func17, Tryz.ntmps17
    go_wp2_with fail
    obtain ⟨B1, hB1⟩ : ∃ B, B = w.heap.size := ⟨_, rfl⟩
    obtain ⟨W1_0, hW1_0⟩ : ∃ W, W = w.alloc (Obj.cells #[Value.bool i.low.neg, Value.string i.low.num, Value.string i.low.den, Value.bool i.high.neg, Value.string i.high.num, Value.string i.high.den] 26) := ⟨_, rfl⟩
    have hb : Below w.heap.size w W1_0 := by rw [hW1_0]; exact (Below.refl _ _).alloc (Nat.le_refl _) _
    have hzW1_0 : w.heap.size = B1 := by rw [hB1]
    have hlW1_0 : IvAt (B1) i W1_0 := by rw [← hzW1_0, hW1_0]; exact ⟨heap_lastM _ _⟩
    have D1 := Lib.hid (D0.out.trans (hb.mono D0.out.size))
    clear hb
    have i_1 := Lib.hid hlW1_0
    clear hlW1_0
    obtain ⟨W1_1, hW1_1⟩ : ∃ W, W = W1_0.alloc (Obj.cells #[Value.bool r.neg, Value.string r.num, Value.string r.den] 24) := ⟨_, rfl⟩
    have hb : Below W1_0.heap.size W1_0 W1_1 := by rw [hW1_1]; exact (Below.refl _ _).alloc (Nat.le_refl _) _
    have hzW1_1 : W1_0.heap.size = B1 + 1 := by rw [hW1_0]; simp [hzW1_0]
    have hlW1_1 : RatAt (B1 + 1) r W1_1 := by rw [← hzW1_1, hW1_1]; exact ⟨heap_lastM _ _⟩
    have D2 := Lib.hid (D1.out.trans (hb.mono D1.out.size))
    have i_2 := Lib.hid (i_1.out.bel hb)
    clear D1 i_1
    clear hb
    have r_2 := Lib.hid hlW1_1
    clear hlW1_1
    rw [← hW1_0]
    rw [← hW1_1]
    simp only [← hB1]
    clear hW1_0 hzW1_0
    clear hW1_1 hzW1_1
    have HB1 := Lib.hid hB1
    clear hB1
    refine (hi.out _).mono ?_
    rintro e v3 ⟨rfl, hb⟩
    have D3 := Lib.hid (D2.out.trans (hb.mono D2.out.size))
    have i_3 := Lib.hid (i_2.out.bel hb)
    have r_3 := Lib.hid (r_2.out.bel hb)
    clear D2 i_2 r_2
    clear hb
    go_wp2_with fail
    go_ret
    exact ⟨by first | rfl | simp, D3.out⟩
  · cases v2
    ·
      go_enter Tryz.func17, Tryz.ntmps17
      go_wp2_with fail
      obtain ⟨B1, hB1⟩ : ∃ B, B = w.heap.size := ⟨_, rfl⟩
      obtain ⟨W1_0, hW1_0⟩ : ∃ W, W = w.alloc (Obj.cells #[Value.bool i.low.neg, Value.string i.low.num, Value.string i.low.den, Value.bool i.high.neg, Value.string i.high.num, Value.string i.high.den] 26) := ⟨_, rfl⟩
      have hb : Below w.heap.size w W1_0 := by rw [hW1_0]; exact (Below.refl _ _).alloc (Nat.le_refl _) _
      have hzW1_0 : w.heap.size = B1 := by rw [hB1]
      have hlW1_0 : IvAt (B1) i W1_0 := by rw [← hzW1_0, hW1_0]; exact ⟨heap_lastM _ _⟩
      have D1 := Lib.hid (D0.out.trans (hb.mono D0.out.size))
      clear hb
      have i_1 := Lib.hid hlW1_0
      clear hlW1_0
      obtain ⟨W1_1, hW1_1⟩ : ∃ W, W = W1_0.alloc (Obj.cells #[Value.bool r.neg, Value.string r.num, Value.string r.den] 24) := ⟨_, rfl⟩
      have hb : Below W1_0.heap.size W1_0 W1_1 := by rw [hW1_1]; exact (Below.refl _ _).alloc (Nat.le_refl _) _
      have hzW1_1 : W1_0.heap.size = B1 + 1 := by rw [hW1_0]; simp [hzW1_0]
      have hlW1_1 : RatAt (B1 + 1) r W1_1 := by rw [← hzW1_1, hW1_1]; exact ⟨heap_lastM _ _⟩
      have D2 := Lib.hid (D1.out.trans (hb.mono D1.out.size))
      have i_2 := Lib.hid (i_1.out.bel hb)
      clear D1 i_1
      clear hb
      have r_2 := Lib.hid hlW1_1
      clear hlW1_1
      rw [← hW1_0]
      rw [← hW1_1]
      simp only [← hB1]
      clear hW1_0 hzW1_0
      clear hW1_1 hzW1_1
      have HB1 := Lib.hid hB1
      clear hB1
      refine (hi.out _).mono ?_
      rintro e v3 ⟨rfl, hb⟩
      have D3 := Lib.hid (D2.out.trans (hb.mono D2.out.size))
      have i_3 := Lib.hid (i_2.out.bel hb)
      have r_3 := Lib.hid (r_2.out.bel hb)
      clear D2 i_2 r_2
      clear hb
      have ic0 := i_3.out.c0
      have ic1 := i_3.out.c1
      have ic2 := i_3.out.c2
      have ic3 := i_3.out.c3
      have ic4 := i_3.out.c4
      have ic5 := i_3.out.c5
      have rc0 := r_3.out.c0
      have rc1 := r_3.out.c1
      have rc2 := r_3.out.c2
      go_wp2_with fail
      clear ic0 ic1 ic2 ic3 ic4 ic5 rc0 rc1 rc2
      refine (hr.out _).mono ?_
      rintro e v4 ⟨rfl, hb⟩
      have D4 := Lib.hid (D3.out.trans (hb.mono D3.out.size))
      have i_4 := Lib.hid (i_3.out.bel hb)
      have r_4 := Lib.hid (r_3.out.bel hb)
      clear D3 i_3 r_3
      clear hb
      go_wp2_with fail
      go_ret
      exact ⟨by first | rfl | simp, D4.out⟩
    · rcases Bool.eq_false_or_eq_true (decide (c1 ≤ 0)) with hq | hq
      · have HQ := Lib.hid hq; clear hq
        go_enter Tryz.func17, Tryz.ntmps17
        go_wp2_with fail
        obtain ⟨B1, hB1⟩ : ∃ B, B = w.heap.size := ⟨_, rfl⟩
        obtain ⟨W1_0, hW1_0⟩ : ∃ W, W = w.alloc (Obj.cells #[Value.bool i.low.neg, Value.string i.low.num, Value.string i.low.den, Value.bool i.high.neg, Value.string i.high.num, Value.string i.high.den] 26) := ⟨_, rfl⟩
        have hb : Below w.heap.size w W1_0 := by rw [hW1_0]; exact (Below.refl _ _).alloc (Nat.le_refl _) _
        have hzW1_0 : w.heap.size = B1 := by rw [hB1]
        have hlW1_0 : IvAt (B1) i W1_0 := by rw [← hzW1_0, hW1_0]; exact ⟨heap_lastM _ _⟩
        have D1 := Lib.hid (D0.out.trans (hb.mono D0.out.size))
        clear hb
        have i_1 := Lib.hid hlW1_0
        clear hlW1_0
        obtain ⟨W1_1, hW1_1⟩ : ∃ W, W = W1_0.alloc (Obj.cells #[Value.bool r.neg, Value.string r.num, Value.string r.den] 24) := ⟨_, rfl⟩
        have hb : Below W1_0.heap.size W1_0 W1_1 := by rw [hW1_1]; exact (Below.refl _ _).alloc (Nat.le_refl _) _
        have hzW1_1 : W1_0.heap.size = B1 + 1 := by rw [hW1_0]; simp [hzW1_0]
        have hlW1_1 : RatAt (B1 + 1) r W1_1 := by rw [← hzW1_1, hW1_1]; exact ⟨heap_lastM _ _⟩
        have D2 := Lib.hid (D1.out.trans (hb.mono D1.out.size))
        have i_2 := Lib.hid (i_1.out.bel hb)
        clear D1 i_1
        clear hb
        have r_2 := Lib.hid hlW1_1
        clear hlW1_1
        rw [← hW1_0]
        rw [← hW1_1]
        simp only [← hB1]
        clear hW1_0 hzW1_0
        clear hW1_1 hzW1_1
        have HB1 := Lib.hid hB1
        clear hB1
        refine (hi.out _).mono ?_
        rintro e v3 ⟨rfl, hb⟩
        have D3 := Lib.hid (D2.out.trans (hb.mono D2.out.size))
        have i_3 := Lib.hid (i_2.out.bel hb)
        have r_3 := Lib.hid (r_2.out.bel hb)
        clear D2 i_2 r_2
        clear hb
        have ic0 := i_3.out.c0
        have ic1 := i_3.out.c1
        have ic2 := i_3.out.c2
        have ic3 := i_3.out.c3
        have ic4 := i_3.out.c4
        have ic5 := i_3.out.c5
        have rc0 := r_3.out.c0
        have rc1 := r_3.out.c1
        have rc2 := r_3.out.c2
        go_wp2_with fail
        clear ic0 ic1 ic2 ic3 ic4 ic5 rc0 rc1 rc2
        refine (hr.out _).mono ?_
        rintro e v4 ⟨rfl, hb⟩
        have D4 := Lib.hid (D3.out.trans (hb.mono D3.out.size))
        have i_4 := Lib.hid (i_3.out.bel hb)
        have r_4 := Lib.hid (r_3.out.bel hb)
        clear D3 i_3 r_3
        clear hb
        have ic0 := i_4.out.c0
        have ic1 := i_4.out.c1
        have ic2 := i_4.out.c2
        have ic3 := i_4.out.c3
        have ic4 := i_4.out.c4
        have ic5 := i_4.out.c5
        have rc0 := r_4.out.c0
        have rc1 := r_4.out.c1
        have rc2 := r_4.out.c2
        go_wp2_with fail
        clear ic0 ic1 ic2 ic3 ic4 ic5 rc0 rc1 rc2
        refine (hc1.out _).mono ?_
        rintro e v5 ⟨rfl, hb⟩
        have D5 := Lib.hid (D4.out.trans (hb.mono D4.out.size))
        have i_5 := Lib.hid (i_4.out.bel hb)
        have r_5 := Lib.hid (r_4.out.bel hb)
        clear D4 i_4 r_4
        clear hb
        have hq := HQ.out
        have ic0 := i_5.out.c0
        have ic1 := i_5.out.c1
        have ic2 := i_5.out.c2
        have ic3 := i_5.out.c3
        have ic4 := i_5.out.c4
        have ic5 := i_5.out.c5
        have rc0 := r_5.out.c0
        have rc1 := r_5.out.c1
        have rc2 := r_5.out.c2
        go_wp2_with fail
        clear ic0 ic1 ic2 ic3 ic4 ic5 rc0 rc1 rc2
        refine (hc2.out _).mono ?_
        rintro e v6 ⟨rfl, hb⟩
        have D6 := Lib.hid (D5.out.trans (hb.mono D5.out.size))
        have i_6 := Lib.hid (i_5.out.bel hb)
        have r_6 := Lib.hid (r_5.out.bel hb)
        clear D5 i_5 r_5
        clear hb
        go_wp2_with fail
        go_ret
        exact ⟨by rw [HQ.out]; first | rfl | simp, D6.out⟩
      · have HQ := Lib.hid hq; clear hq
        go_enter Tryz.func17, Tryz.ntmps17
        go_wp2_with fail
        obtain ⟨B1, hB1⟩ : ∃ B, B = w.heap.size := ⟨_, rfl⟩
        obtain ⟨W1_0, hW1_0⟩ : ∃ W, W = w.alloc (Obj.cells #[Value.bool i.low.neg, Value.string i.low.num, Value.string i.low.den, Value.bool i.high.neg, Value.string i.high.num, Value.string i.high.den] 26) := ⟨_, rfl⟩
        have hb : Below w.heap.size w W1_0 := by rw [hW1_0]; exact (Below.refl _ _).alloc (Nat.le_refl _) _
        have hzW1_0 : w.heap.size = B1 := by rw [hB1]
        have hlW1_0 : IvAt (B1) i W1_0 := by rw [← hzW1_0, hW1_0]; exact ⟨heap_lastM _ _⟩
        have D1 := Lib.hid (D0.out.trans (hb.mono D0.out.size))
        clear hb
        have i_1 := Lib.hid hlW1_0
        clear hlW1_0
        obtain ⟨W1_1, hW1_1⟩ : ∃ W, W = W1_0.alloc (Obj.cells #[Value.bool r.neg, Value.string r.num, Value.string r.den] 24) := ⟨_, rfl⟩
        have hb : Below W1_0.heap.size W1_0 W1_1 := by rw [hW1_1]; exact (Below.refl _ _).alloc (Nat.le_refl _) _
        have hzW1_1 : W1_0.heap.size = B1 + 1 := by rw [hW1_0]; simp [hzW1_0]
        have hlW1_1 : RatAt (B1 + 1) r W1_1 := by rw [← hzW1_1, hW1_1]; exact ⟨heap_lastM _ _⟩
        have D2 := Lib.hid (D1.out.trans (hb.mono D1.out.size))
        have i_2 := Lib.hid (i_1.out.bel hb)
        clear D1 i_1
        clear hb
        have r_2 := Lib.hid hlW1_1
        clear hlW1_1
        rw [← hW1_0]
        rw [← hW1_1]
        simp only [← hB1]
        clear hW1_0 hzW1_0
        clear hW1_1 hzW1_1
        have HB1 := Lib.hid hB1
        clear hB1
        refine (hi.out _).mono ?_
        rintro e v3 ⟨rfl, hb⟩
        have D3 := Lib.hid (D2.out.trans (hb.mono D2.out.size))
        have i_3 := Lib.hid (i_2.out.bel hb)
        have r_3 := Lib.hid (r_2.out.bel hb)
        clear D2 i_2 r_2
        clear hb
        have ic0 := i_3.out.c0
        have ic1 := i_3.out.c1
        have ic2 := i_3.out.c2
        have ic3 := i_3.out.c3
        have ic4 := i_3.out.c4
        have ic5 := i_3.out.c5
        have rc0 := r_3.out.c0
        have rc1 := r_3.out.c1
        have rc2 := r_3.out.c2
        go_wp2_with fail
        clear ic0 ic1 ic2 ic3 ic4 ic5 rc0 rc1 rc2
        refine (hr.out _).mono ?_
        rintro e v4 ⟨rfl, hb⟩
        have D4 := Lib.hid (D3.out.trans (hb.mono D3.out.size))
        have i_4 := Lib.hid (i_3.out.bel hb)
        have r_4 := Lib.hid (r_3.out.bel hb)
        clear D3 i_3 r_3
        clear hb
        have ic0 := i_4.out.c0
        have ic1 := i_4.out.c1
        have ic2 := i_4.out.c2
        have ic3 := i_4.out.c3
        have ic4 := i_4.out.c4
        have ic5 := i_4.out.c5
        have rc0 := r_4.out.c0
        have rc1 := r_4.out.c1
        have rc2 := r_4.out.c2
        go_wp2_with fail
        clear ic0 ic1 ic2 ic3 ic4 ic5 rc0 rc1 rc2
        refine (hc1.out _).mono ?_
        rintro e v5 ⟨rfl, hb⟩
        have D5 := Lib.hid (D4.out.trans (hb.mono D4.out.size))
        have i_5 := Lib.hid (i_4.out.bel hb)
        have r_5 := Lib.hid (r_4.out.bel hb)
        clear D4 i_4 r_4
        clear hb
        have hq := HQ.out
        go_wp2_with fail
        go_ret
        exact ⟨by rw [HQ.out]; first | rfl | simp, D5.out⟩
set_option maxHeartbeats 40000000 in
theorem refiadd_any (a b : Iv) (w : World) : Calls Tryz.prog 7 #[.agg #[.bool a.low.neg, .string a.low.num, .string a.low.den, .bool a.high.neg, .string a.high.num, .string a.high.den], .agg #[.bool b.low.neg, .string b.low.num, .string b.low.den, .bool b.high.neg, .string b.high.num, .string b.high.den]] w (GivesI (addI a b) w) := by
  obtain ⟨t, ht⟩ : ∃ t, t = addI a b := ⟨_, rfl⟩
  rw [← ht]
  have D0 := Lib.hid (Below.refl w.heap.size w)
  by_cases ha : okI a = true
  case neg =>
    have ha := Bool.eq_false_iff.2 ha
    have hva : Hid (∀ w, Calls Tryz.prog 15 #[.agg #[.bool a.low.neg, .string a.low.num, .string a.low.den, .bool a.high.neg, .string a.high.num, .string a.high.den]] w (GivesB false w)) := Lib.hid (fun w => by have := refivalid_any a w; rwa [ha] at this)
    have HTT : Hid (t = (noI, 1)) := Lib.hid (by rw [ht]; unfold addI; rw [ha]; rfl)
    clear ht ha
    go_enter Tryz.func7, Tryz.ntmps7
    go_wp2_with fail
    obtain ⟨B1, hB1⟩ : ∃ B, B = w.heap.size := ⟨_, rfl⟩
    obtain ⟨W1_0, hW1_0⟩ : ∃ W, W = w.alloc (Obj.cells #[Value.bool a.low.neg, Value.string a.low.num, Value.string a.low.den, Value.bool a.high.neg, Value.string a.high.num, Value.string a.high.den] 26) := ⟨_, rfl⟩
    have hb : Below w.heap.size w W1_0 := by rw [hW1_0]; exact (Below.refl _ _).alloc (Nat.le_refl _) _
    have hzW1_0 : w.heap.size = B1 := by rw [hB1]
    have hlW1_0 : IvAt (B1) a W1_0 := by rw [← hzW1_0, hW1_0]; exact ⟨heap_lastM _ _⟩
    have D1 := Lib.hid (D0.out.trans (hb.mono D0.out.size))
    clear hb
    have a_1 := Lib.hid hlW1_0
    clear hlW1_0
    obtain ⟨W1_1, hW1_1⟩ : ∃ W, W = W1_0.alloc (Obj.cells #[Value.bool b.low.neg, Value.string b.low.num, Value.string b.low.den, Value.bool b.high.neg, Value.string b.high.num, Value.string b.high.den] 26) := ⟨_, rfl⟩
    have hb : Below W1_0.heap.size W1_0 W1_1 := by rw [hW1_1]; exact (Below.refl _ _).alloc (Nat.le_refl _) _
    have hzW1_1 : W1_0.heap.size = B1 + 1 := by rw [hW1_0]; simp [hzW1_0]
    have hlW1_1 : IvAt (B1 + 1) b W1_1 := by rw [← hzW1_1, hW1_1]; exact ⟨heap_lastM _ _⟩
    have D2 := Lib.hid (D1.out.trans (hb.mono D1.out.size))
    have a_2 := Lib.hid (a_1.out.bel hb)
    clear D1 a_1
    clear hb
    have b_2 := Lib.hid hlW1_1
    clear hlW1_1
    obtain ⟨W1_2, hW1_2⟩ : ∃ W, W = W1_1.alloc (Obj.cells #[Value.bool false, Value.string ⟨#[]⟩, Value.string ⟨#[]⟩, Value.bool false, Value.string ⟨#[]⟩, Value.string ⟨#[]⟩] 26) := ⟨_, rfl⟩
    have hb : Below W1_1.heap.size W1_1 W1_2 := by rw [hW1_2]; exact (Below.refl _ _).alloc (Nat.le_refl _) _
    have hzW1_2 : W1_1.heap.size = B1 + 1 + 1 := by rw [hW1_1]; simp [hzW1_1]
    have hlW1_2 : IvAt (B1 + 1 + 1) noI W1_2 := by rw [← hzW1_2, hW1_2]; exact ⟨heap_lastM _ _⟩
    have D3 := Lib.hid (D2.out.trans (hb.mono D2.out.size))
    have a_3 := Lib.hid (a_2.out.bel hb)
    have b_3 := Lib.hid (b_2.out.bel hb)
    clear D2 a_2 b_2
    clear hb
    have z_3 := Lib.hid hlW1_2
    clear hlW1_2
    rw [← hW1_0]
    rw [← hW1_1]
    rw [← hW1_2]
    simp only [← hB1]
    clear hW1_0 hzW1_0
    clear hW1_1 hzW1_1
    clear hW1_2 hzW1_2
    have HB1 := Lib.hid hB1
    clear hB1
    have ac0 := a_3.out.c0
    have ac1 := a_3.out.c1
    have ac2 := a_3.out.c2
    have ac3 := a_3.out.c3
    have ac4 := a_3.out.c4
    have ac5 := a_3.out.c5
    have bc0 := b_3.out.c0
    have bc1 := b_3.out.c1
    have bc2 := b_3.out.c2
    have bc3 := b_3.out.c3
    have bc4 := b_3.out.c4
    have bc5 := b_3.out.c5
    go_wp2_with fail
    clear ac0 ac1 ac2 ac3 ac4 ac5 bc0 bc1 bc2 bc3 bc4 bc5
    refine (hva.out _).mono ?_
    rintro e v4 ⟨rfl, hb⟩
    have D4 := Lib.hid (D3.out.trans (hb.mono D3.out.size))
    have a_4 := Lib.hid (a_3.out.bel hb)
    have b_4 := Lib.hid (b_3.out.bel hb)
    have z_4 := Lib.hid (z_3.out.bel hb)
    clear D3 a_3 b_3 z_3
    clear hb
    have zc0 := z_4.out.c0
    have zf0 := z_4.out.fz 0
    have zc1 := z_4.out.c1
    have zf1 := z_4.out.fz 1
    have zc2 := z_4.out.c2
    have zf2 := z_4.out.fz 2
    have zc3 := z_4.out.c3
    have zf3 := z_4.out.fz 3
    have zc4 := z_4.out.c4
    have zf4 := z_4.out.fz 4
    have zc5 := z_4.out.c5
    have zf5 := z_4.out.fz 5
    go_wp2_with fail
    (try simp only [Exit.inBlock, Exit.then])
    refine bodyPost_ret (results_iv rfl _ _ (B1 + 1 + 1) noI _ rfl rfl (z_4.out.set noI)) rfl ?_; rw [HTT.out]; exact ⟨rfl, ((((((D4.out.setCell (p := ⟨B1 + 1 + 1, 0, none⟩) (by have := HB1.out; show w.heap.size ≤ B1 + 1 + 1; omega) _).setCell (p := ⟨B1 + 1 + 1, 1, none⟩) (by have := HB1.out; show w.heap.size ≤ B1 + 1 + 1; omega) _).setCell (p := ⟨B1 + 1 + 1, 2, none⟩) (by have := HB1.out; show w.heap.size ≤ B1 + 1 + 1; omega) _).setCell (p := ⟨B1 + 1 + 1, 3, none⟩) (by have := HB1.out; show w.heap.size ≤ B1 + 1 + 1; omega) _).setCell (p := ⟨B1 + 1 + 1, 4, none⟩) (by have := HB1.out; show w.heap.size ≤ B1 + 1 + 1; omega) _).setCell (p := ⟨B1 + 1 + 1, 5, none⟩) (by have := HB1.out; show w.heap.size ≤ B1 + 1 + 1; omega) _)⟩
  have hva : Hid (∀ w, Calls Tryz.prog 15 #[.agg #[.bool a.low.neg, .string a.low.num, .string a.low.den, .bool a.high.neg, .string a.high.num, .string a.high.den]] w (GivesB true w)) := Lib.hid (fun w => by have := refivalid_any a w; rwa [ha] at this)
  by_cases hb : okI b = true
  case neg =>
    have hb := Bool.eq_false_iff.2 hb
    have hvb : Hid (∀ w, Calls Tryz.prog 15 #[.agg #[.bool b.low.neg, .string b.low.num, .string b.low.den, .bool b.high.neg, .string b.high.num, .string b.high.den]] w (GivesB false w)) := Lib.hid (fun w => by have := refivalid_any b w; rwa [hb] at this)
    have HTT : Hid (t = (noI, 1)) := Lib.hid (by rw [ht]; unfold addI; rw [ha, hb]; rfl)
    clear ht ha hb
    go_enter Tryz.func7, Tryz.ntmps7
    go_wp2_with fail
    obtain ⟨B1, hB1⟩ : ∃ B, B = w.heap.size := ⟨_, rfl⟩
    obtain ⟨W1_0, hW1_0⟩ : ∃ W, W = w.alloc (Obj.cells #[Value.bool a.low.neg, Value.string a.low.num, Value.string a.low.den, Value.bool a.high.neg, Value.string a.high.num, Value.string a.high.den] 26) := ⟨_, rfl⟩
    have hb : Below w.heap.size w W1_0 := by rw [hW1_0]; exact (Below.refl _ _).alloc (Nat.le_refl _) _
    have hzW1_0 : w.heap.size = B1 := by rw [hB1]
    have hlW1_0 : IvAt (B1) a W1_0 := by rw [← hzW1_0, hW1_0]; exact ⟨heap_lastM _ _⟩
    have D1 := Lib.hid (D0.out.trans (hb.mono D0.out.size))
    clear hb
    have a_1 := Lib.hid hlW1_0
    clear hlW1_0
    obtain ⟨W1_1, hW1_1⟩ : ∃ W, W = W1_0.alloc (Obj.cells #[Value.bool b.low.neg, Value.string b.low.num, Value.string b.low.den, Value.bool b.high.neg, Value.string b.high.num, Value.string b.high.den] 26) := ⟨_, rfl⟩
    have hb : Below W1_0.heap.size W1_0 W1_1 := by rw [hW1_1]; exact (Below.refl _ _).alloc (Nat.le_refl _) _
    have hzW1_1 : W1_0.heap.size = B1 + 1 := by rw [hW1_0]; simp [hzW1_0]
    have hlW1_1 : IvAt (B1 + 1) b W1_1 := by rw [← hzW1_1, hW1_1]; exact ⟨heap_lastM _ _⟩
    have D2 := Lib.hid (D1.out.trans (hb.mono D1.out.size))
    have a_2 := Lib.hid (a_1.out.bel hb)
    clear D1 a_1
    clear hb
    have b_2 := Lib.hid hlW1_1
    clear hlW1_1
    obtain ⟨W1_2, hW1_2⟩ : ∃ W, W = W1_1.alloc (Obj.cells #[Value.bool false, Value.string ⟨#[]⟩, Value.string ⟨#[]⟩, Value.bool false, Value.string ⟨#[]⟩, Value.string ⟨#[]⟩] 26) := ⟨_, rfl⟩
    have hb : Below W1_1.heap.size W1_1 W1_2 := by rw [hW1_2]; exact (Below.refl _ _).alloc (Nat.le_refl _) _
    have hzW1_2 : W1_1.heap.size = B1 + 1 + 1 := by rw [hW1_1]; simp [hzW1_1]
    have hlW1_2 : IvAt (B1 + 1 + 1) noI W1_2 := by rw [← hzW1_2, hW1_2]; exact ⟨heap_lastM _ _⟩
    have D3 := Lib.hid (D2.out.trans (hb.mono D2.out.size))
    have a_3 := Lib.hid (a_2.out.bel hb)
    have b_3 := Lib.hid (b_2.out.bel hb)
    clear D2 a_2 b_2
    clear hb
    have z_3 := Lib.hid hlW1_2
    clear hlW1_2
    rw [← hW1_0]
    rw [← hW1_1]
    rw [← hW1_2]
    simp only [← hB1]
    clear hW1_0 hzW1_0
    clear hW1_1 hzW1_1
    clear hW1_2 hzW1_2
    have HB1 := Lib.hid hB1
    clear hB1
    have ac0 := a_3.out.c0
    have ac1 := a_3.out.c1
    have ac2 := a_3.out.c2
    have ac3 := a_3.out.c3
    have ac4 := a_3.out.c4
    have ac5 := a_3.out.c5
    have bc0 := b_3.out.c0
    have bc1 := b_3.out.c1
    have bc2 := b_3.out.c2
    have bc3 := b_3.out.c3
    have bc4 := b_3.out.c4
    have bc5 := b_3.out.c5
    go_wp2_with fail
    clear ac0 ac1 ac2 ac3 ac4 ac5 bc0 bc1 bc2 bc3 bc4 bc5
    refine (hva.out _).mono ?_
    rintro e v4 ⟨rfl, hb⟩
    have D4 := Lib.hid (D3.out.trans (hb.mono D3.out.size))
    have a_4 := Lib.hid (a_3.out.bel hb)
    have b_4 := Lib.hid (b_3.out.bel hb)
    have z_4 := Lib.hid (z_3.out.bel hb)
    clear D3 a_3 b_3 z_3
    clear hb
    have ac0 := a_4.out.c0
    have ac1 := a_4.out.c1
    have ac2 := a_4.out.c2
    have ac3 := a_4.out.c3
    have ac4 := a_4.out.c4
    have ac5 := a_4.out.c5
    have bc0 := b_4.out.c0
    have bc1 := b_4.out.c1
    have bc2 := b_4.out.c2
    have bc3 := b_4.out.c3
    have bc4 := b_4.out.c4
    have bc5 := b_4.out.c5
    go_wp2_with fail
    clear ac0 ac1 ac2 ac3 ac4 ac5 bc0 bc1 bc2 bc3 bc4 bc5
    refine (hvb.out _).mono ?_
    rintro e v5 ⟨rfl, hb⟩
    have D5 := Lib.hid (D4.out.trans (hb.mono D4.out.size))
    have a_5 := Lib.hid (a_4.out.bel hb)
    have b_5 := Lib.hid (b_4.out.bel hb)
    have z_5 := Lib.hid (z_4.out.bel hb)
    clear D4 a_4 b_4 z_4
    clear hb
    have zc0 := z_5.out.c0
    have zf0 := z_5.out.fz 0
    have zc1 := z_5.out.c1
    have zf1 := z_5.out.fz 1
    have zc2 := z_5.out.c2
    have zf2 := z_5.out.fz 2
    have zc3 := z_5.out.c3
    have zf3 := z_5.out.fz 3
    have zc4 := z_5.out.c4
    have zf4 := z_5.out.fz 4
    have zc5 := z_5.out.c5
    have zf5 := z_5.out.fz 5
    go_wp2_with fail
    (try simp only [Exit.inBlock, Exit.then])
    refine bodyPost_ret (results_iv rfl _ _ (B1 + 1 + 1) noI _ rfl rfl (z_5.out.set noI)) rfl ?_; rw [HTT.out]; exact ⟨rfl, ((((((D5.out.setCell (p := ⟨B1 + 1 + 1, 0, none⟩) (by have := HB1.out; show w.heap.size ≤ B1 + 1 + 1; omega) _).setCell (p := ⟨B1 + 1 + 1, 1, none⟩) (by have := HB1.out; show w.heap.size ≤ B1 + 1 + 1; omega) _).setCell (p := ⟨B1 + 1 + 1, 2, none⟩) (by have := HB1.out; show w.heap.size ≤ B1 + 1 + 1; omega) _).setCell (p := ⟨B1 + 1 + 1, 3, none⟩) (by have := HB1.out; show w.heap.size ≤ B1 + 1 + 1; omega) _).setCell (p := ⟨B1 + 1 + 1, 4, none⟩) (by have := HB1.out; show w.heap.size ≤ B1 + 1 + 1; omega) _).setCell (p := ⟨B1 + 1 + 1, 5, none⟩) (by have := HB1.out; show w.heap.size ≤ B1 + 1 + 1; omega) _)⟩
  have hvb : Hid (∀ w, Calls Tryz.prog 15 #[.agg #[.bool b.low.neg, .string b.low.num, .string b.low.den, .bool b.high.neg, .string b.high.num, .string b.high.den]] w (GivesB true w)) := Lib.hid (fun w => by have := refivalid_any b w; rwa [hb] at this)
  obtain ⟨x, e, hx⟩ : ∃ x e, addE a.low b.low = (x, e) := ⟨_, _, rfl⟩
  obtain ⟨y, f, hy⟩ : ∃ y f, addE a.high b.high = (y, f) := ⟨_, _, rfl⟩
  have ht2 : t = if e = 0 ∧ f = 0 then (⟨x, y⟩, 0) else (noI, 2) := by rw [ht]; unfold addI; rw [ha, hb, hx, hy]; rfl
  have hadd1 : Hid (∀ w, Calls Tryz.prog 22 #[.agg #[.bool a.low.neg, .string a.low.num, .string a.low.den], .agg #[.bool b.low.neg, .string b.low.num, .string b.low.den]] w (GivesR (x, e) w)) := Lib.hid (fun w => by have := refadd4_any a.low b.low w; rwa [hx] at this)
  have hadd2 : Hid (∀ w, Calls Tryz.prog 22 #[.agg #[.bool a.high.neg, .string a.high.num, .string a.high.den], .agg #[.bool b.high.neg, .string b.high.num, .string b.high.den]] w (GivesR (y, f) w)) := Lib.hid (fun w => by have := refadd4_any a.high b.high w; rwa [hy] at this)
  clear ht ha hb hx hy
  by_cases e0 : e = 0
  · subst e0
    by_cases f0 : f = 0
    · subst f0
      have HTT : Hid (t = (⟨x, y⟩, 0)) := Lib.hid (by rw [ht2, if_pos ⟨rfl, rfl⟩])
      clear ht2
      go_enter Tryz.func7, Tryz.ntmps7
      go_wp2_with fail
      obtain ⟨B1, hB1⟩ : ∃ B, B = w.heap.size := ⟨_, rfl⟩
      obtain ⟨W1_0, hW1_0⟩ : ∃ W, W = w.alloc (Obj.cells #[Value.bool a.low.neg, Value.string a.low.num, Value.string a.low.den, Value.bool a.high.neg, Value.string a.high.num, Value.string a.high.den] 26) := ⟨_, rfl⟩
      have hb : Below w.heap.size w W1_0 := by rw [hW1_0]; exact (Below.refl _ _).alloc (Nat.le_refl _) _
      have hzW1_0 : w.heap.size = B1 := by rw [hB1]
      have hlW1_0 : IvAt (B1) a W1_0 := by rw [← hzW1_0, hW1_0]; exact ⟨heap_lastM _ _⟩
      have D1 := Lib.hid (D0.out.trans (hb.mono D0.out.size))
      clear hb
      have a_1 := Lib.hid hlW1_0
      clear hlW1_0
      obtain ⟨W1_1, hW1_1⟩ : ∃ W, W = W1_0.alloc (Obj.cells #[Value.bool b.low.neg, Value.string b.low.num, Value.string b.low.den, Value.bool b.high.neg, Value.string b.high.num, Value.string b.high.den] 26) := ⟨_, rfl⟩
      have hb : Below W1_0.heap.size W1_0 W1_1 := by rw [hW1_1]; exact (Below.refl _ _).alloc (Nat.le_refl _) _
      have hzW1_1 : W1_0.heap.size = B1 + 1 := by rw [hW1_0]; simp [hzW1_0]
      have hlW1_1 : IvAt (B1 + 1) b W1_1 := by rw [← hzW1_1, hW1_1]; exact ⟨heap_lastM _ _⟩
      have D2 := Lib.hid (D1.out.trans (hb.mono D1.out.size))
      have a_2 := Lib.hid (a_1.out.bel hb)
      clear D1 a_1
      clear hb
      have b_2 := Lib.hid hlW1_1
      clear hlW1_1
      obtain ⟨W1_2, hW1_2⟩ : ∃ W, W = W1_1.alloc (Obj.cells #[Value.bool false, Value.string ⟨#[]⟩, Value.string ⟨#[]⟩, Value.bool false, Value.string ⟨#[]⟩, Value.string ⟨#[]⟩] 26) := ⟨_, rfl⟩
      have hb : Below W1_1.heap.size W1_1 W1_2 := by rw [hW1_2]; exact (Below.refl _ _).alloc (Nat.le_refl _) _
      have hzW1_2 : W1_1.heap.size = B1 + 1 + 1 := by rw [hW1_1]; simp [hzW1_1]
      have hlW1_2 : IvAt (B1 + 1 + 1) noI W1_2 := by rw [← hzW1_2, hW1_2]; exact ⟨heap_lastM _ _⟩
      have D3 := Lib.hid (D2.out.trans (hb.mono D2.out.size))
      have a_3 := Lib.hid (a_2.out.bel hb)
      have b_3 := Lib.hid (b_2.out.bel hb)
      clear D2 a_2 b_2
      clear hb
      have z_3 := Lib.hid hlW1_2
      clear hlW1_2
      rw [← hW1_0]
      rw [← hW1_1]
      rw [← hW1_2]
      simp only [← hB1]
      clear hW1_0 hzW1_0
      clear hW1_1 hzW1_1
      clear hW1_2 hzW1_2
      have HB1 := Lib.hid hB1
      clear hB1
      have ac0 := a_3.out.c0
      have ac1 := a_3.out.c1
      have ac2 := a_3.out.c2
      have ac3 := a_3.out.c3
      have ac4 := a_3.out.c4
      have ac5 := a_3.out.c5
      have bc0 := b_3.out.c0
      have bc1 := b_3.out.c1
      have bc2 := b_3.out.c2
      have bc3 := b_3.out.c3
      have bc4 := b_3.out.c4
      have bc5 := b_3.out.c5
      go_wp2_with fail
      clear ac0 ac1 ac2 ac3 ac4 ac5 bc0 bc1 bc2 bc3 bc4 bc5
      refine (hva.out _).mono ?_
      rintro e v4 ⟨rfl, hb⟩
      have D4 := Lib.hid (D3.out.trans (hb.mono D3.out.size))
      have a_4 := Lib.hid (a_3.out.bel hb)
      have b_4 := Lib.hid (b_3.out.bel hb)
      have z_4 := Lib.hid (z_3.out.bel hb)
      clear D3 a_3 b_3 z_3
      clear hb
      have ac0 := a_4.out.c0
      have ac1 := a_4.out.c1
      have ac2 := a_4.out.c2
      have ac3 := a_4.out.c3
      have ac4 := a_4.out.c4
      have ac5 := a_4.out.c5
      have bc0 := b_4.out.c0
      have bc1 := b_4.out.c1
      have bc2 := b_4.out.c2
      have bc3 := b_4.out.c3
      have bc4 := b_4.out.c4
      have bc5 := b_4.out.c5
      go_wp2_with fail
      clear ac0 ac1 ac2 ac3 ac4 ac5 bc0 bc1 bc2 bc3 bc4 bc5
      refine (hvb.out _).mono ?_
      rintro e v5 ⟨rfl, hb⟩
      have D5 := Lib.hid (D4.out.trans (hb.mono D4.out.size))
      have a_5 := Lib.hid (a_4.out.bel hb)
      have b_5 := Lib.hid (b_4.out.bel hb)
      have z_5 := Lib.hid (z_4.out.bel hb)
      clear D4 a_4 b_4 z_4
      clear hb
      have ac0 := a_5.out.c0
      have ac1 := a_5.out.c1
      have ac2 := a_5.out.c2
      have ac3 := a_5.out.c3
      have ac4 := a_5.out.c4
      have ac5 := a_5.out.c5
      have az := blk_lt a_5.out.cells
      have bc0 := b_5.out.c0
      have bc1 := b_5.out.c1
      have bc2 := b_5.out.c2
      have bc3 := b_5.out.c3
      have bc4 := b_5.out.c4
      have bc5 := b_5.out.c5
      have bz := blk_lt b_5.out.cells
      go_wp2_with fail
      clear ac0 ac1 ac2 ac3 ac4 ac5 az bc0 bc1 bc2 bc3 bc4 bc5 bz
      refine (hadd1.out _).mono ?_
      rintro e v6 ⟨rfl, hb⟩
      have D6 := Lib.hid (D5.out.trans (hb.mono D5.out.size))
      have a_6 := Lib.hid (a_5.out.bel hb)
      have b_6 := Lib.hid (b_5.out.bel hb)
      have z_6 := Lib.hid (z_5.out.bel hb)
      clear D5 a_5 b_5 z_5
      clear hb
      have ac0 := a_6.out.c0
      have ac1 := a_6.out.c1
      have ac2 := a_6.out.c2
      have ac3 := a_6.out.c3
      have ac4 := a_6.out.c4
      have ac5 := a_6.out.c5
      have az := blk_lt a_6.out.cells
      have bc0 := b_6.out.c0
      have bc1 := b_6.out.c1
      have bc2 := b_6.out.c2
      have bc3 := b_6.out.c3
      have bc4 := b_6.out.c4
      have bc5 := b_6.out.c5
      have bz := blk_lt b_6.out.cells
      go_wp2_with fail
      clear ac0 ac1 ac2 ac3 ac4 ac5 az bc0 bc1 bc2 bc3 bc4 bc5 bz
      obtain ⟨B2, hB2⟩ : ∃ B, B = v6.heap.size := ⟨_, rfl⟩
      obtain ⟨W2_0, hW2_0⟩ : ∃ W, W = v6.alloc (Obj.cells #[Value.bool x.neg, Value.string x.num, Value.string x.den] 24) := ⟨_, rfl⟩
      have hb : Below v6.heap.size v6 W2_0 := by rw [hW2_0]; exact (Below.refl _ _).alloc (Nat.le_refl _) _
      have hzW2_0 : v6.heap.size = B2 := by rw [hB2]
      have hlW2_0 : RatAt (B2) x W2_0 := by rw [← hzW2_0, hW2_0]; exact ⟨heap_lastM _ _⟩
      have D7 := Lib.hid (D6.out.trans (hb.mono D6.out.size))
      have a_7 := Lib.hid (a_6.out.bel hb)
      have b_7 := Lib.hid (b_6.out.bel hb)
      have z_7 := Lib.hid (z_6.out.bel hb)
      clear D6 a_6 b_6 z_6
      clear hb
      have x_7 := Lib.hid hlW2_0
      clear hlW2_0
      rw [← hW2_0]
      simp only [← hB2]
      clear hW2_0 hzW2_0
      have HB2 := Lib.hid hB2
      clear hB2
      refine (hadd2.out _).mono ?_
      rintro e v8 ⟨rfl, hb⟩
      have D8 := Lib.hid (D7.out.trans (hb.mono D7.out.size))
      have a_8 := Lib.hid (a_7.out.bel hb)
      have b_8 := Lib.hid (b_7.out.bel hb)
      have z_8 := Lib.hid (z_7.out.bel hb)
      have x_8 := Lib.hid (x_7.out.bel hb)
      clear D7 a_7 b_7 z_7 x_7
      clear hb
      have xc0 := x_8.out.c0
      have xc1 := x_8.out.c1
      have xc2 := x_8.out.c2
      have xz := blk_lt x_8.out.cells
      have zl := blk_lt z_8.out.cells
      have zc0 := z_8.out.c0
      have zf0 := z_8.out.fz 0
      have zc1 := z_8.out.c1
      have zf1 := z_8.out.fz 1
      have zc2 := z_8.out.c2
      have zf2 := z_8.out.fz 2
      have zc3 := z_8.out.c3
      have zf3 := z_8.out.fz 3
      have zc4 := z_8.out.c4
      have zf4 := z_8.out.fz 4
      have zc5 := z_8.out.c5
      have zf5 := z_8.out.fz 5
      have hnz : B1 + 1 + 1 ≠ v8.heap.size := by omega
      go_wp2_with fail
      (try simp only [Exit.inBlock, Exit.then])
      first | (refine bodyPost_ret (results_iv rfl _ _ (B1 + 1 + 1) ⟨⟨_, _, _⟩, ⟨_, _, _⟩⟩ _ rfl rfl ((z_8.out.set ⟨⟨_, _, _⟩, ⟨_, _, _⟩⟩).bel ((Below.refl _ _).alloc (Nat.le_refl _) _))) rfl ?_; rw [HTT.out]; exact ⟨rfl, ((((((D8.out.setCell (p := ⟨B1 + 1 + 1, 0, none⟩) (by have := HB1.out; show w.heap.size ≤ B1 + 1 + 1; omega) _).setCell (p := ⟨B1 + 1 + 1, 1, none⟩) (by have := HB1.out; show w.heap.size ≤ B1 + 1 + 1; omega) _).setCell (p := ⟨B1 + 1 + 1, 2, none⟩) (by have := HB1.out; show w.heap.size ≤ B1 + 1 + 1; omega) _).setCell (p := ⟨B1 + 1 + 1, 3, none⟩) (by have := HB1.out; show w.heap.size ≤ B1 + 1 + 1; omega) _).setCell (p := ⟨B1 + 1 + 1, 4, none⟩) (by have := HB1.out; show w.heap.size ≤ B1 + 1 + 1; omega) _).setCell (p := ⟨B1 + 1 + 1, 5, none⟩) (by have := HB1.out; show w.heap.size ≤ B1 + 1 + 1; omega) _).alloc (by have := D8.out.size; simpa using this) _⟩) | (refine bodyPost_ret (results_iv rfl _ _ (B1 + 1 + 1) noI _ rfl rfl (z_8.out.bel ((Below.refl _ _).alloc (Nat.le_refl _) _))) rfl ?_; rw [HTT.out]; exact ⟨rfl, D8.out.alloc D8.out.size _⟩)
    · have HTT : Hid (t = (noI, 2)) := Lib.hid (by rw [ht2, if_neg (fun h => f0 h.2)])
      have Q1 : Hid ((f == 0) = false) := Lib.hid (beq_eq_false_iff_ne.2 f0)
      have Q2 : Hid ((f != 0) = true) := Lib.hid (by rw [bne, Q1.out]; rfl)
      clear ht2 f0
      go_enter Tryz.func7, Tryz.ntmps7
      go_wp2_with fail
      obtain ⟨B1, hB1⟩ : ∃ B, B = w.heap.size := ⟨_, rfl⟩
      obtain ⟨W1_0, hW1_0⟩ : ∃ W, W = w.alloc (Obj.cells #[Value.bool a.low.neg, Value.string a.low.num, Value.string a.low.den, Value.bool a.high.neg, Value.string a.high.num, Value.string a.high.den] 26) := ⟨_, rfl⟩
      have hb : Below w.heap.size w W1_0 := by rw [hW1_0]; exact (Below.refl _ _).alloc (Nat.le_refl _) _
      have hzW1_0 : w.heap.size = B1 := by rw [hB1]
      have hlW1_0 : IvAt (B1) a W1_0 := by rw [← hzW1_0, hW1_0]; exact ⟨heap_lastM _ _⟩
      have D1 := Lib.hid (D0.out.trans (hb.mono D0.out.size))
      clear hb
      have a_1 := Lib.hid hlW1_0
      clear hlW1_0
      obtain ⟨W1_1, hW1_1⟩ : ∃ W, W = W1_0.alloc (Obj.cells #[Value.bool b.low.neg, Value.string b.low.num, Value.string b.low.den, Value.bool b.high.neg, Value.string b.high.num, Value.string b.high.den] 26) := ⟨_, rfl⟩
      have hb : Below W1_0.heap.size W1_0 W1_1 := by rw [hW1_1]; exact (Below.refl _ _).alloc (Nat.le_refl _) _
      have hzW1_1 : W1_0.heap.size = B1 + 1 := by rw [hW1_0]; simp [hzW1_0]
      have hlW1_1 : IvAt (B1 + 1) b W1_1 := by rw [← hzW1_1, hW1_1]; exact ⟨heap_lastM _ _⟩
      have D2 := Lib.hid (D1.out.trans (hb.mono D1.out.size))
      have a_2 := Lib.hid (a_1.out.bel hb)
      clear D1 a_1
      clear hb
      have b_2 := Lib.hid hlW1_1
      clear hlW1_1
      obtain ⟨W1_2, hW1_2⟩ : ∃ W, W = W1_1.alloc (Obj.cells #[Value.bool false, Value.string ⟨#[]⟩, Value.string ⟨#[]⟩, Value.bool false, Value.string ⟨#[]⟩, Value.string ⟨#[]⟩] 26) := ⟨_, rfl⟩
      have hb : Below W1_1.heap.size W1_1 W1_2 := by rw [hW1_2]; exact (Below.refl _ _).alloc (Nat.le_refl _) _
      have hzW1_2 : W1_1.heap.size = B1 + 1 + 1 := by rw [hW1_1]; simp [hzW1_1]
      have hlW1_2 : IvAt (B1 + 1 + 1) noI W1_2 := by rw [← hzW1_2, hW1_2]; exact ⟨heap_lastM _ _⟩
      have D3 := Lib.hid (D2.out.trans (hb.mono D2.out.size))
      have a_3 := Lib.hid (a_2.out.bel hb)
      have b_3 := Lib.hid (b_2.out.bel hb)
      clear D2 a_2 b_2
      clear hb
      have z_3 := Lib.hid hlW1_2
      clear hlW1_2
      rw [← hW1_0]
      rw [← hW1_1]
      rw [← hW1_2]
      simp only [← hB1]
      clear hW1_0 hzW1_0
      clear hW1_1 hzW1_1
      clear hW1_2 hzW1_2
      have HB1 := Lib.hid hB1
      clear hB1
      have ac0 := a_3.out.c0
      have ac1 := a_3.out.c1
      have ac2 := a_3.out.c2
      have ac3 := a_3.out.c3
      have ac4 := a_3.out.c4
      have ac5 := a_3.out.c5
      have bc0 := b_3.out.c0
      have bc1 := b_3.out.c1
      have bc2 := b_3.out.c2
      have bc3 := b_3.out.c3
      have bc4 := b_3.out.c4
      have bc5 := b_3.out.c5
      go_wp2_with fail
      clear ac0 ac1 ac2 ac3 ac4 ac5 bc0 bc1 bc2 bc3 bc4 bc5
      refine (hva.out _).mono ?_
      rintro e v4 ⟨rfl, hb⟩
      have D4 := Lib.hid (D3.out.trans (hb.mono D3.out.size))
      have a_4 := Lib.hid (a_3.out.bel hb)
      have b_4 := Lib.hid (b_3.out.bel hb)
      have z_4 := Lib.hid (z_3.out.bel hb)
      clear D3 a_3 b_3 z_3
      clear hb
      have ac0 := a_4.out.c0
      have ac1 := a_4.out.c1
      have ac2 := a_4.out.c2
      have ac3 := a_4.out.c3
      have ac4 := a_4.out.c4
      have ac5 := a_4.out.c5
      have bc0 := b_4.out.c0
      have bc1 := b_4.out.c1
      have bc2 := b_4.out.c2
      have bc3 := b_4.out.c3
      have bc4 := b_4.out.c4
      have bc5 := b_4.out.c5
      go_wp2_with fail
      clear ac0 ac1 ac2 ac3 ac4 ac5 bc0 bc1 bc2 bc3 bc4 bc5
      refine (hvb.out _).mono ?_
      rintro e v5 ⟨rfl, hb⟩
      have D5 := Lib.hid (D4.out.trans (hb.mono D4.out.size))
      have a_5 := Lib.hid (a_4.out.bel hb)
      have b_5 := Lib.hid (b_4.out.bel hb)
      have z_5 := Lib.hid (z_4.out.bel hb)
      clear D4 a_4 b_4 z_4
      clear hb
      have ac0 := a_5.out.c0
      have ac1 := a_5.out.c1
      have ac2 := a_5.out.c2
      have ac3 := a_5.out.c3
      have ac4 := a_5.out.c4
      have ac5 := a_5.out.c5
      have az := blk_lt a_5.out.cells
      have bc0 := b_5.out.c0
      have bc1 := b_5.out.c1
      have bc2 := b_5.out.c2
      have bc3 := b_5.out.c3
      have bc4 := b_5.out.c4
      have bc5 := b_5.out.c5
      have bz := blk_lt b_5.out.cells
      go_wp2_with fail
      clear ac0 ac1 ac2 ac3 ac4 ac5 az bc0 bc1 bc2 bc3 bc4 bc5 bz
      refine (hadd1.out _).mono ?_
      rintro e v6 ⟨rfl, hb⟩
      have D6 := Lib.hid (D5.out.trans (hb.mono D5.out.size))
      have a_6 := Lib.hid (a_5.out.bel hb)
      have b_6 := Lib.hid (b_5.out.bel hb)
      have z_6 := Lib.hid (z_5.out.bel hb)
      clear D5 a_5 b_5 z_5
      clear hb
      have ac0 := a_6.out.c0
      have ac1 := a_6.out.c1
      have ac2 := a_6.out.c2
      have ac3 := a_6.out.c3
      have ac4 := a_6.out.c4
      have ac5 := a_6.out.c5
      have az := blk_lt a_6.out.cells
      have bc0 := b_6.out.c0
      have bc1 := b_6.out.c1
      have bc2 := b_6.out.c2
      have bc3 := b_6.out.c3
      have bc4 := b_6.out.c4
      have bc5 := b_6.out.c5
      have bz := blk_lt b_6.out.cells
      go_wp2_with fail
      clear ac0 ac1 ac2 ac3 ac4 ac5 az bc0 bc1 bc2 bc3 bc4 bc5 bz
      obtain ⟨B2, hB2⟩ : ∃ B, B = v6.heap.size := ⟨_, rfl⟩
      obtain ⟨W2_0, hW2_0⟩ : ∃ W, W = v6.alloc (Obj.cells #[Value.bool x.neg, Value.string x.num, Value.string x.den] 24) := ⟨_, rfl⟩
      have hb : Below v6.heap.size v6 W2_0 := by rw [hW2_0]; exact (Below.refl _ _).alloc (Nat.le_refl _) _
      have hzW2_0 : v6.heap.size = B2 := by rw [hB2]
      have hlW2_0 : RatAt (B2) x W2_0 := by rw [← hzW2_0, hW2_0]; exact ⟨heap_lastM _ _⟩
      have D7 := Lib.hid (D6.out.trans (hb.mono D6.out.size))
      have a_7 := Lib.hid (a_6.out.bel hb)
      have b_7 := Lib.hid (b_6.out.bel hb)
      have z_7 := Lib.hid (z_6.out.bel hb)
      clear D6 a_6 b_6 z_6
      clear hb
      have x_7 := Lib.hid hlW2_0
      clear hlW2_0
      rw [← hW2_0]
      simp only [← hB2]
      clear hW2_0 hzW2_0
      have HB2 := Lib.hid hB2
      clear hB2
      refine (hadd2.out _).mono ?_
      rintro e v8 ⟨rfl, hb⟩
      have D8 := Lib.hid (D7.out.trans (hb.mono D7.out.size))
      have a_8 := Lib.hid (a_7.out.bel hb)
      have b_8 := Lib.hid (b_7.out.bel hb)
      have z_8 := Lib.hid (z_7.out.bel hb)
      have x_8 := Lib.hid (x_7.out.bel hb)
      clear D7 a_7 b_7 z_7 x_7
      clear hb
      have q1 := Q1.out; have q2 := Q2.out
      have xc0 := x_8.out.c0
      have xc1 := x_8.out.c1
      have xc2 := x_8.out.c2
      have xz := blk_lt x_8.out.cells
      have zl := blk_lt z_8.out.cells
      have zc0 := z_8.out.c0
      have zf0 := z_8.out.fz 0
      have zc1 := z_8.out.c1
      have zf1 := z_8.out.fz 1
      have zc2 := z_8.out.c2
      have zf2 := z_8.out.fz 2
      have zc3 := z_8.out.c3
      have zf3 := z_8.out.fz 3
      have zc4 := z_8.out.c4
      have zf4 := z_8.out.fz 4
      have zc5 := z_8.out.c5
      have zf5 := z_8.out.fz 5
      have hnz : B1 + 1 + 1 ≠ v8.heap.size := by omega
      go_wp2_with fail
      (try simp only [Exit.inBlock, Exit.then])
      first | (refine bodyPost_ret (results_iv rfl _ _ (B1 + 1 + 1) ⟨⟨_, _, _⟩, ⟨_, _, _⟩⟩ _ rfl rfl ((z_8.out.set ⟨⟨_, _, _⟩, ⟨_, _, _⟩⟩).bel ((Below.refl _ _).alloc (Nat.le_refl _) _))) rfl ?_; rw [HTT.out]; exact ⟨rfl, ((((((D8.out.setCell (p := ⟨B1 + 1 + 1, 0, none⟩) (by have := HB1.out; show w.heap.size ≤ B1 + 1 + 1; omega) _).setCell (p := ⟨B1 + 1 + 1, 1, none⟩) (by have := HB1.out; show w.heap.size ≤ B1 + 1 + 1; omega) _).setCell (p := ⟨B1 + 1 + 1, 2, none⟩) (by have := HB1.out; show w.heap.size ≤ B1 + 1 + 1; omega) _).setCell (p := ⟨B1 + 1 + 1, 3, none⟩) (by have := HB1.out; show w.heap.size ≤ B1 + 1 + 1; omega) _).setCell (p := ⟨B1 + 1 + 1, 4, none⟩) (by have := HB1.out; show w.heap.size ≤ B1 + 1 + 1; omega) _).setCell (p := ⟨B1 + 1 + 1, 5, none⟩) (by have := HB1.out; show w.heap.size ≤ B1 + 1 + 1; omega) _).alloc (by have := D8.out.size; simpa using this) _⟩) | (refine bodyPost_ret (results_iv rfl _ _ (B1 + 1 + 1) noI _ rfl rfl (z_8.out.bel ((Below.refl _ _).alloc (Nat.le_refl _) _))) rfl ?_; rw [HTT.out]; exact ⟨rfl, D8.out.alloc D8.out.size _⟩)
  · have HTT : Hid (t = (noI, 2)) := Lib.hid (by rw [ht2, if_neg (fun h => e0 h.1)])
    have Q1 : Hid ((e == 0) = false) := Lib.hid (beq_eq_false_iff_ne.2 e0)
    have Q2 : Hid ((e != 0) = true) := Lib.hid (by rw [bne, Q1.out]; rfl)
    clear ht2 e0
    go_enter Tryz.func7, Tryz.ntmps7
    go_wp2_with fail
    obtain ⟨B1, hB1⟩ : ∃ B, B = w.heap.size := ⟨_, rfl⟩
    obtain ⟨W1_0, hW1_0⟩ : ∃ W, W = w.alloc (Obj.cells #[Value.bool a.low.neg, Value.string a.low.num, Value.string a.low.den, Value.bool a.high.neg, Value.string a.high.num, Value.string a.high.den] 26) := ⟨_, rfl⟩
    have hb : Below w.heap.size w W1_0 := by rw [hW1_0]; exact (Below.refl _ _).alloc (Nat.le_refl _) _
    have hzW1_0 : w.heap.size = B1 := by rw [hB1]
    have hlW1_0 : IvAt (B1) a W1_0 := by rw [← hzW1_0, hW1_0]; exact ⟨heap_lastM _ _⟩
    have D1 := Lib.hid (D0.out.trans (hb.mono D0.out.size))
    clear hb
    have a_1 := Lib.hid hlW1_0
    clear hlW1_0
    obtain ⟨W1_1, hW1_1⟩ : ∃ W, W = W1_0.alloc (Obj.cells #[Value.bool b.low.neg, Value.string b.low.num, Value.string b.low.den, Value.bool b.high.neg, Value.string b.high.num, Value.string b.high.den] 26) := ⟨_, rfl⟩
    have hb : Below W1_0.heap.size W1_0 W1_1 := by rw [hW1_1]; exact (Below.refl _ _).alloc (Nat.le_refl _) _
    have hzW1_1 : W1_0.heap.size = B1 + 1 := by rw [hW1_0]; simp [hzW1_0]
    have hlW1_1 : IvAt (B1 + 1) b W1_1 := by rw [← hzW1_1, hW1_1]; exact ⟨heap_lastM _ _⟩
    have D2 := Lib.hid (D1.out.trans (hb.mono D1.out.size))
    have a_2 := Lib.hid (a_1.out.bel hb)
    clear D1 a_1
    clear hb
    have b_2 := Lib.hid hlW1_1
    clear hlW1_1
    obtain ⟨W1_2, hW1_2⟩ : ∃ W, W = W1_1.alloc (Obj.cells #[Value.bool false, Value.string ⟨#[]⟩, Value.string ⟨#[]⟩, Value.bool false, Value.string ⟨#[]⟩, Value.string ⟨#[]⟩] 26) := ⟨_, rfl⟩
    have hb : Below W1_1.heap.size W1_1 W1_2 := by rw [hW1_2]; exact (Below.refl _ _).alloc (Nat.le_refl _) _
    have hzW1_2 : W1_1.heap.size = B1 + 1 + 1 := by rw [hW1_1]; simp [hzW1_1]
    have hlW1_2 : IvAt (B1 + 1 + 1) noI W1_2 := by rw [← hzW1_2, hW1_2]; exact ⟨heap_lastM _ _⟩
    have D3 := Lib.hid (D2.out.trans (hb.mono D2.out.size))
    have a_3 := Lib.hid (a_2.out.bel hb)
    have b_3 := Lib.hid (b_2.out.bel hb)
    clear D2 a_2 b_2
    clear hb
    have z_3 := Lib.hid hlW1_2
    clear hlW1_2
    rw [← hW1_0]
    rw [← hW1_1]
    rw [← hW1_2]
    simp only [← hB1]
    clear hW1_0 hzW1_0
    clear hW1_1 hzW1_1
    clear hW1_2 hzW1_2
    have HB1 := Lib.hid hB1
    clear hB1
    have ac0 := a_3.out.c0
    have ac1 := a_3.out.c1
    have ac2 := a_3.out.c2
    have ac3 := a_3.out.c3
    have ac4 := a_3.out.c4
    have ac5 := a_3.out.c5
    have bc0 := b_3.out.c0
    have bc1 := b_3.out.c1
    have bc2 := b_3.out.c2
    have bc3 := b_3.out.c3
    have bc4 := b_3.out.c4
    have bc5 := b_3.out.c5
    go_wp2_with fail
    clear ac0 ac1 ac2 ac3 ac4 ac5 bc0 bc1 bc2 bc3 bc4 bc5
    refine (hva.out _).mono ?_
    rintro e v4 ⟨rfl, hb⟩
    have D4 := Lib.hid (D3.out.trans (hb.mono D3.out.size))
    have a_4 := Lib.hid (a_3.out.bel hb)
    have b_4 := Lib.hid (b_3.out.bel hb)
    have z_4 := Lib.hid (z_3.out.bel hb)
    clear D3 a_3 b_3 z_3
    clear hb
    have ac0 := a_4.out.c0
    have ac1 := a_4.out.c1
    have ac2 := a_4.out.c2
    have ac3 := a_4.out.c3
    have ac4 := a_4.out.c4
    have ac5 := a_4.out.c5
    have bc0 := b_4.out.c0
    have bc1 := b_4.out.c1
    have bc2 := b_4.out.c2
    have bc3 := b_4.out.c3
    have bc4 := b_4.out.c4
    have bc5 := b_4.out.c5
    go_wp2_with fail
    clear ac0 ac1 ac2 ac3 ac4 ac5 bc0 bc1 bc2 bc3 bc4 bc5
    refine (hvb.out _).mono ?_
    rintro e v5 ⟨rfl, hb⟩
    have D5 := Lib.hid (D4.out.trans (hb.mono D4.out.size))
    have a_5 := Lib.hid (a_4.out.bel hb)
    have b_5 := Lib.hid (b_4.out.bel hb)
    have z_5 := Lib.hid (z_4.out.bel hb)
    clear D4 a_4 b_4 z_4
    clear hb
    have ac0 := a_5.out.c0
    have ac1 := a_5.out.c1
    have ac2 := a_5.out.c2
    have ac3 := a_5.out.c3
    have ac4 := a_5.out.c4
    have ac5 := a_5.out.c5
    have az := blk_lt a_5.out.cells
    have bc0 := b_5.out.c0
    have bc1 := b_5.out.c1
    have bc2 := b_5.out.c2
    have bc3 := b_5.out.c3
    have bc4 := b_5.out.c4
    have bc5 := b_5.out.c5
    have bz := blk_lt b_5.out.cells
    go_wp2_with fail
    clear ac0 ac1 ac2 ac3 ac4 ac5 az bc0 bc1 bc2 bc3 bc4 bc5 bz
    refine (hadd1.out _).mono ?_
    rintro e v6 ⟨rfl, hb⟩
    have D6 := Lib.hid (D5.out.trans (hb.mono D5.out.size))
    have a_6 := Lib.hid (a_5.out.bel hb)
    have b_6 := Lib.hid (b_5.out.bel hb)
    have z_6 := Lib.hid (z_5.out.bel hb)
    clear D5 a_5 b_5 z_5
    clear hb
    have ac0 := a_6.out.c0
    have ac1 := a_6.out.c1
    have ac2 := a_6.out.c2
    have ac3 := a_6.out.c3
    have ac4 := a_6.out.c4
    have ac5 := a_6.out.c5
    have az := blk_lt a_6.out.cells
    have bc0 := b_6.out.c0
    have bc1 := b_6.out.c1
    have bc2 := b_6.out.c2
    have bc3 := b_6.out.c3
    have bc4 := b_6.out.c4
    have bc5 := b_6.out.c5
    have bz := blk_lt b_6.out.cells
    go_wp2_with fail
    clear ac0 ac1 ac2 ac3 ac4 ac5 az bc0 bc1 bc2 bc3 bc4 bc5 bz
    obtain ⟨B2, hB2⟩ : ∃ B, B = v6.heap.size := ⟨_, rfl⟩
    obtain ⟨W2_0, hW2_0⟩ : ∃ W, W = v6.alloc (Obj.cells #[Value.bool x.neg, Value.string x.num, Value.string x.den] 24) := ⟨_, rfl⟩
    have hb : Below v6.heap.size v6 W2_0 := by rw [hW2_0]; exact (Below.refl _ _).alloc (Nat.le_refl _) _
    have hzW2_0 : v6.heap.size = B2 := by rw [hB2]
    have hlW2_0 : RatAt (B2) x W2_0 := by rw [← hzW2_0, hW2_0]; exact ⟨heap_lastM _ _⟩
    have D7 := Lib.hid (D6.out.trans (hb.mono D6.out.size))
    have a_7 := Lib.hid (a_6.out.bel hb)
    have b_7 := Lib.hid (b_6.out.bel hb)
    have z_7 := Lib.hid (z_6.out.bel hb)
    clear D6 a_6 b_6 z_6
    clear hb
    have x_7 := Lib.hid hlW2_0
    clear hlW2_0
    rw [← hW2_0]
    simp only [← hB2]
    clear hW2_0 hzW2_0
    have HB2 := Lib.hid hB2
    clear hB2
    refine (hadd2.out _).mono ?_
    rintro e v8 ⟨rfl, hb⟩
    have D8 := Lib.hid (D7.out.trans (hb.mono D7.out.size))
    have a_8 := Lib.hid (a_7.out.bel hb)
    have b_8 := Lib.hid (b_7.out.bel hb)
    have z_8 := Lib.hid (z_7.out.bel hb)
    have x_8 := Lib.hid (x_7.out.bel hb)
    clear D7 a_7 b_7 z_7 x_7
    clear hb
    have q1 := Q1.out; have q2 := Q2.out
    have xc0 := x_8.out.c0
    have xc1 := x_8.out.c1
    have xc2 := x_8.out.c2
    have xz := blk_lt x_8.out.cells
    have zl := blk_lt z_8.out.cells
    have zc0 := z_8.out.c0
    have zf0 := z_8.out.fz 0
    have zc1 := z_8.out.c1
    have zf1 := z_8.out.fz 1
    have zc2 := z_8.out.c2
    have zf2 := z_8.out.fz 2
    have zc3 := z_8.out.c3
    have zf3 := z_8.out.fz 3
    have zc4 := z_8.out.c4
    have zf4 := z_8.out.fz 4
    have zc5 := z_8.out.c5
    have zf5 := z_8.out.fz 5
    have hnz : B1 + 1 + 1 ≠ v8.heap.size := by omega
    go_wp2_with fail
    (try simp only [Exit.inBlock, Exit.then])
    first | (refine bodyPost_ret (results_iv rfl _ _ (B1 + 1 + 1) ⟨⟨_, _, _⟩, ⟨_, _, _⟩⟩ _ rfl rfl ((z_8.out.set ⟨⟨_, _, _⟩, ⟨_, _, _⟩⟩).bel ((Below.refl _ _).alloc (Nat.le_refl _) _))) rfl ?_; rw [HTT.out]; exact ⟨rfl, ((((((D8.out.setCell (p := ⟨B1 + 1 + 1, 0, none⟩) (by have := HB1.out; show w.heap.size ≤ B1 + 1 + 1; omega) _).setCell (p := ⟨B1 + 1 + 1, 1, none⟩) (by have := HB1.out; show w.heap.size ≤ B1 + 1 + 1; omega) _).setCell (p := ⟨B1 + 1 + 1, 2, none⟩) (by have := HB1.out; show w.heap.size ≤ B1 + 1 + 1; omega) _).setCell (p := ⟨B1 + 1 + 1, 3, none⟩) (by have := HB1.out; show w.heap.size ≤ B1 + 1 + 1; omega) _).setCell (p := ⟨B1 + 1 + 1, 4, none⟩) (by have := HB1.out; show w.heap.size ≤ B1 + 1 + 1; omega) _).setCell (p := ⟨B1 + 1 + 1, 5, none⟩) (by have := HB1.out; show w.heap.size ≤ B1 + 1 + 1; omega) _).alloc (by have := D8.out.size; simpa using this) _⟩) | (refine bodyPost_ret (results_iv rfl _ _ (B1 + 1 + 1) noI _ rfl rfl (z_8.out.bel ((Below.refl _ _).alloc (Nat.le_refl _) _))) rfl ?_; rw [HTT.out]; exact ⟨rfl, D8.out.alloc D8.out.size _⟩)
end Go.Proofs.YtbcoblpnihdhgaaGreatDoor

/-
  The document's own answers of layer 5: Meet.
-/
set_option linter.unusedVariables false
set_option maxRecDepth 100000
namespace Go.Proofs.YtbcoblpnihdhgaaGreatDoor
open Go.RowKit
open Rt
set_option maxHeartbeats 40000000 in
theorem refimeet_any (a b : Iv) (w : World) : Calls Tryz.prog 13 #[.agg #[.bool a.low.neg, .string a.low.num, .string a.low.den, .bool a.high.neg, .string a.high.num, .string a.high.den], .agg #[.bool b.low.neg, .string b.low.num, .string b.low.den, .bool b.high.neg, .string b.high.num, .string b.high.den]] w (GivesM (meetI a b) w) := by
  obtain ⟨t, ht⟩ : ∃ t, t = meetI a b := ⟨_, rfl⟩
  rw [← ht]
  have D0 := Lib.hid (Below.refl w.heap.size w)
  by_cases ha : okI a = true
  case neg =>
    have ha := Bool.eq_false_iff.2 ha
    have hva : Hid (∀ w, Calls Tryz.prog 15 #[.agg #[.bool a.low.neg, .string a.low.num, .string a.low.den, .bool a.high.neg, .string a.high.num, .string a.high.den]] w (GivesB false w)) := Lib.hid (fun w => by have := refivalid_any a w; rwa [ha] at this)
    have HTT : Hid (t = (noI, false)) := Lib.hid (by rw [ht]; unfold meetI; rw [ha]; rfl)
    clear ht ha
    go_enter Tryz.func13, Tryz.ntmps13
    go_wp2_with fail
    obtain ⟨B1, hB1⟩ : ∃ B, B = w.heap.size := ⟨_, rfl⟩
    obtain ⟨W1_0, hW1_0⟩ : ∃ W, W = w.alloc (Obj.cells #[Value.bool a.low.neg, Value.string a.low.num, Value.string a.low.den, Value.bool a.high.neg, Value.string a.high.num, Value.string a.high.den] 26) := ⟨_, rfl⟩
    have hb : Below w.heap.size w W1_0 := by rw [hW1_0]; exact (Below.refl _ _).alloc (Nat.le_refl _) _
    have hzW1_0 : w.heap.size = B1 := by rw [hB1]
    have hlW1_0 : IvAt (B1) a W1_0 := by rw [← hzW1_0, hW1_0]; exact ⟨heap_lastM _ _⟩
    have D1 := Lib.hid (D0.out.trans (hb.mono D0.out.size))
    clear hb
    have a_1 := Lib.hid hlW1_0
    clear hlW1_0
    obtain ⟨W1_1, hW1_1⟩ : ∃ W, W = W1_0.alloc (Obj.cells #[Value.bool b.low.neg, Value.string b.low.num, Value.string b.low.den, Value.bool b.high.neg, Value.string b.high.num, Value.string b.high.den] 26) := ⟨_, rfl⟩
    have hb : Below W1_0.heap.size W1_0 W1_1 := by rw [hW1_1]; exact (Below.refl _ _).alloc (Nat.le_refl _) _
    have hzW1_1 : W1_0.heap.size = B1 + 1 := by rw [hW1_0]; simp [hzW1_0]
    have hlW1_1 : IvAt (B1 + 1) b W1_1 := by rw [← hzW1_1, hW1_1]; exact ⟨heap_lastM _ _⟩
    have D2 := Lib.hid (D1.out.trans (hb.mono D1.out.size))
    have a_2 := Lib.hid (a_1.out.bel hb)
    clear D1 a_1
    clear hb
    have b_2 := Lib.hid hlW1_1
    clear hlW1_1
    obtain ⟨W1_2, hW1_2⟩ : ∃ W, W = W1_1.alloc (Obj.cells #[Value.bool false, Value.string ⟨#[]⟩, Value.string ⟨#[]⟩, Value.bool false, Value.string ⟨#[]⟩, Value.string ⟨#[]⟩] 26) := ⟨_, rfl⟩
    have hb : Below W1_1.heap.size W1_1 W1_2 := by rw [hW1_2]; exact (Below.refl _ _).alloc (Nat.le_refl _) _
    have hzW1_2 : W1_1.heap.size = B1 + 1 + 1 := by rw [hW1_1]; simp [hzW1_1]
    have hlW1_2 : IvAt (B1 + 1 + 1) noI W1_2 := by rw [← hzW1_2, hW1_2]; exact ⟨heap_lastM _ _⟩
    have D3 := Lib.hid (D2.out.trans (hb.mono D2.out.size))
    have a_3 := Lib.hid (a_2.out.bel hb)
    have b_3 := Lib.hid (b_2.out.bel hb)
    clear D2 a_2 b_2
    clear hb
    have z_3 := Lib.hid hlW1_2
    clear hlW1_2
    rw [← hW1_0]
    rw [← hW1_1]
    rw [← hW1_2]
    simp only [← hB1]
    clear hW1_0 hzW1_0
    clear hW1_1 hzW1_1
    clear hW1_2 hzW1_2
    have HB1 := Lib.hid hB1
    clear hB1
    have ac0 := a_3.out.c0
    have ac1 := a_3.out.c1
    have ac2 := a_3.out.c2
    have ac3 := a_3.out.c3
    have ac4 := a_3.out.c4
    have ac5 := a_3.out.c5
    have bc0 := b_3.out.c0
    have bc1 := b_3.out.c1
    have bc2 := b_3.out.c2
    have bc3 := b_3.out.c3
    have bc4 := b_3.out.c4
    have bc5 := b_3.out.c5
    go_wp2_with fail
    clear ac0 ac1 ac2 ac3 ac4 ac5 bc0 bc1 bc2 bc3 bc4 bc5
    refine (hva.out _).mono ?_
    rintro e v4 ⟨rfl, hb⟩
    have D4 := Lib.hid (D3.out.trans (hb.mono D3.out.size))
    have a_4 := Lib.hid (a_3.out.bel hb)
    have b_4 := Lib.hid (b_3.out.bel hb)
    have z_4 := Lib.hid (z_3.out.bel hb)
    clear D3 a_3 b_3 z_3
    clear hb
    have zc0 := z_4.out.c0
    have zf0 := z_4.out.fz 0
    have zc1 := z_4.out.c1
    have zf1 := z_4.out.fz 1
    have zc2 := z_4.out.c2
    have zf2 := z_4.out.fz 2
    have zc3 := z_4.out.c3
    have zf3 := z_4.out.fz 3
    have zc4 := z_4.out.c4
    have zf4 := z_4.out.fz 4
    have zc5 := z_4.out.c5
    have zf5 := z_4.out.fz 5
    go_wp2_with fail
    (try simp only [Exit.inBlock, Exit.then])
    refine bodyPost_ret (results_iv rfl _ _ (B1 + 1 + 1) noI _ rfl rfl (z_4.out.set noI)) rfl ?_; rw [HTT.out]; exact ⟨rfl, ((((((D4.out.setCell (p := ⟨B1 + 1 + 1, 0, none⟩) (by have := HB1.out; show w.heap.size ≤ B1 + 1 + 1; omega) _).setCell (p := ⟨B1 + 1 + 1, 1, none⟩) (by have := HB1.out; show w.heap.size ≤ B1 + 1 + 1; omega) _).setCell (p := ⟨B1 + 1 + 1, 2, none⟩) (by have := HB1.out; show w.heap.size ≤ B1 + 1 + 1; omega) _).setCell (p := ⟨B1 + 1 + 1, 3, none⟩) (by have := HB1.out; show w.heap.size ≤ B1 + 1 + 1; omega) _).setCell (p := ⟨B1 + 1 + 1, 4, none⟩) (by have := HB1.out; show w.heap.size ≤ B1 + 1 + 1; omega) _).setCell (p := ⟨B1 + 1 + 1, 5, none⟩) (by have := HB1.out; show w.heap.size ≤ B1 + 1 + 1; omega) _)⟩
  have hva : Hid (∀ w, Calls Tryz.prog 15 #[.agg #[.bool a.low.neg, .string a.low.num, .string a.low.den, .bool a.high.neg, .string a.high.num, .string a.high.den]] w (GivesB true w)) := Lib.hid (fun w => by have := refivalid_any a w; rwa [ha] at this)
  by_cases hb : okI b = true
  case neg =>
    have hb := Bool.eq_false_iff.2 hb
    have hvb : Hid (∀ w, Calls Tryz.prog 15 #[.agg #[.bool b.low.neg, .string b.low.num, .string b.low.den, .bool b.high.neg, .string b.high.num, .string b.high.den]] w (GivesB false w)) := Lib.hid (fun w => by have := refivalid_any b w; rwa [hb] at this)
    have HTT : Hid (t = (noI, false)) := Lib.hid (by rw [ht]; unfold meetI; rw [ha, hb]; rfl)
    clear ht ha hb
    go_enter Tryz.func13, Tryz.ntmps13
    go_wp2_with fail
    obtain ⟨B1, hB1⟩ : ∃ B, B = w.heap.size := ⟨_, rfl⟩
    obtain ⟨W1_0, hW1_0⟩ : ∃ W, W = w.alloc (Obj.cells #[Value.bool a.low.neg, Value.string a.low.num, Value.string a.low.den, Value.bool a.high.neg, Value.string a.high.num, Value.string a.high.den] 26) := ⟨_, rfl⟩
    have hb : Below w.heap.size w W1_0 := by rw [hW1_0]; exact (Below.refl _ _).alloc (Nat.le_refl _) _
    have hzW1_0 : w.heap.size = B1 := by rw [hB1]
    have hlW1_0 : IvAt (B1) a W1_0 := by rw [← hzW1_0, hW1_0]; exact ⟨heap_lastM _ _⟩
    have D1 := Lib.hid (D0.out.trans (hb.mono D0.out.size))
    clear hb
    have a_1 := Lib.hid hlW1_0
    clear hlW1_0
    obtain ⟨W1_1, hW1_1⟩ : ∃ W, W = W1_0.alloc (Obj.cells #[Value.bool b.low.neg, Value.string b.low.num, Value.string b.low.den, Value.bool b.high.neg, Value.string b.high.num, Value.string b.high.den] 26) := ⟨_, rfl⟩
    have hb : Below W1_0.heap.size W1_0 W1_1 := by rw [hW1_1]; exact (Below.refl _ _).alloc (Nat.le_refl _) _
    have hzW1_1 : W1_0.heap.size = B1 + 1 := by rw [hW1_0]; simp [hzW1_0]
    have hlW1_1 : IvAt (B1 + 1) b W1_1 := by rw [← hzW1_1, hW1_1]; exact ⟨heap_lastM _ _⟩
    have D2 := Lib.hid (D1.out.trans (hb.mono D1.out.size))
    have a_2 := Lib.hid (a_1.out.bel hb)
    clear D1 a_1
    clear hb
    have b_2 := Lib.hid hlW1_1
    clear hlW1_1
    obtain ⟨W1_2, hW1_2⟩ : ∃ W, W = W1_1.alloc (Obj.cells #[Value.bool false, Value.string ⟨#[]⟩, Value.string ⟨#[]⟩, Value.bool false, Value.string ⟨#[]⟩, Value.string ⟨#[]⟩] 26) := ⟨_, rfl⟩
    have hb : Below W1_1.heap.size W1_1 W1_2 := by rw [hW1_2]; exact (Below.refl _ _).alloc (Nat.le_refl _) _
    have hzW1_2 : W1_1.heap.size = B1 + 1 + 1 := by rw [hW1_1]; simp [hzW1_1]
    have hlW1_2 : IvAt (B1 + 1 + 1) noI W1_2 := by rw [← hzW1_2, hW1_2]; exact ⟨heap_lastM _ _⟩
    have D3 := Lib.hid (D2.out.trans (hb.mono D2.out.size))
    have a_3 := Lib.hid (a_2.out.bel hb)
    have b_3 := Lib.hid (b_2.out.bel hb)
    clear D2 a_2 b_2
    clear hb
    have z_3 := Lib.hid hlW1_2
    clear hlW1_2
    rw [← hW1_0]
    rw [← hW1_1]
    rw [← hW1_2]
    simp only [← hB1]
    clear hW1_0 hzW1_0
    clear hW1_1 hzW1_1
    clear hW1_2 hzW1_2
    have HB1 := Lib.hid hB1
    clear hB1
    have ac0 := a_3.out.c0
    have ac1 := a_3.out.c1
    have ac2 := a_3.out.c2
    have ac3 := a_3.out.c3
    have ac4 := a_3.out.c4
    have ac5 := a_3.out.c5
    have bc0 := b_3.out.c0
    have bc1 := b_3.out.c1
    have bc2 := b_3.out.c2
    have bc3 := b_3.out.c3
    have bc4 := b_3.out.c4
    have bc5 := b_3.out.c5
    go_wp2_with fail
    clear ac0 ac1 ac2 ac3 ac4 ac5 bc0 bc1 bc2 bc3 bc4 bc5
    refine (hva.out _).mono ?_
    rintro e v4 ⟨rfl, hb⟩
    have D4 := Lib.hid (D3.out.trans (hb.mono D3.out.size))
    have a_4 := Lib.hid (a_3.out.bel hb)
    have b_4 := Lib.hid (b_3.out.bel hb)
    have z_4 := Lib.hid (z_3.out.bel hb)
    clear D3 a_3 b_3 z_3
    clear hb
    have ac0 := a_4.out.c0
    have ac1 := a_4.out.c1
    have ac2 := a_4.out.c2
    have ac3 := a_4.out.c3
    have ac4 := a_4.out.c4
    have ac5 := a_4.out.c5
    have bc0 := b_4.out.c0
    have bc1 := b_4.out.c1
    have bc2 := b_4.out.c2
    have bc3 := b_4.out.c3
    have bc4 := b_4.out.c4
    have bc5 := b_4.out.c5
    go_wp2_with fail
    clear ac0 ac1 ac2 ac3 ac4 ac5 bc0 bc1 bc2 bc3 bc4 bc5
    refine (hvb.out _).mono ?_
    rintro e v5 ⟨rfl, hb⟩
    have D5 := Lib.hid (D4.out.trans (hb.mono D4.out.size))
    have a_5 := Lib.hid (a_4.out.bel hb)
    have b_5 := Lib.hid (b_4.out.bel hb)
    have z_5 := Lib.hid (z_4.out.bel hb)
    clear D4 a_4 b_4 z_4
    clear hb
    have zc0 := z_5.out.c0
    have zf0 := z_5.out.fz 0
    have zc1 := z_5.out.c1
    have zf1 := z_5.out.fz 1
    have zc2 := z_5.out.c2
    have zf2 := z_5.out.fz 2
    have zc3 := z_5.out.c3
    have zf3 := z_5.out.fz 3
    have zc4 := z_5.out.c4
    have zf4 := z_5.out.fz 4
    have zc5 := z_5.out.c5
    have zf5 := z_5.out.fz 5
    go_wp2_with fail
    (try simp only [Exit.inBlock, Exit.then])
    refine bodyPost_ret (results_iv rfl _ _ (B1 + 1 + 1) noI _ rfl rfl (z_5.out.set noI)) rfl ?_; rw [HTT.out]; exact ⟨rfl, ((((((D5.out.setCell (p := ⟨B1 + 1 + 1, 0, none⟩) (by have := HB1.out; show w.heap.size ≤ B1 + 1 + 1; omega) _).setCell (p := ⟨B1 + 1 + 1, 1, none⟩) (by have := HB1.out; show w.heap.size ≤ B1 + 1 + 1; omega) _).setCell (p := ⟨B1 + 1 + 1, 2, none⟩) (by have := HB1.out; show w.heap.size ≤ B1 + 1 + 1; omega) _).setCell (p := ⟨B1 + 1 + 1, 3, none⟩) (by have := HB1.out; show w.heap.size ≤ B1 + 1 + 1; omega) _).setCell (p := ⟨B1 + 1 + 1, 4, none⟩) (by have := HB1.out; show w.heap.size ≤ B1 + 1 + 1; omega) _).setCell (p := ⟨B1 + 1 + 1, 5, none⟩) (by have := HB1.out; show w.heap.size ≤ B1 + 1 + 1; omega) _)⟩
  have hvb : Hid (∀ w, Calls Tryz.prog 15 #[.agg #[.bool b.low.neg, .string b.low.num, .string b.low.den, .bool b.high.neg, .string b.high.num, .string b.high.den]] w (GivesB true w)) := Lib.hid (fun w => by have := refivalid_any b w; rwa [hb] at this)
  have ht2 : t = if okI (cutI a b) then (cutI a b, true) else (noI, false) := by rw [ht]; unfold meetI; rw [ha, hb]; rfl
  have hc1 : Hid (∀ w, Calls Tryz.prog 28 #[.agg #[.bool b.low.neg, .string b.low.num, .string b.low.den], .agg #[.bool a.low.neg, .string a.low.num, .string a.low.den]] w fun e w' => e = .returned (.int .i64 (cmpE b.low a.low)) ∧ Below w.heap.size w w') := Lib.hid (fun w => refcmp4_any b.low a.low w)
  have hc2 : Hid (∀ w, Calls Tryz.prog 28 #[.agg #[.bool b.high.neg, .string b.high.num, .string b.high.den], .agg #[.bool a.high.neg, .string a.high.num, .string a.high.den]] w fun e w' => e = .returned (.int .i64 (cmpE b.high a.high)) ∧ Below w.heap.size w w') := Lib.hid (fun w => refcmp4_any b.high a.high w)
  have hcut : cutI a b = ⟨if decide (0 < cmpE b.low a.low) then b.low else a.low, if decide (cmpE b.high a.high < 0) then b.high else a.high⟩ := by
    unfold cutI maxR minR; simp only [decide_eq_true_eq]
  rw [hcut] at ht2
  clear ht ha hb hcut
  generalize cmpE b.low a.low = c1 at *
  generalize cmpE b.high a.high = c2 at *
  rcases Bool.eq_false_or_eq_true (decide (0 < c1)) with h1 | h1 <;> rcases Bool.eq_false_or_eq_true (decide (c2 < 0)) with h2 | h2 <;> rw [h1, h2] at ht2 <;> have H1 := Lib.hid h1 <;> have H2 := Lib.hid h2 <;> clear h1 h2
  ·
    obtain ⟨m, hm⟩ : ∃ m : Iv, m = ⟨b.low, b.high⟩ := ⟨_, rfl⟩
    have ht3 : t = if okI m then (m, true) else (noI, false) := by rw [hm]; exact ht2
    clear ht2
    have HM := Lib.hid hm; clear hm
    have hvm : Hid (∀ w, Calls Tryz.prog 15 #[.agg #[.bool m.low.neg, .string m.low.num, .string m.low.den, .bool m.high.neg, .string m.high.num, .string m.high.den]] w (GivesB (okI m) w)) := Lib.hid (fun w => refivalid_any m w)
    rcases Bool.eq_false_or_eq_true (okI m) with ho | ho
    ·
      rw [ho] at hvm
      have HTT : Hid (t = (m, true)) := Lib.hid (by rw [ht3, ho]; rfl)
      clear ht3 ho
      go_enter Tryz.func13, Tryz.ntmps13
      go_wp2_with fail
      obtain ⟨B1, hB1⟩ : ∃ B, B = w.heap.size := ⟨_, rfl⟩
      obtain ⟨W1_0, hW1_0⟩ : ∃ W, W = w.alloc (Obj.cells #[Value.bool a.low.neg, Value.string a.low.num, Value.string a.low.den, Value.bool a.high.neg, Value.string a.high.num, Value.string a.high.den] 26) := ⟨_, rfl⟩
      have hb : Below w.heap.size w W1_0 := by rw [hW1_0]; exact (Below.refl _ _).alloc (Nat.le_refl _) _
      have hzW1_0 : w.heap.size = B1 := by rw [hB1]
      have hlW1_0 : IvAt (B1) a W1_0 := by rw [← hzW1_0, hW1_0]; exact ⟨heap_lastM _ _⟩
      have D1 := Lib.hid (D0.out.trans (hb.mono D0.out.size))
      clear hb
      have a_1 := Lib.hid hlW1_0
      clear hlW1_0
      obtain ⟨W1_1, hW1_1⟩ : ∃ W, W = W1_0.alloc (Obj.cells #[Value.bool b.low.neg, Value.string b.low.num, Value.string b.low.den, Value.bool b.high.neg, Value.string b.high.num, Value.string b.high.den] 26) := ⟨_, rfl⟩
      have hb : Below W1_0.heap.size W1_0 W1_1 := by rw [hW1_1]; exact (Below.refl _ _).alloc (Nat.le_refl _) _
      have hzW1_1 : W1_0.heap.size = B1 + 1 := by rw [hW1_0]; simp [hzW1_0]
      have hlW1_1 : IvAt (B1 + 1) b W1_1 := by rw [← hzW1_1, hW1_1]; exact ⟨heap_lastM _ _⟩
      have D2 := Lib.hid (D1.out.trans (hb.mono D1.out.size))
      have a_2 := Lib.hid (a_1.out.bel hb)
      clear D1 a_1
      clear hb
      have b_2 := Lib.hid hlW1_1
      clear hlW1_1
      obtain ⟨W1_2, hW1_2⟩ : ∃ W, W = W1_1.alloc (Obj.cells #[Value.bool false, Value.string ⟨#[]⟩, Value.string ⟨#[]⟩, Value.bool false, Value.string ⟨#[]⟩, Value.string ⟨#[]⟩] 26) := ⟨_, rfl⟩
      have hb : Below W1_1.heap.size W1_1 W1_2 := by rw [hW1_2]; exact (Below.refl _ _).alloc (Nat.le_refl _) _
      have hzW1_2 : W1_1.heap.size = B1 + 1 + 1 := by rw [hW1_1]; simp [hzW1_1]
      have hlW1_2 : IvAt (B1 + 1 + 1) noI W1_2 := by rw [← hzW1_2, hW1_2]; exact ⟨heap_lastM _ _⟩
      have D3 := Lib.hid (D2.out.trans (hb.mono D2.out.size))
      have a_3 := Lib.hid (a_2.out.bel hb)
      have b_3 := Lib.hid (b_2.out.bel hb)
      clear D2 a_2 b_2
      clear hb
      have z_3 := Lib.hid hlW1_2
      clear hlW1_2
      rw [← hW1_0]
      rw [← hW1_1]
      rw [← hW1_2]
      simp only [← hB1]
      clear hW1_0 hzW1_0
      clear hW1_1 hzW1_1
      clear hW1_2 hzW1_2
      have HB1 := Lib.hid hB1
      clear hB1
      have ac0 := a_3.out.c0
      have ac1 := a_3.out.c1
      have ac2 := a_3.out.c2
      have ac3 := a_3.out.c3
      have ac4 := a_3.out.c4
      have ac5 := a_3.out.c5
      have bc0 := b_3.out.c0
      have bc1 := b_3.out.c1
      have bc2 := b_3.out.c2
      have bc3 := b_3.out.c3
      have bc4 := b_3.out.c4
      have bc5 := b_3.out.c5
      go_wp2_with fail
      clear ac0 ac1 ac2 ac3 ac4 ac5 bc0 bc1 bc2 bc3 bc4 bc5
      refine (hva.out _).mono ?_
      rintro e v4 ⟨rfl, hb⟩
      have D4 := Lib.hid (D3.out.trans (hb.mono D3.out.size))
      have a_4 := Lib.hid (a_3.out.bel hb)
      have b_4 := Lib.hid (b_3.out.bel hb)
      have z_4 := Lib.hid (z_3.out.bel hb)
      clear D3 a_3 b_3 z_3
      clear hb
      have ac0 := a_4.out.c0
      have ac1 := a_4.out.c1
      have ac2 := a_4.out.c2
      have ac3 := a_4.out.c3
      have ac4 := a_4.out.c4
      have ac5 := a_4.out.c5
      have bc0 := b_4.out.c0
      have bc1 := b_4.out.c1
      have bc2 := b_4.out.c2
      have bc3 := b_4.out.c3
      have bc4 := b_4.out.c4
      have bc5 := b_4.out.c5
      go_wp2_with fail
      clear ac0 ac1 ac2 ac3 ac4 ac5 bc0 bc1 bc2 bc3 bc4 bc5
      refine (hvb.out _).mono ?_
      rintro e v5 ⟨rfl, hb⟩
      have D5 := Lib.hid (D4.out.trans (hb.mono D4.out.size))
      have a_5 := Lib.hid (a_4.out.bel hb)
      have b_5 := Lib.hid (b_4.out.bel hb)
      have z_5 := Lib.hid (z_4.out.bel hb)
      clear D4 a_4 b_4 z_4
      clear hb
      have ac0 := a_5.out.c0
      have ac1 := a_5.out.c1
      have ac2 := a_5.out.c2
      have ac3 := a_5.out.c3
      have ac4 := a_5.out.c4
      have ac5 := a_5.out.c5
      have bc0 := b_5.out.c0
      have bc1 := b_5.out.c1
      have bc2 := b_5.out.c2
      have bc3 := b_5.out.c3
      have bc4 := b_5.out.c4
      have bc5 := b_5.out.c5
      go_wp2_with fail
      clear ac0 ac1 ac2 ac3 ac4 ac5 bc0 bc1 bc2 bc3 bc4 bc5
      refine (hc1.out _).mono ?_
      rintro e v6 ⟨rfl, hb⟩
      have D6 := Lib.hid (D5.out.trans (hb.mono D5.out.size))
      have a_6 := Lib.hid (a_5.out.bel hb)
      have b_6 := Lib.hid (b_5.out.bel hb)
      have z_6 := Lib.hid (z_5.out.bel hb)
      clear D5 a_5 b_5 z_5
      clear hb
      have h1 := H1.out
      have ac0 := a_6.out.c0
      have af0 := a_6.out.fz 0
      have ac1 := a_6.out.c1
      have af1 := a_6.out.fz 1
      have ac2 := a_6.out.c2
      have af2 := a_6.out.fz 2
      have ac3 := a_6.out.c3
      have af3 := a_6.out.fz 3
      have ac4 := a_6.out.c4
      have af4 := a_6.out.fz 4
      have ac5 := a_6.out.c5
      have af5 := a_6.out.fz 5
      have bc0 := b_6.out.c0
      have bf0 := b_6.out.fz 0
      have bc1 := b_6.out.c1
      have bf1 := b_6.out.fz 1
      have bc2 := b_6.out.c2
      have bf2 := b_6.out.fz 2
      have bc3 := b_6.out.c3
      have bf3 := b_6.out.fz 3
      have bc4 := b_6.out.c4
      have bf4 := b_6.out.fz 4
      have bc5 := b_6.out.c5
      have bf5 := b_6.out.fz 5
      go_wp2_with fail
      clear ac0 af0 ac1 af1 ac2 af2 ac3 af3 ac4 af4 ac5 af5 bc0 bf0 bc1 bf1 bc2 bf2 bc3 bf3 bc4 bf4 bc5 bf5 h1
      obtain ⟨X7, hX7⟩ : ∃ W, W = (((v6).setCell ⟨B1, 0, none⟩ (.bool b.low.neg)).setCell ⟨B1, 1, none⟩ (.string b.low.num)).setCell ⟨B1, 2, none⟩ (.string b.low.den) := ⟨_, rfl⟩
      have D7 : Hid (Below w.heap.size w X7) := Lib.hid (by rw [hX7]; exact ((D6.out.setCell (p := ⟨B1, 0, none⟩) (by have := HB1.out; show w.heap.size ≤ B1; omega) _).setCell (p := ⟨B1, 1, none⟩) (by have := HB1.out; show w.heap.size ≤ B1; omega) _).setCell (p := ⟨B1, 2, none⟩) (by have := HB1.out; show w.heap.size ≤ B1; omega) _)
      have a_7 : Hid (IvAt (B1) (⟨b.low, (a).high⟩ : Iv) X7) := Lib.hid (by rw [hX7]; exact a_6.out.setLow b.low)
      have b_7 : Hid (IvAt (B1 + 1) b X7) := Lib.hid (by rw [hX7]; exact ((b_6.out.setOther (by omega) _).setOther (by omega) _).setOther (by omega) _)
      have z_7 : Hid (IvAt (B1 + 1 + 1) noI X7) := Lib.hid (by rw [hX7]; exact ((z_6.out.setOther (by omega) _).setOther (by omega) _).setOther (by omega) _)
      rw [← hX7]; clear D6 a_6 b_6 z_6; have HX7 := Lib.hid hX7; clear hX7
      refine (hc2.out _).mono ?_
      rintro e v8 ⟨rfl, hb⟩
      have D8 := Lib.hid (D7.out.trans (hb.mono D7.out.size))
      have a_8 := Lib.hid (a_7.out.bel hb)
      have b_8 := Lib.hid (b_7.out.bel hb)
      have z_8 := Lib.hid (z_7.out.bel hb)
      clear D7 a_7 b_7 z_7
      clear hb
      have h2 := H2.out
      have ac0 := a_8.out.c0
      have af0 := a_8.out.fz 0
      have ac1 := a_8.out.c1
      have af1 := a_8.out.fz 1
      have ac2 := a_8.out.c2
      have af2 := a_8.out.fz 2
      have ac3 := a_8.out.c3
      have af3 := a_8.out.fz 3
      have ac4 := a_8.out.c4
      have af4 := a_8.out.fz 4
      have ac5 := a_8.out.c5
      have af5 := a_8.out.fz 5
      have bc0 := b_8.out.c0
      have bf0 := b_8.out.fz 0
      have bc1 := b_8.out.c1
      have bf1 := b_8.out.fz 1
      have bc2 := b_8.out.c2
      have bf2 := b_8.out.fz 2
      have bc3 := b_8.out.c3
      have bf3 := b_8.out.fz 3
      have bc4 := b_8.out.c4
      have bf4 := b_8.out.fz 4
      have bc5 := b_8.out.c5
      have bf5 := b_8.out.fz 5
      go_wp2_with fail
      clear ac0 af0 ac1 af1 ac2 af2 ac3 af3 ac4 af4 ac5 af5 bc0 bf0 bc1 bf1 bc2 bf2 bc3 bf3 bc4 bf4 bc5 bf5 h2
      obtain ⟨X9, hX9⟩ : ∃ W, W = (((v8).setCell ⟨B1, 3, none⟩ (.bool b.high.neg)).setCell ⟨B1, 4, none⟩ (.string b.high.num)).setCell ⟨B1, 5, none⟩ (.string b.high.den) := ⟨_, rfl⟩
      have D9 : Hid (Below w.heap.size w X9) := Lib.hid (by rw [hX9]; exact ((D8.out.setCell (p := ⟨B1, 3, none⟩) (by have := HB1.out; show w.heap.size ≤ B1; omega) _).setCell (p := ⟨B1, 4, none⟩) (by have := HB1.out; show w.heap.size ≤ B1; omega) _).setCell (p := ⟨B1, 5, none⟩) (by have := HB1.out; show w.heap.size ≤ B1; omega) _)
      have a_9 : Hid (IvAt (B1) (⟨((⟨b.low, (a).high⟩ : Iv)).low, b.high⟩ : Iv) X9) := Lib.hid (by rw [hX9]; exact a_8.out.setHigh b.high)
      have b_9 : Hid (IvAt (B1 + 1) b X9) := Lib.hid (by rw [hX9]; exact ((b_8.out.setOther (by omega) _).setOther (by omega) _).setOther (by omega) _)
      have z_9 : Hid (IvAt (B1 + 1 + 1) noI X9) := Lib.hid (by rw [hX9]; exact ((z_8.out.setOther (by omega) _).setOther (by omega) _).setOther (by omega) _)
      rw [← hX9]; clear D8 a_8 b_8 z_8; have HX9 := Lib.hid hX9; clear hX9
      have hvm2 := hvm.out; rw [HM.out] at hvm2; have HVM := Lib.hid hvm2; clear hvm2
      refine (HVM.out _).mono ?_
      rintro e v10 ⟨rfl, hb⟩
      have D10 := Lib.hid (D9.out.trans (hb.mono D9.out.size))
      have a_10 := Lib.hid (a_9.out.bel hb)
      have b_10 := Lib.hid (b_9.out.bel hb)
      have z_10 := Lib.hid (z_9.out.bel hb)
      clear D9 a_9 b_9 z_9
      clear hb
      have ac0 := a_10.out.c0
      have ac1 := a_10.out.c1
      have ac2 := a_10.out.c2
      have ac3 := a_10.out.c3
      have ac4 := a_10.out.c4
      have ac5 := a_10.out.c5
      have zc0 := z_10.out.c0
      have zf0 := z_10.out.fz 0
      have zc1 := z_10.out.c1
      have zf1 := z_10.out.fz 1
      have zc2 := z_10.out.c2
      have zf2 := z_10.out.fz 2
      have zc3 := z_10.out.c3
      have zf3 := z_10.out.fz 3
      have zc4 := z_10.out.c4
      have zf4 := z_10.out.fz 4
      have zc5 := z_10.out.c5
      have zf5 := z_10.out.fz 5
      go_wp2_with fail
      (try simp only [Exit.inBlock, Exit.then])
      refine bodyPost_ret (results_iv rfl _ _ (B1 + 1 + 1) ⟨b.low, b.high⟩ _ rfl rfl (z_10.out.set ⟨b.low, b.high⟩)) rfl ?_; rw [HTT.out]; rw [HM.out]; exact ⟨rfl, ((((((D10.out.setCell (p := ⟨B1 + 1 + 1, 0, none⟩) (by have := HB1.out; show w.heap.size ≤ B1 + 1 + 1; omega) _).setCell (p := ⟨B1 + 1 + 1, 1, none⟩) (by have := HB1.out; show w.heap.size ≤ B1 + 1 + 1; omega) _).setCell (p := ⟨B1 + 1 + 1, 2, none⟩) (by have := HB1.out; show w.heap.size ≤ B1 + 1 + 1; omega) _).setCell (p := ⟨B1 + 1 + 1, 3, none⟩) (by have := HB1.out; show w.heap.size ≤ B1 + 1 + 1; omega) _).setCell (p := ⟨B1 + 1 + 1, 4, none⟩) (by have := HB1.out; show w.heap.size ≤ B1 + 1 + 1; omega) _).setCell (p := ⟨B1 + 1 + 1, 5, none⟩) (by have := HB1.out; show w.heap.size ≤ B1 + 1 + 1; omega) _)⟩
    ·
      rw [ho] at hvm
      have HTT : Hid (t = (noI, false)) := Lib.hid (by rw [ht3, ho]; rfl)
      clear ht3 ho
      go_enter Tryz.func13, Tryz.ntmps13
      go_wp2_with fail
      obtain ⟨B1, hB1⟩ : ∃ B, B = w.heap.size := ⟨_, rfl⟩
      obtain ⟨W1_0, hW1_0⟩ : ∃ W, W = w.alloc (Obj.cells #[Value.bool a.low.neg, Value.string a.low.num, Value.string a.low.den, Value.bool a.high.neg, Value.string a.high.num, Value.string a.high.den] 26) := ⟨_, rfl⟩
      have hb : Below w.heap.size w W1_0 := by rw [hW1_0]; exact (Below.refl _ _).alloc (Nat.le_refl _) _
      have hzW1_0 : w.heap.size = B1 := by rw [hB1]
      have hlW1_0 : IvAt (B1) a W1_0 := by rw [← hzW1_0, hW1_0]; exact ⟨heap_lastM _ _⟩
      have D1 := Lib.hid (D0.out.trans (hb.mono D0.out.size))
      clear hb
      have a_1 := Lib.hid hlW1_0
      clear hlW1_0
      obtain ⟨W1_1, hW1_1⟩ : ∃ W, W = W1_0.alloc (Obj.cells #[Value.bool b.low.neg, Value.string b.low.num, Value.string b.low.den, Value.bool b.high.neg, Value.string b.high.num, Value.string b.high.den] 26) := ⟨_, rfl⟩
      have hb : Below W1_0.heap.size W1_0 W1_1 := by rw [hW1_1]; exact (Below.refl _ _).alloc (Nat.le_refl _) _
      have hzW1_1 : W1_0.heap.size = B1 + 1 := by rw [hW1_0]; simp [hzW1_0]
      have hlW1_1 : IvAt (B1 + 1) b W1_1 := by rw [← hzW1_1, hW1_1]; exact ⟨heap_lastM _ _⟩
      have D2 := Lib.hid (D1.out.trans (hb.mono D1.out.size))
      have a_2 := Lib.hid (a_1.out.bel hb)
      clear D1 a_1
      clear hb
      have b_2 := Lib.hid hlW1_1
      clear hlW1_1
      obtain ⟨W1_2, hW1_2⟩ : ∃ W, W = W1_1.alloc (Obj.cells #[Value.bool false, Value.string ⟨#[]⟩, Value.string ⟨#[]⟩, Value.bool false, Value.string ⟨#[]⟩, Value.string ⟨#[]⟩] 26) := ⟨_, rfl⟩
      have hb : Below W1_1.heap.size W1_1 W1_2 := by rw [hW1_2]; exact (Below.refl _ _).alloc (Nat.le_refl _) _
      have hzW1_2 : W1_1.heap.size = B1 + 1 + 1 := by rw [hW1_1]; simp [hzW1_1]
      have hlW1_2 : IvAt (B1 + 1 + 1) noI W1_2 := by rw [← hzW1_2, hW1_2]; exact ⟨heap_lastM _ _⟩
      have D3 := Lib.hid (D2.out.trans (hb.mono D2.out.size))
      have a_3 := Lib.hid (a_2.out.bel hb)
      have b_3 := Lib.hid (b_2.out.bel hb)
      clear D2 a_2 b_2
      clear hb
      have z_3 := Lib.hid hlW1_2
      clear hlW1_2
      rw [← hW1_0]
      rw [← hW1_1]
      rw [← hW1_2]
      simp only [← hB1]
      clear hW1_0 hzW1_0
      clear hW1_1 hzW1_1
      clear hW1_2 hzW1_2
      have HB1 := Lib.hid hB1
      clear hB1
      have ac0 := a_3.out.c0
      have ac1 := a_3.out.c1
      have ac2 := a_3.out.c2
      have ac3 := a_3.out.c3
      have ac4 := a_3.out.c4
      have ac5 := a_3.out.c5
      have bc0 := b_3.out.c0
      have bc1 := b_3.out.c1
      have bc2 := b_3.out.c2
      have bc3 := b_3.out.c3
      have bc4 := b_3.out.c4
      have bc5 := b_3.out.c5
      go_wp2_with fail
      clear ac0 ac1 ac2 ac3 ac4 ac5 bc0 bc1 bc2 bc3 bc4 bc5
      refine (hva.out _).mono ?_
      rintro e v4 ⟨rfl, hb⟩
      have D4 := Lib.hid (D3.out.trans (hb.mono D3.out.size))
      have a_4 := Lib.hid (a_3.out.bel hb)
      have b_4 := Lib.hid (b_3.out.bel hb)
      have z_4 := Lib.hid (z_3.out.bel hb)
      clear D3 a_3 b_3 z_3
      clear hb
      have ac0 := a_4.out.c0
      have ac1 := a_4.out.c1
      have ac2 := a_4.out.c2
      have ac3 := a_4.out.c3
      have ac4 := a_4.out.c4
      have ac5 := a_4.out.c5
      have bc0 := b_4.out.c0
      have bc1 := b_4.out.c1
      have bc2 := b_4.out.c2
      have bc3 := b_4.out.c3
      have bc4 := b_4.out.c4
      have bc5 := b_4.out.c5
      go_wp2_with fail
      clear ac0 ac1 ac2 ac3 ac4 ac5 bc0 bc1 bc2 bc3 bc4 bc5
      refine (hvb.out _).mono ?_
      rintro e v5 ⟨rfl, hb⟩
      have D5 := Lib.hid (D4.out.trans (hb.mono D4.out.size))
      have a_5 := Lib.hid (a_4.out.bel hb)
      have b_5 := Lib.hid (b_4.out.bel hb)
      have z_5 := Lib.hid (z_4.out.bel hb)
      clear D4 a_4 b_4 z_4
      clear hb
      have ac0 := a_5.out.c0
      have ac1 := a_5.out.c1
      have ac2 := a_5.out.c2
      have ac3 := a_5.out.c3
      have ac4 := a_5.out.c4
      have ac5 := a_5.out.c5
      have bc0 := b_5.out.c0
      have bc1 := b_5.out.c1
      have bc2 := b_5.out.c2
      have bc3 := b_5.out.c3
      have bc4 := b_5.out.c4
      have bc5 := b_5.out.c5
      go_wp2_with fail
      clear ac0 ac1 ac2 ac3 ac4 ac5 bc0 bc1 bc2 bc3 bc4 bc5
      refine (hc1.out _).mono ?_
      rintro e v6 ⟨rfl, hb⟩
      have D6 := Lib.hid (D5.out.trans (hb.mono D5.out.size))
      have a_6 := Lib.hid (a_5.out.bel hb)
      have b_6 := Lib.hid (b_5.out.bel hb)
      have z_6 := Lib.hid (z_5.out.bel hb)
      clear D5 a_5 b_5 z_5
      clear hb
      have h1 := H1.out
      have ac0 := a_6.out.c0
      have af0 := a_6.out.fz 0
      have ac1 := a_6.out.c1
      have af1 := a_6.out.fz 1
      have ac2 := a_6.out.c2
      have af2 := a_6.out.fz 2
      have ac3 := a_6.out.c3
      have af3 := a_6.out.fz 3
      have ac4 := a_6.out.c4
      have af4 := a_6.out.fz 4
      have ac5 := a_6.out.c5
      have af5 := a_6.out.fz 5
      have bc0 := b_6.out.c0
      have bf0 := b_6.out.fz 0
      have bc1 := b_6.out.c1
      have bf1 := b_6.out.fz 1
      have bc2 := b_6.out.c2
      have bf2 := b_6.out.fz 2
      have bc3 := b_6.out.c3
      have bf3 := b_6.out.fz 3
      have bc4 := b_6.out.c4
      have bf4 := b_6.out.fz 4
      have bc5 := b_6.out.c5
      have bf5 := b_6.out.fz 5
      go_wp2_with fail
      clear ac0 af0 ac1 af1 ac2 af2 ac3 af3 ac4 af4 ac5 af5 bc0 bf0 bc1 bf1 bc2 bf2 bc3 bf3 bc4 bf4 bc5 bf5 h1
      obtain ⟨X7, hX7⟩ : ∃ W, W = (((v6).setCell ⟨B1, 0, none⟩ (.bool b.low.neg)).setCell ⟨B1, 1, none⟩ (.string b.low.num)).setCell ⟨B1, 2, none⟩ (.string b.low.den) := ⟨_, rfl⟩
      have D7 : Hid (Below w.heap.size w X7) := Lib.hid (by rw [hX7]; exact ((D6.out.setCell (p := ⟨B1, 0, none⟩) (by have := HB1.out; show w.heap.size ≤ B1; omega) _).setCell (p := ⟨B1, 1, none⟩) (by have := HB1.out; show w.heap.size ≤ B1; omega) _).setCell (p := ⟨B1, 2, none⟩) (by have := HB1.out; show w.heap.size ≤ B1; omega) _)
      have a_7 : Hid (IvAt (B1) (⟨b.low, (a).high⟩ : Iv) X7) := Lib.hid (by rw [hX7]; exact a_6.out.setLow b.low)
      have b_7 : Hid (IvAt (B1 + 1) b X7) := Lib.hid (by rw [hX7]; exact ((b_6.out.setOther (by omega) _).setOther (by omega) _).setOther (by omega) _)
      have z_7 : Hid (IvAt (B1 + 1 + 1) noI X7) := Lib.hid (by rw [hX7]; exact ((z_6.out.setOther (by omega) _).setOther (by omega) _).setOther (by omega) _)
      rw [← hX7]; clear D6 a_6 b_6 z_6; have HX7 := Lib.hid hX7; clear hX7
      refine (hc2.out _).mono ?_
      rintro e v8 ⟨rfl, hb⟩
      have D8 := Lib.hid (D7.out.trans (hb.mono D7.out.size))
      have a_8 := Lib.hid (a_7.out.bel hb)
      have b_8 := Lib.hid (b_7.out.bel hb)
      have z_8 := Lib.hid (z_7.out.bel hb)
      clear D7 a_7 b_7 z_7
      clear hb
      have h2 := H2.out
      have ac0 := a_8.out.c0
      have af0 := a_8.out.fz 0
      have ac1 := a_8.out.c1
      have af1 := a_8.out.fz 1
      have ac2 := a_8.out.c2
      have af2 := a_8.out.fz 2
      have ac3 := a_8.out.c3
      have af3 := a_8.out.fz 3
      have ac4 := a_8.out.c4
      have af4 := a_8.out.fz 4
      have ac5 := a_8.out.c5
      have af5 := a_8.out.fz 5
      have bc0 := b_8.out.c0
      have bf0 := b_8.out.fz 0
      have bc1 := b_8.out.c1
      have bf1 := b_8.out.fz 1
      have bc2 := b_8.out.c2
      have bf2 := b_8.out.fz 2
      have bc3 := b_8.out.c3
      have bf3 := b_8.out.fz 3
      have bc4 := b_8.out.c4
      have bf4 := b_8.out.fz 4
      have bc5 := b_8.out.c5
      have bf5 := b_8.out.fz 5
      go_wp2_with fail
      clear ac0 af0 ac1 af1 ac2 af2 ac3 af3 ac4 af4 ac5 af5 bc0 bf0 bc1 bf1 bc2 bf2 bc3 bf3 bc4 bf4 bc5 bf5 h2
      obtain ⟨X9, hX9⟩ : ∃ W, W = (((v8).setCell ⟨B1, 3, none⟩ (.bool b.high.neg)).setCell ⟨B1, 4, none⟩ (.string b.high.num)).setCell ⟨B1, 5, none⟩ (.string b.high.den) := ⟨_, rfl⟩
      have D9 : Hid (Below w.heap.size w X9) := Lib.hid (by rw [hX9]; exact ((D8.out.setCell (p := ⟨B1, 3, none⟩) (by have := HB1.out; show w.heap.size ≤ B1; omega) _).setCell (p := ⟨B1, 4, none⟩) (by have := HB1.out; show w.heap.size ≤ B1; omega) _).setCell (p := ⟨B1, 5, none⟩) (by have := HB1.out; show w.heap.size ≤ B1; omega) _)
      have a_9 : Hid (IvAt (B1) (⟨((⟨b.low, (a).high⟩ : Iv)).low, b.high⟩ : Iv) X9) := Lib.hid (by rw [hX9]; exact a_8.out.setHigh b.high)
      have b_9 : Hid (IvAt (B1 + 1) b X9) := Lib.hid (by rw [hX9]; exact ((b_8.out.setOther (by omega) _).setOther (by omega) _).setOther (by omega) _)
      have z_9 : Hid (IvAt (B1 + 1 + 1) noI X9) := Lib.hid (by rw [hX9]; exact ((z_8.out.setOther (by omega) _).setOther (by omega) _).setOther (by omega) _)
      rw [← hX9]; clear D8 a_8 b_8 z_8; have HX9 := Lib.hid hX9; clear hX9
      have hvm2 := hvm.out; rw [HM.out] at hvm2; have HVM := Lib.hid hvm2; clear hvm2
      refine (HVM.out _).mono ?_
      rintro e v10 ⟨rfl, hb⟩
      have D10 := Lib.hid (D9.out.trans (hb.mono D9.out.size))
      have a_10 := Lib.hid (a_9.out.bel hb)
      have b_10 := Lib.hid (b_9.out.bel hb)
      have z_10 := Lib.hid (z_9.out.bel hb)
      clear D9 a_9 b_9 z_9
      clear hb
      have ac0 := a_10.out.c0
      have ac1 := a_10.out.c1
      have ac2 := a_10.out.c2
      have ac3 := a_10.out.c3
      have ac4 := a_10.out.c4
      have ac5 := a_10.out.c5
      have zc0 := z_10.out.c0
      have zf0 := z_10.out.fz 0
      have zc1 := z_10.out.c1
      have zf1 := z_10.out.fz 1
      have zc2 := z_10.out.c2
      have zf2 := z_10.out.fz 2
      have zc3 := z_10.out.c3
      have zf3 := z_10.out.fz 3
      have zc4 := z_10.out.c4
      have zf4 := z_10.out.fz 4
      have zc5 := z_10.out.c5
      have zf5 := z_10.out.fz 5
      go_wp2_with fail
      (try simp only [Exit.inBlock, Exit.then])
      refine bodyPost_ret (results_iv rfl _ _ (B1 + 1 + 1) noI _ rfl rfl (z_10.out.set noI)) rfl ?_; rw [HTT.out]; exact ⟨rfl, ((((((D10.out.setCell (p := ⟨B1 + 1 + 1, 0, none⟩) (by have := HB1.out; show w.heap.size ≤ B1 + 1 + 1; omega) _).setCell (p := ⟨B1 + 1 + 1, 1, none⟩) (by have := HB1.out; show w.heap.size ≤ B1 + 1 + 1; omega) _).setCell (p := ⟨B1 + 1 + 1, 2, none⟩) (by have := HB1.out; show w.heap.size ≤ B1 + 1 + 1; omega) _).setCell (p := ⟨B1 + 1 + 1, 3, none⟩) (by have := HB1.out; show w.heap.size ≤ B1 + 1 + 1; omega) _).setCell (p := ⟨B1 + 1 + 1, 4, none⟩) (by have := HB1.out; show w.heap.size ≤ B1 + 1 + 1; omega) _).setCell (p := ⟨B1 + 1 + 1, 5, none⟩) (by have := HB1.out; show w.heap.size ≤ B1 + 1 + 1; omega) _)⟩
  ·
    obtain ⟨m, hm⟩ : ∃ m : Iv, m = ⟨b.low, a.high⟩ := ⟨_, rfl⟩
    have ht3 : t = if okI m then (m, true) else (noI, false) := by rw [hm]; exact ht2
    clear ht2
    have HM := Lib.hid hm; clear hm
    have hvm : Hid (∀ w, Calls Tryz.prog 15 #[.agg #[.bool m.low.neg, .string m.low.num, .string m.low.den, .bool m.high.neg, .string m.high.num, .string m.high.den]] w (GivesB (okI m) w)) := Lib.hid (fun w => refivalid_any m w)
    rcases Bool.eq_false_or_eq_true (okI m) with ho | ho
    ·
      rw [ho] at hvm
      have HTT : Hid (t = (m, true)) := Lib.hid (by rw [ht3, ho]; rfl)
      clear ht3 ho
      go_enter Tryz.func13, Tryz.ntmps13
      go_wp2_with fail
      obtain ⟨B1, hB1⟩ : ∃ B, B = w.heap.size := ⟨_, rfl⟩
      obtain ⟨W1_0, hW1_0⟩ : ∃ W, W = w.alloc (Obj.cells #[Value.bool a.low.neg, Value.string a.low.num, Value.string a.low.den, Value.bool a.high.neg, Value.string a.high.num, Value.string a.high.den] 26) := ⟨_, rfl⟩
      have hb : Below w.heap.size w W1_0 := by rw [hW1_0]; exact (Below.refl _ _).alloc (Nat.le_refl _) _
      have hzW1_0 : w.heap.size = B1 := by rw [hB1]
      have hlW1_0 : IvAt (B1) a W1_0 := by rw [← hzW1_0, hW1_0]; exact ⟨heap_lastM _ _⟩
      have D1 := Lib.hid (D0.out.trans (hb.mono D0.out.size))
      clear hb
      have a_1 := Lib.hid hlW1_0
      clear hlW1_0
      obtain ⟨W1_1, hW1_1⟩ : ∃ W, W = W1_0.alloc (Obj.cells #[Value.bool b.low.neg, Value.string b.low.num, Value.string b.low.den, Value.bool b.high.neg, Value.string b.high.num, Value.string b.high.den] 26) := ⟨_, rfl⟩
      have hb : Below W1_0.heap.size W1_0 W1_1 := by rw [hW1_1]; exact (Below.refl _ _).alloc (Nat.le_refl _) _
      have hzW1_1 : W1_0.heap.size = B1 + 1 := by rw [hW1_0]; simp [hzW1_0]
      have hlW1_1 : IvAt (B1 + 1) b W1_1 := by rw [← hzW1_1, hW1_1]; exact ⟨heap_lastM _ _⟩
      have D2 := Lib.hid (D1.out.trans (hb.mono D1.out.size))
      have a_2 := Lib.hid (a_1.out.bel hb)
      clear D1 a_1
      clear hb
      have b_2 := Lib.hid hlW1_1
      clear hlW1_1
      obtain ⟨W1_2, hW1_2⟩ : ∃ W, W = W1_1.alloc (Obj.cells #[Value.bool false, Value.string ⟨#[]⟩, Value.string ⟨#[]⟩, Value.bool false, Value.string ⟨#[]⟩, Value.string ⟨#[]⟩] 26) := ⟨_, rfl⟩
      have hb : Below W1_1.heap.size W1_1 W1_2 := by rw [hW1_2]; exact (Below.refl _ _).alloc (Nat.le_refl _) _
      have hzW1_2 : W1_1.heap.size = B1 + 1 + 1 := by rw [hW1_1]; simp [hzW1_1]
      have hlW1_2 : IvAt (B1 + 1 + 1) noI W1_2 := by rw [← hzW1_2, hW1_2]; exact ⟨heap_lastM _ _⟩
      have D3 := Lib.hid (D2.out.trans (hb.mono D2.out.size))
      have a_3 := Lib.hid (a_2.out.bel hb)
      have b_3 := Lib.hid (b_2.out.bel hb)
      clear D2 a_2 b_2
      clear hb
      have z_3 := Lib.hid hlW1_2
      clear hlW1_2
      rw [← hW1_0]
      rw [← hW1_1]
      rw [← hW1_2]
      simp only [← hB1]
      clear hW1_0 hzW1_0
      clear hW1_1 hzW1_1
      clear hW1_2 hzW1_2
      have HB1 := Lib.hid hB1
      clear hB1
      have ac0 := a_3.out.c0
      have ac1 := a_3.out.c1
      have ac2 := a_3.out.c2
      have ac3 := a_3.out.c3
      have ac4 := a_3.out.c4
      have ac5 := a_3.out.c5
      have bc0 := b_3.out.c0
      have bc1 := b_3.out.c1
      have bc2 := b_3.out.c2
      have bc3 := b_3.out.c3
      have bc4 := b_3.out.c4
      have bc5 := b_3.out.c5
      go_wp2_with fail
      clear ac0 ac1 ac2 ac3 ac4 ac5 bc0 bc1 bc2 bc3 bc4 bc5
      refine (hva.out _).mono ?_
      rintro e v4 ⟨rfl, hb⟩
      have D4 := Lib.hid (D3.out.trans (hb.mono D3.out.size))
      have a_4 := Lib.hid (a_3.out.bel hb)
      have b_4 := Lib.hid (b_3.out.bel hb)
      have z_4 := Lib.hid (z_3.out.bel hb)
      clear D3 a_3 b_3 z_3
      clear hb
      have ac0 := a_4.out.c0
      have ac1 := a_4.out.c1
      have ac2 := a_4.out.c2
      have ac3 := a_4.out.c3
      have ac4 := a_4.out.c4
      have ac5 := a_4.out.c5
      have bc0 := b_4.out.c0
      have bc1 := b_4.out.c1
      have bc2 := b_4.out.c2
      have bc3 := b_4.out.c3
      have bc4 := b_4.out.c4
      have bc5 := b_4.out.c5
      go_wp2_with fail
      clear ac0 ac1 ac2 ac3 ac4 ac5 bc0 bc1 bc2 bc3 bc4 bc5
      refine (hvb.out _).mono ?_
      rintro e v5 ⟨rfl, hb⟩
      have D5 := Lib.hid (D4.out.trans (hb.mono D4.out.size))
      have a_5 := Lib.hid (a_4.out.bel hb)
      have b_5 := Lib.hid (b_4.out.bel hb)
      have z_5 := Lib.hid (z_4.out.bel hb)
      clear D4 a_4 b_4 z_4
      clear hb
      have ac0 := a_5.out.c0
      have ac1 := a_5.out.c1
      have ac2 := a_5.out.c2
      have ac3 := a_5.out.c3
      have ac4 := a_5.out.c4
      have ac5 := a_5.out.c5
      have bc0 := b_5.out.c0
      have bc1 := b_5.out.c1
      have bc2 := b_5.out.c2
      have bc3 := b_5.out.c3
      have bc4 := b_5.out.c4
      have bc5 := b_5.out.c5
      go_wp2_with fail
      clear ac0 ac1 ac2 ac3 ac4 ac5 bc0 bc1 bc2 bc3 bc4 bc5
      refine (hc1.out _).mono ?_
      rintro e v6 ⟨rfl, hb⟩
      have D6 := Lib.hid (D5.out.trans (hb.mono D5.out.size))
      have a_6 := Lib.hid (a_5.out.bel hb)
      have b_6 := Lib.hid (b_5.out.bel hb)
      have z_6 := Lib.hid (z_5.out.bel hb)
      clear D5 a_5 b_5 z_5
      clear hb
      have h1 := H1.out
      have ac0 := a_6.out.c0
      have af0 := a_6.out.fz 0
      have ac1 := a_6.out.c1
      have af1 := a_6.out.fz 1
      have ac2 := a_6.out.c2
      have af2 := a_6.out.fz 2
      have ac3 := a_6.out.c3
      have af3 := a_6.out.fz 3
      have ac4 := a_6.out.c4
      have af4 := a_6.out.fz 4
      have ac5 := a_6.out.c5
      have af5 := a_6.out.fz 5
      have bc0 := b_6.out.c0
      have bf0 := b_6.out.fz 0
      have bc1 := b_6.out.c1
      have bf1 := b_6.out.fz 1
      have bc2 := b_6.out.c2
      have bf2 := b_6.out.fz 2
      have bc3 := b_6.out.c3
      have bf3 := b_6.out.fz 3
      have bc4 := b_6.out.c4
      have bf4 := b_6.out.fz 4
      have bc5 := b_6.out.c5
      have bf5 := b_6.out.fz 5
      go_wp2_with fail
      clear ac0 af0 ac1 af1 ac2 af2 ac3 af3 ac4 af4 ac5 af5 bc0 bf0 bc1 bf1 bc2 bf2 bc3 bf3 bc4 bf4 bc5 bf5 h1
      obtain ⟨X7, hX7⟩ : ∃ W, W = (((v6).setCell ⟨B1, 0, none⟩ (.bool b.low.neg)).setCell ⟨B1, 1, none⟩ (.string b.low.num)).setCell ⟨B1, 2, none⟩ (.string b.low.den) := ⟨_, rfl⟩
      have D7 : Hid (Below w.heap.size w X7) := Lib.hid (by rw [hX7]; exact ((D6.out.setCell (p := ⟨B1, 0, none⟩) (by have := HB1.out; show w.heap.size ≤ B1; omega) _).setCell (p := ⟨B1, 1, none⟩) (by have := HB1.out; show w.heap.size ≤ B1; omega) _).setCell (p := ⟨B1, 2, none⟩) (by have := HB1.out; show w.heap.size ≤ B1; omega) _)
      have a_7 : Hid (IvAt (B1) (⟨b.low, (a).high⟩ : Iv) X7) := Lib.hid (by rw [hX7]; exact a_6.out.setLow b.low)
      have b_7 : Hid (IvAt (B1 + 1) b X7) := Lib.hid (by rw [hX7]; exact ((b_6.out.setOther (by omega) _).setOther (by omega) _).setOther (by omega) _)
      have z_7 : Hid (IvAt (B1 + 1 + 1) noI X7) := Lib.hid (by rw [hX7]; exact ((z_6.out.setOther (by omega) _).setOther (by omega) _).setOther (by omega) _)
      rw [← hX7]; clear D6 a_6 b_6 z_6; have HX7 := Lib.hid hX7; clear hX7
      refine (hc2.out _).mono ?_
      rintro e v8 ⟨rfl, hb⟩
      have D8 := Lib.hid (D7.out.trans (hb.mono D7.out.size))
      have a_8 := Lib.hid (a_7.out.bel hb)
      have b_8 := Lib.hid (b_7.out.bel hb)
      have z_8 := Lib.hid (z_7.out.bel hb)
      clear D7 a_7 b_7 z_7
      clear hb
      have h2 := H2.out
      have ac0 := a_8.out.c0
      have af0 := a_8.out.fz 0
      have ac1 := a_8.out.c1
      have af1 := a_8.out.fz 1
      have ac2 := a_8.out.c2
      have af2 := a_8.out.fz 2
      have ac3 := a_8.out.c3
      have af3 := a_8.out.fz 3
      have ac4 := a_8.out.c4
      have af4 := a_8.out.fz 4
      have ac5 := a_8.out.c5
      have af5 := a_8.out.fz 5
      have bc0 := b_8.out.c0
      have bf0 := b_8.out.fz 0
      have bc1 := b_8.out.c1
      have bf1 := b_8.out.fz 1
      have bc2 := b_8.out.c2
      have bf2 := b_8.out.fz 2
      have bc3 := b_8.out.c3
      have bf3 := b_8.out.fz 3
      have bc4 := b_8.out.c4
      have bf4 := b_8.out.fz 4
      have bc5 := b_8.out.c5
      have bf5 := b_8.out.fz 5
      go_wp2_with fail
      clear ac0 af0 ac1 af1 ac2 af2 ac3 af3 ac4 af4 ac5 af5 bc0 bf0 bc1 bf1 bc2 bf2 bc3 bf3 bc4 bf4 bc5 bf5 h2
      have hvm2 := hvm.out; rw [HM.out] at hvm2; have HVM := Lib.hid hvm2; clear hvm2
      refine (HVM.out _).mono ?_
      rintro e v9 ⟨rfl, hb⟩
      have D9 := Lib.hid (D8.out.trans (hb.mono D8.out.size))
      have a_9 := Lib.hid (a_8.out.bel hb)
      have b_9 := Lib.hid (b_8.out.bel hb)
      have z_9 := Lib.hid (z_8.out.bel hb)
      clear D8 a_8 b_8 z_8
      clear hb
      have ac0 := a_9.out.c0
      have ac1 := a_9.out.c1
      have ac2 := a_9.out.c2
      have ac3 := a_9.out.c3
      have ac4 := a_9.out.c4
      have ac5 := a_9.out.c5
      have zc0 := z_9.out.c0
      have zf0 := z_9.out.fz 0
      have zc1 := z_9.out.c1
      have zf1 := z_9.out.fz 1
      have zc2 := z_9.out.c2
      have zf2 := z_9.out.fz 2
      have zc3 := z_9.out.c3
      have zf3 := z_9.out.fz 3
      have zc4 := z_9.out.c4
      have zf4 := z_9.out.fz 4
      have zc5 := z_9.out.c5
      have zf5 := z_9.out.fz 5
      go_wp2_with fail
      (try simp only [Exit.inBlock, Exit.then])
      refine bodyPost_ret (results_iv rfl _ _ (B1 + 1 + 1) ⟨b.low, a.high⟩ _ rfl rfl (z_9.out.set ⟨b.low, a.high⟩)) rfl ?_; rw [HTT.out]; rw [HM.out]; exact ⟨rfl, ((((((D9.out.setCell (p := ⟨B1 + 1 + 1, 0, none⟩) (by have := HB1.out; show w.heap.size ≤ B1 + 1 + 1; omega) _).setCell (p := ⟨B1 + 1 + 1, 1, none⟩) (by have := HB1.out; show w.heap.size ≤ B1 + 1 + 1; omega) _).setCell (p := ⟨B1 + 1 + 1, 2, none⟩) (by have := HB1.out; show w.heap.size ≤ B1 + 1 + 1; omega) _).setCell (p := ⟨B1 + 1 + 1, 3, none⟩) (by have := HB1.out; show w.heap.size ≤ B1 + 1 + 1; omega) _).setCell (p := ⟨B1 + 1 + 1, 4, none⟩) (by have := HB1.out; show w.heap.size ≤ B1 + 1 + 1; omega) _).setCell (p := ⟨B1 + 1 + 1, 5, none⟩) (by have := HB1.out; show w.heap.size ≤ B1 + 1 + 1; omega) _)⟩
    ·
      rw [ho] at hvm
      have HTT : Hid (t = (noI, false)) := Lib.hid (by rw [ht3, ho]; rfl)
      clear ht3 ho
      go_enter Tryz.func13, Tryz.ntmps13
      go_wp2_with fail
      obtain ⟨B1, hB1⟩ : ∃ B, B = w.heap.size := ⟨_, rfl⟩
      obtain ⟨W1_0, hW1_0⟩ : ∃ W, W = w.alloc (Obj.cells #[Value.bool a.low.neg, Value.string a.low.num, Value.string a.low.den, Value.bool a.high.neg, Value.string a.high.num, Value.string a.high.den] 26) := ⟨_, rfl⟩
      have hb : Below w.heap.size w W1_0 := by rw [hW1_0]; exact (Below.refl _ _).alloc (Nat.le_refl _) _
      have hzW1_0 : w.heap.size = B1 := by rw [hB1]
      have hlW1_0 : IvAt (B1) a W1_0 := by rw [← hzW1_0, hW1_0]; exact ⟨heap_lastM _ _⟩
      have D1 := Lib.hid (D0.out.trans (hb.mono D0.out.size))
      clear hb
      have a_1 := Lib.hid hlW1_0
      clear hlW1_0
      obtain ⟨W1_1, hW1_1⟩ : ∃ W, W = W1_0.alloc (Obj.cells #[Value.bool b.low.neg, Value.string b.low.num, Value.string b.low.den, Value.bool b.high.neg, Value.string b.high.num, Value.string b.high.den] 26) := ⟨_, rfl⟩
      have hb : Below W1_0.heap.size W1_0 W1_1 := by rw [hW1_1]; exact (Below.refl _ _).alloc (Nat.le_refl _) _
      have hzW1_1 : W1_0.heap.size = B1 + 1 := by rw [hW1_0]; simp [hzW1_0]
      have hlW1_1 : IvAt (B1 + 1) b W1_1 := by rw [← hzW1_1, hW1_1]; exact ⟨heap_lastM _ _⟩
      have D2 := Lib.hid (D1.out.trans (hb.mono D1.out.size))
      have a_2 := Lib.hid (a_1.out.bel hb)
      clear D1 a_1
      clear hb
      have b_2 := Lib.hid hlW1_1
      clear hlW1_1
      obtain ⟨W1_2, hW1_2⟩ : ∃ W, W = W1_1.alloc (Obj.cells #[Value.bool false, Value.string ⟨#[]⟩, Value.string ⟨#[]⟩, Value.bool false, Value.string ⟨#[]⟩, Value.string ⟨#[]⟩] 26) := ⟨_, rfl⟩
      have hb : Below W1_1.heap.size W1_1 W1_2 := by rw [hW1_2]; exact (Below.refl _ _).alloc (Nat.le_refl _) _
      have hzW1_2 : W1_1.heap.size = B1 + 1 + 1 := by rw [hW1_1]; simp [hzW1_1]
      have hlW1_2 : IvAt (B1 + 1 + 1) noI W1_2 := by rw [← hzW1_2, hW1_2]; exact ⟨heap_lastM _ _⟩
      have D3 := Lib.hid (D2.out.trans (hb.mono D2.out.size))
      have a_3 := Lib.hid (a_2.out.bel hb)
      have b_3 := Lib.hid (b_2.out.bel hb)
      clear D2 a_2 b_2
      clear hb
      have z_3 := Lib.hid hlW1_2
      clear hlW1_2
      rw [← hW1_0]
      rw [← hW1_1]
      rw [← hW1_2]
      simp only [← hB1]
      clear hW1_0 hzW1_0
      clear hW1_1 hzW1_1
      clear hW1_2 hzW1_2
      have HB1 := Lib.hid hB1
      clear hB1
      have ac0 := a_3.out.c0
      have ac1 := a_3.out.c1
      have ac2 := a_3.out.c2
      have ac3 := a_3.out.c3
      have ac4 := a_3.out.c4
      have ac5 := a_3.out.c5
      have bc0 := b_3.out.c0
      have bc1 := b_3.out.c1
      have bc2 := b_3.out.c2
      have bc3 := b_3.out.c3
      have bc4 := b_3.out.c4
      have bc5 := b_3.out.c5
      go_wp2_with fail
      clear ac0 ac1 ac2 ac3 ac4 ac5 bc0 bc1 bc2 bc3 bc4 bc5
      refine (hva.out _).mono ?_
      rintro e v4 ⟨rfl, hb⟩
      have D4 := Lib.hid (D3.out.trans (hb.mono D3.out.size))
      have a_4 := Lib.hid (a_3.out.bel hb)
      have b_4 := Lib.hid (b_3.out.bel hb)
      have z_4 := Lib.hid (z_3.out.bel hb)
      clear D3 a_3 b_3 z_3
      clear hb
      have ac0 := a_4.out.c0
      have ac1 := a_4.out.c1
      have ac2 := a_4.out.c2
      have ac3 := a_4.out.c3
      have ac4 := a_4.out.c4
      have ac5 := a_4.out.c5
      have bc0 := b_4.out.c0
      have bc1 := b_4.out.c1
      have bc2 := b_4.out.c2
      have bc3 := b_4.out.c3
      have bc4 := b_4.out.c4
      have bc5 := b_4.out.c5
      go_wp2_with fail
      clear ac0 ac1 ac2 ac3 ac4 ac5 bc0 bc1 bc2 bc3 bc4 bc5
      refine (hvb.out _).mono ?_
      rintro e v5 ⟨rfl, hb⟩
      have D5 := Lib.hid (D4.out.trans (hb.mono D4.out.size))
      have a_5 := Lib.hid (a_4.out.bel hb)
      have b_5 := Lib.hid (b_4.out.bel hb)
      have z_5 := Lib.hid (z_4.out.bel hb)
      clear D4 a_4 b_4 z_4
      clear hb
      have ac0 := a_5.out.c0
      have ac1 := a_5.out.c1
      have ac2 := a_5.out.c2
      have ac3 := a_5.out.c3
      have ac4 := a_5.out.c4
      have ac5 := a_5.out.c5
      have bc0 := b_5.out.c0
      have bc1 := b_5.out.c1
      have bc2 := b_5.out.c2
      have bc3 := b_5.out.c3
      have bc4 := b_5.out.c4
      have bc5 := b_5.out.c5
      go_wp2_with fail
      clear ac0 ac1 ac2 ac3 ac4 ac5 bc0 bc1 bc2 bc3 bc4 bc5
      refine (hc1.out _).mono ?_
      rintro e v6 ⟨rfl, hb⟩
      have D6 := Lib.hid (D5.out.trans (hb.mono D5.out.size))
      have a_6 := Lib.hid (a_5.out.bel hb)
      have b_6 := Lib.hid (b_5.out.bel hb)
      have z_6 := Lib.hid (z_5.out.bel hb)
      clear D5 a_5 b_5 z_5
      clear hb
      have h1 := H1.out
      have ac0 := a_6.out.c0
      have af0 := a_6.out.fz 0
      have ac1 := a_6.out.c1
      have af1 := a_6.out.fz 1
      have ac2 := a_6.out.c2
      have af2 := a_6.out.fz 2
      have ac3 := a_6.out.c3
      have af3 := a_6.out.fz 3
      have ac4 := a_6.out.c4
      have af4 := a_6.out.fz 4
      have ac5 := a_6.out.c5
      have af5 := a_6.out.fz 5
      have bc0 := b_6.out.c0
      have bf0 := b_6.out.fz 0
      have bc1 := b_6.out.c1
      have bf1 := b_6.out.fz 1
      have bc2 := b_6.out.c2
      have bf2 := b_6.out.fz 2
      have bc3 := b_6.out.c3
      have bf3 := b_6.out.fz 3
      have bc4 := b_6.out.c4
      have bf4 := b_6.out.fz 4
      have bc5 := b_6.out.c5
      have bf5 := b_6.out.fz 5
      go_wp2_with fail
      clear ac0 af0 ac1 af1 ac2 af2 ac3 af3 ac4 af4 ac5 af5 bc0 bf0 bc1 bf1 bc2 bf2 bc3 bf3 bc4 bf4 bc5 bf5 h1
      obtain ⟨X7, hX7⟩ : ∃ W, W = (((v6).setCell ⟨B1, 0, none⟩ (.bool b.low.neg)).setCell ⟨B1, 1, none⟩ (.string b.low.num)).setCell ⟨B1, 2, none⟩ (.string b.low.den) := ⟨_, rfl⟩
      have D7 : Hid (Below w.heap.size w X7) := Lib.hid (by rw [hX7]; exact ((D6.out.setCell (p := ⟨B1, 0, none⟩) (by have := HB1.out; show w.heap.size ≤ B1; omega) _).setCell (p := ⟨B1, 1, none⟩) (by have := HB1.out; show w.heap.size ≤ B1; omega) _).setCell (p := ⟨B1, 2, none⟩) (by have := HB1.out; show w.heap.size ≤ B1; omega) _)
      have a_7 : Hid (IvAt (B1) (⟨b.low, (a).high⟩ : Iv) X7) := Lib.hid (by rw [hX7]; exact a_6.out.setLow b.low)
      have b_7 : Hid (IvAt (B1 + 1) b X7) := Lib.hid (by rw [hX7]; exact ((b_6.out.setOther (by omega) _).setOther (by omega) _).setOther (by omega) _)
      have z_7 : Hid (IvAt (B1 + 1 + 1) noI X7) := Lib.hid (by rw [hX7]; exact ((z_6.out.setOther (by omega) _).setOther (by omega) _).setOther (by omega) _)
      rw [← hX7]; clear D6 a_6 b_6 z_6; have HX7 := Lib.hid hX7; clear hX7
      refine (hc2.out _).mono ?_
      rintro e v8 ⟨rfl, hb⟩
      have D8 := Lib.hid (D7.out.trans (hb.mono D7.out.size))
      have a_8 := Lib.hid (a_7.out.bel hb)
      have b_8 := Lib.hid (b_7.out.bel hb)
      have z_8 := Lib.hid (z_7.out.bel hb)
      clear D7 a_7 b_7 z_7
      clear hb
      have h2 := H2.out
      have ac0 := a_8.out.c0
      have af0 := a_8.out.fz 0
      have ac1 := a_8.out.c1
      have af1 := a_8.out.fz 1
      have ac2 := a_8.out.c2
      have af2 := a_8.out.fz 2
      have ac3 := a_8.out.c3
      have af3 := a_8.out.fz 3
      have ac4 := a_8.out.c4
      have af4 := a_8.out.fz 4
      have ac5 := a_8.out.c5
      have af5 := a_8.out.fz 5
      have bc0 := b_8.out.c0
      have bf0 := b_8.out.fz 0
      have bc1 := b_8.out.c1
      have bf1 := b_8.out.fz 1
      have bc2 := b_8.out.c2
      have bf2 := b_8.out.fz 2
      have bc3 := b_8.out.c3
      have bf3 := b_8.out.fz 3
      have bc4 := b_8.out.c4
      have bf4 := b_8.out.fz 4
      have bc5 := b_8.out.c5
      have bf5 := b_8.out.fz 5
      go_wp2_with fail
      clear ac0 af0 ac1 af1 ac2 af2 ac3 af3 ac4 af4 ac5 af5 bc0 bf0 bc1 bf1 bc2 bf2 bc3 bf3 bc4 bf4 bc5 bf5 h2
      have hvm2 := hvm.out; rw [HM.out] at hvm2; have HVM := Lib.hid hvm2; clear hvm2
      refine (HVM.out _).mono ?_
      rintro e v9 ⟨rfl, hb⟩
      have D9 := Lib.hid (D8.out.trans (hb.mono D8.out.size))
      have a_9 := Lib.hid (a_8.out.bel hb)
      have b_9 := Lib.hid (b_8.out.bel hb)
      have z_9 := Lib.hid (z_8.out.bel hb)
      clear D8 a_8 b_8 z_8
      clear hb
      have ac0 := a_9.out.c0
      have ac1 := a_9.out.c1
      have ac2 := a_9.out.c2
      have ac3 := a_9.out.c3
      have ac4 := a_9.out.c4
      have ac5 := a_9.out.c5
      have zc0 := z_9.out.c0
      have zf0 := z_9.out.fz 0
      have zc1 := z_9.out.c1
      have zf1 := z_9.out.fz 1
      have zc2 := z_9.out.c2
      have zf2 := z_9.out.fz 2
      have zc3 := z_9.out.c3
      have zf3 := z_9.out.fz 3
      have zc4 := z_9.out.c4
      have zf4 := z_9.out.fz 4
      have zc5 := z_9.out.c5
      have zf5 := z_9.out.fz 5
      go_wp2_with fail
      (try simp only [Exit.inBlock, Exit.then])
      refine bodyPost_ret (results_iv rfl _ _ (B1 + 1 + 1) noI _ rfl rfl (z_9.out.set noI)) rfl ?_; rw [HTT.out]; exact ⟨rfl, ((((((D9.out.setCell (p := ⟨B1 + 1 + 1, 0, none⟩) (by have := HB1.out; show w.heap.size ≤ B1 + 1 + 1; omega) _).setCell (p := ⟨B1 + 1 + 1, 1, none⟩) (by have := HB1.out; show w.heap.size ≤ B1 + 1 + 1; omega) _).setCell (p := ⟨B1 + 1 + 1, 2, none⟩) (by have := HB1.out; show w.heap.size ≤ B1 + 1 + 1; omega) _).setCell (p := ⟨B1 + 1 + 1, 3, none⟩) (by have := HB1.out; show w.heap.size ≤ B1 + 1 + 1; omega) _).setCell (p := ⟨B1 + 1 + 1, 4, none⟩) (by have := HB1.out; show w.heap.size ≤ B1 + 1 + 1; omega) _).setCell (p := ⟨B1 + 1 + 1, 5, none⟩) (by have := HB1.out; show w.heap.size ≤ B1 + 1 + 1; omega) _)⟩
  ·
    obtain ⟨m, hm⟩ : ∃ m : Iv, m = ⟨a.low, b.high⟩ := ⟨_, rfl⟩
    have ht3 : t = if okI m then (m, true) else (noI, false) := by rw [hm]; exact ht2
    clear ht2
    have HM := Lib.hid hm; clear hm
    have hvm : Hid (∀ w, Calls Tryz.prog 15 #[.agg #[.bool m.low.neg, .string m.low.num, .string m.low.den, .bool m.high.neg, .string m.high.num, .string m.high.den]] w (GivesB (okI m) w)) := Lib.hid (fun w => refivalid_any m w)
    rcases Bool.eq_false_or_eq_true (okI m) with ho | ho
    ·
      rw [ho] at hvm
      have HTT : Hid (t = (m, true)) := Lib.hid (by rw [ht3, ho]; rfl)
      clear ht3 ho
      go_enter Tryz.func13, Tryz.ntmps13
      go_wp2_with fail
      obtain ⟨B1, hB1⟩ : ∃ B, B = w.heap.size := ⟨_, rfl⟩
      obtain ⟨W1_0, hW1_0⟩ : ∃ W, W = w.alloc (Obj.cells #[Value.bool a.low.neg, Value.string a.low.num, Value.string a.low.den, Value.bool a.high.neg, Value.string a.high.num, Value.string a.high.den] 26) := ⟨_, rfl⟩
      have hb : Below w.heap.size w W1_0 := by rw [hW1_0]; exact (Below.refl _ _).alloc (Nat.le_refl _) _
      have hzW1_0 : w.heap.size = B1 := by rw [hB1]
      have hlW1_0 : IvAt (B1) a W1_0 := by rw [← hzW1_0, hW1_0]; exact ⟨heap_lastM _ _⟩
      have D1 := Lib.hid (D0.out.trans (hb.mono D0.out.size))
      clear hb
      have a_1 := Lib.hid hlW1_0
      clear hlW1_0
      obtain ⟨W1_1, hW1_1⟩ : ∃ W, W = W1_0.alloc (Obj.cells #[Value.bool b.low.neg, Value.string b.low.num, Value.string b.low.den, Value.bool b.high.neg, Value.string b.high.num, Value.string b.high.den] 26) := ⟨_, rfl⟩
      have hb : Below W1_0.heap.size W1_0 W1_1 := by rw [hW1_1]; exact (Below.refl _ _).alloc (Nat.le_refl _) _
      have hzW1_1 : W1_0.heap.size = B1 + 1 := by rw [hW1_0]; simp [hzW1_0]
      have hlW1_1 : IvAt (B1 + 1) b W1_1 := by rw [← hzW1_1, hW1_1]; exact ⟨heap_lastM _ _⟩
      have D2 := Lib.hid (D1.out.trans (hb.mono D1.out.size))
      have a_2 := Lib.hid (a_1.out.bel hb)
      clear D1 a_1
      clear hb
      have b_2 := Lib.hid hlW1_1
      clear hlW1_1
      obtain ⟨W1_2, hW1_2⟩ : ∃ W, W = W1_1.alloc (Obj.cells #[Value.bool false, Value.string ⟨#[]⟩, Value.string ⟨#[]⟩, Value.bool false, Value.string ⟨#[]⟩, Value.string ⟨#[]⟩] 26) := ⟨_, rfl⟩
      have hb : Below W1_1.heap.size W1_1 W1_2 := by rw [hW1_2]; exact (Below.refl _ _).alloc (Nat.le_refl _) _
      have hzW1_2 : W1_1.heap.size = B1 + 1 + 1 := by rw [hW1_1]; simp [hzW1_1]
      have hlW1_2 : IvAt (B1 + 1 + 1) noI W1_2 := by rw [← hzW1_2, hW1_2]; exact ⟨heap_lastM _ _⟩
      have D3 := Lib.hid (D2.out.trans (hb.mono D2.out.size))
      have a_3 := Lib.hid (a_2.out.bel hb)
      have b_3 := Lib.hid (b_2.out.bel hb)
      clear D2 a_2 b_2
      clear hb
      have z_3 := Lib.hid hlW1_2
      clear hlW1_2
      rw [← hW1_0]
      rw [← hW1_1]
      rw [← hW1_2]
      simp only [← hB1]
      clear hW1_0 hzW1_0
      clear hW1_1 hzW1_1
      clear hW1_2 hzW1_2
      have HB1 := Lib.hid hB1
      clear hB1
      have ac0 := a_3.out.c0
      have ac1 := a_3.out.c1
      have ac2 := a_3.out.c2
      have ac3 := a_3.out.c3
      have ac4 := a_3.out.c4
      have ac5 := a_3.out.c5
      have bc0 := b_3.out.c0
      have bc1 := b_3.out.c1
      have bc2 := b_3.out.c2
      have bc3 := b_3.out.c3
      have bc4 := b_3.out.c4
      have bc5 := b_3.out.c5
      go_wp2_with fail
      clear ac0 ac1 ac2 ac3 ac4 ac5 bc0 bc1 bc2 bc3 bc4 bc5
      refine (hva.out _).mono ?_
      rintro e v4 ⟨rfl, hb⟩
      have D4 := Lib.hid (D3.out.trans (hb.mono D3.out.size))
      have a_4 := Lib.hid (a_3.out.bel hb)
      have b_4 := Lib.hid (b_3.out.bel hb)
      have z_4 := Lib.hid (z_3.out.bel hb)
      clear D3 a_3 b_3 z_3
      clear hb
      have ac0 := a_4.out.c0
      have ac1 := a_4.out.c1
      have ac2 := a_4.out.c2
      have ac3 := a_4.out.c3
      have ac4 := a_4.out.c4
      have ac5 := a_4.out.c5
      have bc0 := b_4.out.c0
      have bc1 := b_4.out.c1
      have bc2 := b_4.out.c2
      have bc3 := b_4.out.c3
      have bc4 := b_4.out.c4
      have bc5 := b_4.out.c5
      go_wp2_with fail
      clear ac0 ac1 ac2 ac3 ac4 ac5 bc0 bc1 bc2 bc3 bc4 bc5
      refine (hvb.out _).mono ?_
      rintro e v5 ⟨rfl, hb⟩
      have D5 := Lib.hid (D4.out.trans (hb.mono D4.out.size))
      have a_5 := Lib.hid (a_4.out.bel hb)
      have b_5 := Lib.hid (b_4.out.bel hb)
      have z_5 := Lib.hid (z_4.out.bel hb)
      clear D4 a_4 b_4 z_4
      clear hb
      have ac0 := a_5.out.c0
      have ac1 := a_5.out.c1
      have ac2 := a_5.out.c2
      have ac3 := a_5.out.c3
      have ac4 := a_5.out.c4
      have ac5 := a_5.out.c5
      have bc0 := b_5.out.c0
      have bc1 := b_5.out.c1
      have bc2 := b_5.out.c2
      have bc3 := b_5.out.c3
      have bc4 := b_5.out.c4
      have bc5 := b_5.out.c5
      go_wp2_with fail
      clear ac0 ac1 ac2 ac3 ac4 ac5 bc0 bc1 bc2 bc3 bc4 bc5
      refine (hc1.out _).mono ?_
      rintro e v6 ⟨rfl, hb⟩
      have D6 := Lib.hid (D5.out.trans (hb.mono D5.out.size))
      have a_6 := Lib.hid (a_5.out.bel hb)
      have b_6 := Lib.hid (b_5.out.bel hb)
      have z_6 := Lib.hid (z_5.out.bel hb)
      clear D5 a_5 b_5 z_5
      clear hb
      have h1 := H1.out
      have ac0 := a_6.out.c0
      have af0 := a_6.out.fz 0
      have ac1 := a_6.out.c1
      have af1 := a_6.out.fz 1
      have ac2 := a_6.out.c2
      have af2 := a_6.out.fz 2
      have ac3 := a_6.out.c3
      have af3 := a_6.out.fz 3
      have ac4 := a_6.out.c4
      have af4 := a_6.out.fz 4
      have ac5 := a_6.out.c5
      have af5 := a_6.out.fz 5
      have bc0 := b_6.out.c0
      have bf0 := b_6.out.fz 0
      have bc1 := b_6.out.c1
      have bf1 := b_6.out.fz 1
      have bc2 := b_6.out.c2
      have bf2 := b_6.out.fz 2
      have bc3 := b_6.out.c3
      have bf3 := b_6.out.fz 3
      have bc4 := b_6.out.c4
      have bf4 := b_6.out.fz 4
      have bc5 := b_6.out.c5
      have bf5 := b_6.out.fz 5
      go_wp2_with fail
      clear ac0 af0 ac1 af1 ac2 af2 ac3 af3 ac4 af4 ac5 af5 bc0 bf0 bc1 bf1 bc2 bf2 bc3 bf3 bc4 bf4 bc5 bf5 h1
      refine (hc2.out _).mono ?_
      rintro e v7 ⟨rfl, hb⟩
      have D7 := Lib.hid (D6.out.trans (hb.mono D6.out.size))
      have a_7 := Lib.hid (a_6.out.bel hb)
      have b_7 := Lib.hid (b_6.out.bel hb)
      have z_7 := Lib.hid (z_6.out.bel hb)
      clear D6 a_6 b_6 z_6
      clear hb
      have h2 := H2.out
      have ac0 := a_7.out.c0
      have af0 := a_7.out.fz 0
      have ac1 := a_7.out.c1
      have af1 := a_7.out.fz 1
      have ac2 := a_7.out.c2
      have af2 := a_7.out.fz 2
      have ac3 := a_7.out.c3
      have af3 := a_7.out.fz 3
      have ac4 := a_7.out.c4
      have af4 := a_7.out.fz 4
      have ac5 := a_7.out.c5
      have af5 := a_7.out.fz 5
      have bc0 := b_7.out.c0
      have bf0 := b_7.out.fz 0
      have bc1 := b_7.out.c1
      have bf1 := b_7.out.fz 1
      have bc2 := b_7.out.c2
      have bf2 := b_7.out.fz 2
      have bc3 := b_7.out.c3
      have bf3 := b_7.out.fz 3
      have bc4 := b_7.out.c4
      have bf4 := b_7.out.fz 4
      have bc5 := b_7.out.c5
      have bf5 := b_7.out.fz 5
      go_wp2_with fail
      clear ac0 af0 ac1 af1 ac2 af2 ac3 af3 ac4 af4 ac5 af5 bc0 bf0 bc1 bf1 bc2 bf2 bc3 bf3 bc4 bf4 bc5 bf5 h2
      obtain ⟨X8, hX8⟩ : ∃ W, W = (((v7).setCell ⟨B1, 3, none⟩ (.bool b.high.neg)).setCell ⟨B1, 4, none⟩ (.string b.high.num)).setCell ⟨B1, 5, none⟩ (.string b.high.den) := ⟨_, rfl⟩
      have D8 : Hid (Below w.heap.size w X8) := Lib.hid (by rw [hX8]; exact ((D7.out.setCell (p := ⟨B1, 3, none⟩) (by have := HB1.out; show w.heap.size ≤ B1; omega) _).setCell (p := ⟨B1, 4, none⟩) (by have := HB1.out; show w.heap.size ≤ B1; omega) _).setCell (p := ⟨B1, 5, none⟩) (by have := HB1.out; show w.heap.size ≤ B1; omega) _)
      have a_8 : Hid (IvAt (B1) (⟨(a).low, b.high⟩ : Iv) X8) := Lib.hid (by rw [hX8]; exact a_7.out.setHigh b.high)
      have b_8 : Hid (IvAt (B1 + 1) b X8) := Lib.hid (by rw [hX8]; exact ((b_7.out.setOther (by omega) _).setOther (by omega) _).setOther (by omega) _)
      have z_8 : Hid (IvAt (B1 + 1 + 1) noI X8) := Lib.hid (by rw [hX8]; exact ((z_7.out.setOther (by omega) _).setOther (by omega) _).setOther (by omega) _)
      rw [← hX8]; clear D7 a_7 b_7 z_7; have HX8 := Lib.hid hX8; clear hX8
      have hvm2 := hvm.out; rw [HM.out] at hvm2; have HVM := Lib.hid hvm2; clear hvm2
      refine (HVM.out _).mono ?_
      rintro e v9 ⟨rfl, hb⟩
      have D9 := Lib.hid (D8.out.trans (hb.mono D8.out.size))
      have a_9 := Lib.hid (a_8.out.bel hb)
      have b_9 := Lib.hid (b_8.out.bel hb)
      have z_9 := Lib.hid (z_8.out.bel hb)
      clear D8 a_8 b_8 z_8
      clear hb
      have ac0 := a_9.out.c0
      have ac1 := a_9.out.c1
      have ac2 := a_9.out.c2
      have ac3 := a_9.out.c3
      have ac4 := a_9.out.c4
      have ac5 := a_9.out.c5
      have zc0 := z_9.out.c0
      have zf0 := z_9.out.fz 0
      have zc1 := z_9.out.c1
      have zf1 := z_9.out.fz 1
      have zc2 := z_9.out.c2
      have zf2 := z_9.out.fz 2
      have zc3 := z_9.out.c3
      have zf3 := z_9.out.fz 3
      have zc4 := z_9.out.c4
      have zf4 := z_9.out.fz 4
      have zc5 := z_9.out.c5
      have zf5 := z_9.out.fz 5
      go_wp2_with fail
      (try simp only [Exit.inBlock, Exit.then])
      refine bodyPost_ret (results_iv rfl _ _ (B1 + 1 + 1) ⟨a.low, b.high⟩ _ rfl rfl (z_9.out.set ⟨a.low, b.high⟩)) rfl ?_; rw [HTT.out]; rw [HM.out]; exact ⟨rfl, ((((((D9.out.setCell (p := ⟨B1 + 1 + 1, 0, none⟩) (by have := HB1.out; show w.heap.size ≤ B1 + 1 + 1; omega) _).setCell (p := ⟨B1 + 1 + 1, 1, none⟩) (by have := HB1.out; show w.heap.size ≤ B1 + 1 + 1; omega) _).setCell (p := ⟨B1 + 1 + 1, 2, none⟩) (by have := HB1.out; show w.heap.size ≤ B1 + 1 + 1; omega) _).setCell (p := ⟨B1 + 1 + 1, 3, none⟩) (by have := HB1.out; show w.heap.size ≤ B1 + 1 + 1; omega) _).setCell (p := ⟨B1 + 1 + 1, 4, none⟩) (by have := HB1.out; show w.heap.size ≤ B1 + 1 + 1; omega) _).setCell (p := ⟨B1 + 1 + 1, 5, none⟩) (by have := HB1.out; show w.heap.size ≤ B1 + 1 + 1; omega) _)⟩
    ·
      rw [ho] at hvm
      have HTT : Hid (t = (noI, false)) := Lib.hid (by rw [ht3, ho]; rfl)
      clear ht3 ho
      go_enter Tryz.func13, Tryz.ntmps13
      go_wp2_with fail
      obtain ⟨B1, hB1⟩ : ∃ B, B = w.heap.size := ⟨_, rfl⟩
      obtain ⟨W1_0, hW1_0⟩ : ∃ W, W = w.alloc (Obj.cells #[Value.bool a.low.neg, Value.string a.low.num, Value.string a.low.den, Value.bool a.high.neg, Value.string a.high.num, Value.string a.high.den] 26) := ⟨_, rfl⟩
      have hb : Below w.heap.size w W1_0 := by rw [hW1_0]; exact (Below.refl _ _).alloc (Nat.le_refl _) _
      have hzW1_0 : w.heap.size = B1 := by rw [hB1]
      have hlW1_0 : IvAt (B1) a W1_0 := by rw [← hzW1_0, hW1_0]; exact ⟨heap_lastM _ _⟩
      have D1 := Lib.hid (D0.out.trans (hb.mono D0.out.size))
      clear hb
      have a_1 := Lib.hid hlW1_0
      clear hlW1_0
      obtain ⟨W1_1, hW1_1⟩ : ∃ W, W = W1_0.alloc (Obj.cells #[Value.bool b.low.neg, Value.string b.low.num, Value.string b.low.den, Value.bool b.high.neg, Value.string b.high.num, Value.string b.high.den] 26) := ⟨_, rfl⟩
      have hb : Below W1_0.heap.size W1_0 W1_1 := by rw [hW1_1]; exact (Below.refl _ _).alloc (Nat.le_refl _) _
      have hzW1_1 : W1_0.heap.size = B1 + 1 := by rw [hW1_0]; simp [hzW1_0]
      have hlW1_1 : IvAt (B1 + 1) b W1_1 := by rw [← hzW1_1, hW1_1]; exact ⟨heap_lastM _ _⟩
      have D2 := Lib.hid (D1.out.trans (hb.mono D1.out.size))
      have a_2 := Lib.hid (a_1.out.bel hb)
      clear D1 a_1
      clear hb
      have b_2 := Lib.hid hlW1_1
      clear hlW1_1
      obtain ⟨W1_2, hW1_2⟩ : ∃ W, W = W1_1.alloc (Obj.cells #[Value.bool false, Value.string ⟨#[]⟩, Value.string ⟨#[]⟩, Value.bool false, Value.string ⟨#[]⟩, Value.string ⟨#[]⟩] 26) := ⟨_, rfl⟩
      have hb : Below W1_1.heap.size W1_1 W1_2 := by rw [hW1_2]; exact (Below.refl _ _).alloc (Nat.le_refl _) _
      have hzW1_2 : W1_1.heap.size = B1 + 1 + 1 := by rw [hW1_1]; simp [hzW1_1]
      have hlW1_2 : IvAt (B1 + 1 + 1) noI W1_2 := by rw [← hzW1_2, hW1_2]; exact ⟨heap_lastM _ _⟩
      have D3 := Lib.hid (D2.out.trans (hb.mono D2.out.size))
      have a_3 := Lib.hid (a_2.out.bel hb)
      have b_3 := Lib.hid (b_2.out.bel hb)
      clear D2 a_2 b_2
      clear hb
      have z_3 := Lib.hid hlW1_2
      clear hlW1_2
      rw [← hW1_0]
      rw [← hW1_1]
      rw [← hW1_2]
      simp only [← hB1]
      clear hW1_0 hzW1_0
      clear hW1_1 hzW1_1
      clear hW1_2 hzW1_2
      have HB1 := Lib.hid hB1
      clear hB1
      have ac0 := a_3.out.c0
      have ac1 := a_3.out.c1
      have ac2 := a_3.out.c2
      have ac3 := a_3.out.c3
      have ac4 := a_3.out.c4
      have ac5 := a_3.out.c5
      have bc0 := b_3.out.c0
      have bc1 := b_3.out.c1
      have bc2 := b_3.out.c2
      have bc3 := b_3.out.c3
      have bc4 := b_3.out.c4
      have bc5 := b_3.out.c5
      go_wp2_with fail
      clear ac0 ac1 ac2 ac3 ac4 ac5 bc0 bc1 bc2 bc3 bc4 bc5
      refine (hva.out _).mono ?_
      rintro e v4 ⟨rfl, hb⟩
      have D4 := Lib.hid (D3.out.trans (hb.mono D3.out.size))
      have a_4 := Lib.hid (a_3.out.bel hb)
      have b_4 := Lib.hid (b_3.out.bel hb)
      have z_4 := Lib.hid (z_3.out.bel hb)
      clear D3 a_3 b_3 z_3
      clear hb
      have ac0 := a_4.out.c0
      have ac1 := a_4.out.c1
      have ac2 := a_4.out.c2
      have ac3 := a_4.out.c3
      have ac4 := a_4.out.c4
      have ac5 := a_4.out.c5
      have bc0 := b_4.out.c0
      have bc1 := b_4.out.c1
      have bc2 := b_4.out.c2
      have bc3 := b_4.out.c3
      have bc4 := b_4.out.c4
      have bc5 := b_4.out.c5
      go_wp2_with fail
      clear ac0 ac1 ac2 ac3 ac4 ac5 bc0 bc1 bc2 bc3 bc4 bc5
      refine (hvb.out _).mono ?_
      rintro e v5 ⟨rfl, hb⟩
      have D5 := Lib.hid (D4.out.trans (hb.mono D4.out.size))
      have a_5 := Lib.hid (a_4.out.bel hb)
      have b_5 := Lib.hid (b_4.out.bel hb)
      have z_5 := Lib.hid (z_4.out.bel hb)
      clear D4 a_4 b_4 z_4
      clear hb
      have ac0 := a_5.out.c0
      have ac1 := a_5.out.c1
      have ac2 := a_5.out.c2
      have ac3 := a_5.out.c3
      have ac4 := a_5.out.c4
      have ac5 := a_5.out.c5
      have bc0 := b_5.out.c0
      have bc1 := b_5.out.c1
      have bc2 := b_5.out.c2
      have bc3 := b_5.out.c3
      have bc4 := b_5.out.c4
      have bc5 := b_5.out.c5
      go_wp2_with fail
      clear ac0 ac1 ac2 ac3 ac4 ac5 bc0 bc1 bc2 bc3 bc4 bc5
      refine (hc1.out _).mono ?_
      rintro e v6 ⟨rfl, hb⟩
      have D6 := Lib.hid (D5.out.trans (hb.mono D5.out.size))
      have a_6 := Lib.hid (a_5.out.bel hb)
      have b_6 := Lib.hid (b_5.out.bel hb)
      have z_6 := Lib.hid (z_5.out.bel hb)
      clear D5 a_5 b_5 z_5
      clear hb
      have h1 := H1.out
      have ac0 := a_6.out.c0
      have af0 := a_6.out.fz 0
      have ac1 := a_6.out.c1
      have af1 := a_6.out.fz 1
      have ac2 := a_6.out.c2
      have af2 := a_6.out.fz 2
      have ac3 := a_6.out.c3
      have af3 := a_6.out.fz 3
      have ac4 := a_6.out.c4
      have af4 := a_6.out.fz 4
      have ac5 := a_6.out.c5
      have af5 := a_6.out.fz 5
      have bc0 := b_6.out.c0
      have bf0 := b_6.out.fz 0
      have bc1 := b_6.out.c1
      have bf1 := b_6.out.fz 1
      have bc2 := b_6.out.c2
      have bf2 := b_6.out.fz 2
      have bc3 := b_6.out.c3
      have bf3 := b_6.out.fz 3
      have bc4 := b_6.out.c4
      have bf4 := b_6.out.fz 4
      have bc5 := b_6.out.c5
      have bf5 := b_6.out.fz 5
      go_wp2_with fail
      clear ac0 af0 ac1 af1 ac2 af2 ac3 af3 ac4 af4 ac5 af5 bc0 bf0 bc1 bf1 bc2 bf2 bc3 bf3 bc4 bf4 bc5 bf5 h1
      refine (hc2.out _).mono ?_
      rintro e v7 ⟨rfl, hb⟩
      have D7 := Lib.hid (D6.out.trans (hb.mono D6.out.size))
      have a_7 := Lib.hid (a_6.out.bel hb)
      have b_7 := Lib.hid (b_6.out.bel hb)
      have z_7 := Lib.hid (z_6.out.bel hb)
      clear D6 a_6 b_6 z_6
      clear hb
      have h2 := H2.out
      have ac0 := a_7.out.c0
      have af0 := a_7.out.fz 0
      have ac1 := a_7.out.c1
      have af1 := a_7.out.fz 1
      have ac2 := a_7.out.c2
      have af2 := a_7.out.fz 2
      have ac3 := a_7.out.c3
      have af3 := a_7.out.fz 3
      have ac4 := a_7.out.c4
      have af4 := a_7.out.fz 4
      have ac5 := a_7.out.c5
      have af5 := a_7.out.fz 5
      have bc0 := b_7.out.c0
      have bf0 := b_7.out.fz 0
      have bc1 := b_7.out.c1
      have bf1 := b_7.out.fz 1
      have bc2 := b_7.out.c2
      have bf2 := b_7.out.fz 2
      have bc3 := b_7.out.c3
      have bf3 := b_7.out.fz 3
      have bc4 := b_7.out.c4
      have bf4 := b_7.out.fz 4
      have bc5 := b_7.out.c5
      have bf5 := b_7.out.fz 5
      go_wp2_with fail
      clear ac0 af0 ac1 af1 ac2 af2 ac3 af3 ac4 af4 ac5 af5 bc0 bf0 bc1 bf1 bc2 bf2 bc3 bf3 bc4 bf4 bc5 bf5 h2
      obtain ⟨X8, hX8⟩ : ∃ W, W = (((v7).setCell ⟨B1, 3, none⟩ (.bool b.high.neg)).setCell ⟨B1, 4, none⟩ (.string b.high.num)).setCell ⟨B1, 5, none⟩ (.string b.high.den) := ⟨_, rfl⟩
      have D8 : Hid (Below w.heap.size w X8) := Lib.hid (by rw [hX8]; exact ((D7.out.setCell (p := ⟨B1, 3, none⟩) (by have := HB1.out; show w.heap.size ≤ B1; omega) _).setCell (p := ⟨B1, 4, none⟩) (by have := HB1.out; show w.heap.size ≤ B1; omega) _).setCell (p := ⟨B1, 5, none⟩) (by have := HB1.out; show w.heap.size ≤ B1; omega) _)
      have a_8 : Hid (IvAt (B1) (⟨(a).low, b.high⟩ : Iv) X8) := Lib.hid (by rw [hX8]; exact a_7.out.setHigh b.high)
      have b_8 : Hid (IvAt (B1 + 1) b X8) := Lib.hid (by rw [hX8]; exact ((b_7.out.setOther (by omega) _).setOther (by omega) _).setOther (by omega) _)
      have z_8 : Hid (IvAt (B1 + 1 + 1) noI X8) := Lib.hid (by rw [hX8]; exact ((z_7.out.setOther (by omega) _).setOther (by omega) _).setOther (by omega) _)
      rw [← hX8]; clear D7 a_7 b_7 z_7; have HX8 := Lib.hid hX8; clear hX8
      have hvm2 := hvm.out; rw [HM.out] at hvm2; have HVM := Lib.hid hvm2; clear hvm2
      refine (HVM.out _).mono ?_
      rintro e v9 ⟨rfl, hb⟩
      have D9 := Lib.hid (D8.out.trans (hb.mono D8.out.size))
      have a_9 := Lib.hid (a_8.out.bel hb)
      have b_9 := Lib.hid (b_8.out.bel hb)
      have z_9 := Lib.hid (z_8.out.bel hb)
      clear D8 a_8 b_8 z_8
      clear hb
      have ac0 := a_9.out.c0
      have ac1 := a_9.out.c1
      have ac2 := a_9.out.c2
      have ac3 := a_9.out.c3
      have ac4 := a_9.out.c4
      have ac5 := a_9.out.c5
      have zc0 := z_9.out.c0
      have zf0 := z_9.out.fz 0
      have zc1 := z_9.out.c1
      have zf1 := z_9.out.fz 1
      have zc2 := z_9.out.c2
      have zf2 := z_9.out.fz 2
      have zc3 := z_9.out.c3
      have zf3 := z_9.out.fz 3
      have zc4 := z_9.out.c4
      have zf4 := z_9.out.fz 4
      have zc5 := z_9.out.c5
      have zf5 := z_9.out.fz 5
      go_wp2_with fail
      (try simp only [Exit.inBlock, Exit.then])
      refine bodyPost_ret (results_iv rfl _ _ (B1 + 1 + 1) noI _ rfl rfl (z_9.out.set noI)) rfl ?_; rw [HTT.out]; exact ⟨rfl, ((((((D9.out.setCell (p := ⟨B1 + 1 + 1, 0, none⟩) (by have := HB1.out; show w.heap.size ≤ B1 + 1 + 1; omega) _).setCell (p := ⟨B1 + 1 + 1, 1, none⟩) (by have := HB1.out; show w.heap.size ≤ B1 + 1 + 1; omega) _).setCell (p := ⟨B1 + 1 + 1, 2, none⟩) (by have := HB1.out; show w.heap.size ≤ B1 + 1 + 1; omega) _).setCell (p := ⟨B1 + 1 + 1, 3, none⟩) (by have := HB1.out; show w.heap.size ≤ B1 + 1 + 1; omega) _).setCell (p := ⟨B1 + 1 + 1, 4, none⟩) (by have := HB1.out; show w.heap.size ≤ B1 + 1 + 1; omega) _).setCell (p := ⟨B1 + 1 + 1, 5, none⟩) (by have := HB1.out; show w.heap.size ≤ B1 + 1 + 1; omega) _)⟩
  ·
    obtain ⟨m, hm⟩ : ∃ m : Iv, m = ⟨a.low, a.high⟩ := ⟨_, rfl⟩
    have ht3 : t = if okI m then (m, true) else (noI, false) := by rw [hm]; exact ht2
    clear ht2
    have HM := Lib.hid hm; clear hm
    have hvm : Hid (∀ w, Calls Tryz.prog 15 #[.agg #[.bool m.low.neg, .string m.low.num, .string m.low.den, .bool m.high.neg, .string m.high.num, .string m.high.den]] w (GivesB (okI m) w)) := Lib.hid (fun w => refivalid_any m w)
    rcases Bool.eq_false_or_eq_true (okI m) with ho | ho
    ·
      rw [ho] at hvm
      have HTT : Hid (t = (m, true)) := Lib.hid (by rw [ht3, ho]; rfl)
      clear ht3 ho
      go_enter Tryz.func13, Tryz.ntmps13
      go_wp2_with fail
      obtain ⟨B1, hB1⟩ : ∃ B, B = w.heap.size := ⟨_, rfl⟩
      obtain ⟨W1_0, hW1_0⟩ : ∃ W, W = w.alloc (Obj.cells #[Value.bool a.low.neg, Value.string a.low.num, Value.string a.low.den, Value.bool a.high.neg, Value.string a.high.num, Value.string a.high.den] 26) := ⟨_, rfl⟩
      have hb : Below w.heap.size w W1_0 := by rw [hW1_0]; exact (Below.refl _ _).alloc (Nat.le_refl _) _
      have hzW1_0 : w.heap.size = B1 := by rw [hB1]
      have hlW1_0 : IvAt (B1) a W1_0 := by rw [← hzW1_0, hW1_0]; exact ⟨heap_lastM _ _⟩
      have D1 := Lib.hid (D0.out.trans (hb.mono D0.out.size))
      clear hb
      have a_1 := Lib.hid hlW1_0
      clear hlW1_0
      obtain ⟨W1_1, hW1_1⟩ : ∃ W, W = W1_0.alloc (Obj.cells #[Value.bool b.low.neg, Value.string b.low.num, Value.string b.low.den, Value.bool b.high.neg, Value.string b.high.num, Value.string b.high.den] 26) := ⟨_, rfl⟩
      have hb : Below W1_0.heap.size W1_0 W1_1 := by rw [hW1_1]; exact (Below.refl _ _).alloc (Nat.le_refl _) _
      have hzW1_1 : W1_0.heap.size = B1 + 1 := by rw [hW1_0]; simp [hzW1_0]
      have hlW1_1 : IvAt (B1 + 1) b W1_1 := by rw [← hzW1_1, hW1_1]; exact ⟨heap_lastM _ _⟩
      have D2 := Lib.hid (D1.out.trans (hb.mono D1.out.size))
      have a_2 := Lib.hid (a_1.out.bel hb)
      clear D1 a_1
      clear hb
      have b_2 := Lib.hid hlW1_1
      clear hlW1_1
      obtain ⟨W1_2, hW1_2⟩ : ∃ W, W = W1_1.alloc (Obj.cells #[Value.bool false, Value.string ⟨#[]⟩, Value.string ⟨#[]⟩, Value.bool false, Value.string ⟨#[]⟩, Value.string ⟨#[]⟩] 26) := ⟨_, rfl⟩
      have hb : Below W1_1.heap.size W1_1 W1_2 := by rw [hW1_2]; exact (Below.refl _ _).alloc (Nat.le_refl _) _
      have hzW1_2 : W1_1.heap.size = B1 + 1 + 1 := by rw [hW1_1]; simp [hzW1_1]
      have hlW1_2 : IvAt (B1 + 1 + 1) noI W1_2 := by rw [← hzW1_2, hW1_2]; exact ⟨heap_lastM _ _⟩
      have D3 := Lib.hid (D2.out.trans (hb.mono D2.out.size))
      have a_3 := Lib.hid (a_2.out.bel hb)
      have b_3 := Lib.hid (b_2.out.bel hb)
      clear D2 a_2 b_2
      clear hb
      have z_3 := Lib.hid hlW1_2
      clear hlW1_2
      rw [← hW1_0]
      rw [← hW1_1]
      rw [← hW1_2]
      simp only [← hB1]
      clear hW1_0 hzW1_0
      clear hW1_1 hzW1_1
      clear hW1_2 hzW1_2
      have HB1 := Lib.hid hB1
      clear hB1
      have ac0 := a_3.out.c0
      have ac1 := a_3.out.c1
      have ac2 := a_3.out.c2
      have ac3 := a_3.out.c3
      have ac4 := a_3.out.c4
      have ac5 := a_3.out.c5
      have bc0 := b_3.out.c0
      have bc1 := b_3.out.c1
      have bc2 := b_3.out.c2
      have bc3 := b_3.out.c3
      have bc4 := b_3.out.c4
      have bc5 := b_3.out.c5
      go_wp2_with fail
      clear ac0 ac1 ac2 ac3 ac4 ac5 bc0 bc1 bc2 bc3 bc4 bc5
      refine (hva.out _).mono ?_
      rintro e v4 ⟨rfl, hb⟩
      have D4 := Lib.hid (D3.out.trans (hb.mono D3.out.size))
      have a_4 := Lib.hid (a_3.out.bel hb)
      have b_4 := Lib.hid (b_3.out.bel hb)
      have z_4 := Lib.hid (z_3.out.bel hb)
      clear D3 a_3 b_3 z_3
      clear hb
      have ac0 := a_4.out.c0
      have ac1 := a_4.out.c1
      have ac2 := a_4.out.c2
      have ac3 := a_4.out.c3
      have ac4 := a_4.out.c4
      have ac5 := a_4.out.c5
      have bc0 := b_4.out.c0
      have bc1 := b_4.out.c1
      have bc2 := b_4.out.c2
      have bc3 := b_4.out.c3
      have bc4 := b_4.out.c4
      have bc5 := b_4.out.c5
      go_wp2_with fail
      clear ac0 ac1 ac2 ac3 ac4 ac5 bc0 bc1 bc2 bc3 bc4 bc5
      refine (hvb.out _).mono ?_
      rintro e v5 ⟨rfl, hb⟩
      have D5 := Lib.hid (D4.out.trans (hb.mono D4.out.size))
      have a_5 := Lib.hid (a_4.out.bel hb)
      have b_5 := Lib.hid (b_4.out.bel hb)
      have z_5 := Lib.hid (z_4.out.bel hb)
      clear D4 a_4 b_4 z_4
      clear hb
      have ac0 := a_5.out.c0
      have ac1 := a_5.out.c1
      have ac2 := a_5.out.c2
      have ac3 := a_5.out.c3
      have ac4 := a_5.out.c4
      have ac5 := a_5.out.c5
      have bc0 := b_5.out.c0
      have bc1 := b_5.out.c1
      have bc2 := b_5.out.c2
      have bc3 := b_5.out.c3
      have bc4 := b_5.out.c4
      have bc5 := b_5.out.c5
      go_wp2_with fail
      clear ac0 ac1 ac2 ac3 ac4 ac5 bc0 bc1 bc2 bc3 bc4 bc5
      refine (hc1.out _).mono ?_
      rintro e v6 ⟨rfl, hb⟩
      have D6 := Lib.hid (D5.out.trans (hb.mono D5.out.size))
      have a_6 := Lib.hid (a_5.out.bel hb)
      have b_6 := Lib.hid (b_5.out.bel hb)
      have z_6 := Lib.hid (z_5.out.bel hb)
      clear D5 a_5 b_5 z_5
      clear hb
      have h1 := H1.out
      have ac0 := a_6.out.c0
      have af0 := a_6.out.fz 0
      have ac1 := a_6.out.c1
      have af1 := a_6.out.fz 1
      have ac2 := a_6.out.c2
      have af2 := a_6.out.fz 2
      have ac3 := a_6.out.c3
      have af3 := a_6.out.fz 3
      have ac4 := a_6.out.c4
      have af4 := a_6.out.fz 4
      have ac5 := a_6.out.c5
      have af5 := a_6.out.fz 5
      have bc0 := b_6.out.c0
      have bf0 := b_6.out.fz 0
      have bc1 := b_6.out.c1
      have bf1 := b_6.out.fz 1
      have bc2 := b_6.out.c2
      have bf2 := b_6.out.fz 2
      have bc3 := b_6.out.c3
      have bf3 := b_6.out.fz 3
      have bc4 := b_6.out.c4
      have bf4 := b_6.out.fz 4
      have bc5 := b_6.out.c5
      have bf5 := b_6.out.fz 5
      go_wp2_with fail
      clear ac0 af0 ac1 af1 ac2 af2 ac3 af3 ac4 af4 ac5 af5 bc0 bf0 bc1 bf1 bc2 bf2 bc3 bf3 bc4 bf4 bc5 bf5 h1
      refine (hc2.out _).mono ?_
      rintro e v7 ⟨rfl, hb⟩
      have D7 := Lib.hid (D6.out.trans (hb.mono D6.out.size))
      have a_7 := Lib.hid (a_6.out.bel hb)
      have b_7 := Lib.hid (b_6.out.bel hb)
      have z_7 := Lib.hid (z_6.out.bel hb)
      clear D6 a_6 b_6 z_6
      clear hb
      have h2 := H2.out
      have ac0 := a_7.out.c0
      have af0 := a_7.out.fz 0
      have ac1 := a_7.out.c1
      have af1 := a_7.out.fz 1
      have ac2 := a_7.out.c2
      have af2 := a_7.out.fz 2
      have ac3 := a_7.out.c3
      have af3 := a_7.out.fz 3
      have ac4 := a_7.out.c4
      have af4 := a_7.out.fz 4
      have ac5 := a_7.out.c5
      have af5 := a_7.out.fz 5
      have bc0 := b_7.out.c0
      have bf0 := b_7.out.fz 0
      have bc1 := b_7.out.c1
      have bf1 := b_7.out.fz 1
      have bc2 := b_7.out.c2
      have bf2 := b_7.out.fz 2
      have bc3 := b_7.out.c3
      have bf3 := b_7.out.fz 3
      have bc4 := b_7.out.c4
      have bf4 := b_7.out.fz 4
      have bc5 := b_7.out.c5
      have bf5 := b_7.out.fz 5
      go_wp2_with fail
      clear ac0 af0 ac1 af1 ac2 af2 ac3 af3 ac4 af4 ac5 af5 bc0 bf0 bc1 bf1 bc2 bf2 bc3 bf3 bc4 bf4 bc5 bf5 h2
      have hvm2 := hvm.out; rw [HM.out] at hvm2; have HVM := Lib.hid hvm2; clear hvm2
      refine (HVM.out _).mono ?_
      rintro e v8 ⟨rfl, hb⟩
      have D8 := Lib.hid (D7.out.trans (hb.mono D7.out.size))
      have a_8 := Lib.hid (a_7.out.bel hb)
      have b_8 := Lib.hid (b_7.out.bel hb)
      have z_8 := Lib.hid (z_7.out.bel hb)
      clear D7 a_7 b_7 z_7
      clear hb
      have ac0 := a_8.out.c0
      have ac1 := a_8.out.c1
      have ac2 := a_8.out.c2
      have ac3 := a_8.out.c3
      have ac4 := a_8.out.c4
      have ac5 := a_8.out.c5
      have zc0 := z_8.out.c0
      have zf0 := z_8.out.fz 0
      have zc1 := z_8.out.c1
      have zf1 := z_8.out.fz 1
      have zc2 := z_8.out.c2
      have zf2 := z_8.out.fz 2
      have zc3 := z_8.out.c3
      have zf3 := z_8.out.fz 3
      have zc4 := z_8.out.c4
      have zf4 := z_8.out.fz 4
      have zc5 := z_8.out.c5
      have zf5 := z_8.out.fz 5
      go_wp2_with fail
      (try simp only [Exit.inBlock, Exit.then])
      refine bodyPost_ret (results_iv rfl _ _ (B1 + 1 + 1) ⟨a.low, a.high⟩ _ rfl rfl (z_8.out.set ⟨a.low, a.high⟩)) rfl ?_; rw [HTT.out]; rw [HM.out]; exact ⟨rfl, ((((((D8.out.setCell (p := ⟨B1 + 1 + 1, 0, none⟩) (by have := HB1.out; show w.heap.size ≤ B1 + 1 + 1; omega) _).setCell (p := ⟨B1 + 1 + 1, 1, none⟩) (by have := HB1.out; show w.heap.size ≤ B1 + 1 + 1; omega) _).setCell (p := ⟨B1 + 1 + 1, 2, none⟩) (by have := HB1.out; show w.heap.size ≤ B1 + 1 + 1; omega) _).setCell (p := ⟨B1 + 1 + 1, 3, none⟩) (by have := HB1.out; show w.heap.size ≤ B1 + 1 + 1; omega) _).setCell (p := ⟨B1 + 1 + 1, 4, none⟩) (by have := HB1.out; show w.heap.size ≤ B1 + 1 + 1; omega) _).setCell (p := ⟨B1 + 1 + 1, 5, none⟩) (by have := HB1.out; show w.heap.size ≤ B1 + 1 + 1; omega) _)⟩
    ·
      rw [ho] at hvm
      have HTT : Hid (t = (noI, false)) := Lib.hid (by rw [ht3, ho]; rfl)
      clear ht3 ho
      go_enter Tryz.func13, Tryz.ntmps13
      go_wp2_with fail
      obtain ⟨B1, hB1⟩ : ∃ B, B = w.heap.size := ⟨_, rfl⟩
      obtain ⟨W1_0, hW1_0⟩ : ∃ W, W = w.alloc (Obj.cells #[Value.bool a.low.neg, Value.string a.low.num, Value.string a.low.den, Value.bool a.high.neg, Value.string a.high.num, Value.string a.high.den] 26) := ⟨_, rfl⟩
      have hb : Below w.heap.size w W1_0 := by rw [hW1_0]; exact (Below.refl _ _).alloc (Nat.le_refl _) _
      have hzW1_0 : w.heap.size = B1 := by rw [hB1]
      have hlW1_0 : IvAt (B1) a W1_0 := by rw [← hzW1_0, hW1_0]; exact ⟨heap_lastM _ _⟩
      have D1 := Lib.hid (D0.out.trans (hb.mono D0.out.size))
      clear hb
      have a_1 := Lib.hid hlW1_0
      clear hlW1_0
      obtain ⟨W1_1, hW1_1⟩ : ∃ W, W = W1_0.alloc (Obj.cells #[Value.bool b.low.neg, Value.string b.low.num, Value.string b.low.den, Value.bool b.high.neg, Value.string b.high.num, Value.string b.high.den] 26) := ⟨_, rfl⟩
      have hb : Below W1_0.heap.size W1_0 W1_1 := by rw [hW1_1]; exact (Below.refl _ _).alloc (Nat.le_refl _) _
      have hzW1_1 : W1_0.heap.size = B1 + 1 := by rw [hW1_0]; simp [hzW1_0]
      have hlW1_1 : IvAt (B1 + 1) b W1_1 := by rw [← hzW1_1, hW1_1]; exact ⟨heap_lastM _ _⟩
      have D2 := Lib.hid (D1.out.trans (hb.mono D1.out.size))
      have a_2 := Lib.hid (a_1.out.bel hb)
      clear D1 a_1
      clear hb
      have b_2 := Lib.hid hlW1_1
      clear hlW1_1
      obtain ⟨W1_2, hW1_2⟩ : ∃ W, W = W1_1.alloc (Obj.cells #[Value.bool false, Value.string ⟨#[]⟩, Value.string ⟨#[]⟩, Value.bool false, Value.string ⟨#[]⟩, Value.string ⟨#[]⟩] 26) := ⟨_, rfl⟩
      have hb : Below W1_1.heap.size W1_1 W1_2 := by rw [hW1_2]; exact (Below.refl _ _).alloc (Nat.le_refl _) _
      have hzW1_2 : W1_1.heap.size = B1 + 1 + 1 := by rw [hW1_1]; simp [hzW1_1]
      have hlW1_2 : IvAt (B1 + 1 + 1) noI W1_2 := by rw [← hzW1_2, hW1_2]; exact ⟨heap_lastM _ _⟩
      have D3 := Lib.hid (D2.out.trans (hb.mono D2.out.size))
      have a_3 := Lib.hid (a_2.out.bel hb)
      have b_3 := Lib.hid (b_2.out.bel hb)
      clear D2 a_2 b_2
      clear hb
      have z_3 := Lib.hid hlW1_2
      clear hlW1_2
      rw [← hW1_0]
      rw [← hW1_1]
      rw [← hW1_2]
      simp only [← hB1]
      clear hW1_0 hzW1_0
      clear hW1_1 hzW1_1
      clear hW1_2 hzW1_2
      have HB1 := Lib.hid hB1
      clear hB1
      have ac0 := a_3.out.c0
      have ac1 := a_3.out.c1
      have ac2 := a_3.out.c2
      have ac3 := a_3.out.c3
      have ac4 := a_3.out.c4
      have ac5 := a_3.out.c5
      have bc0 := b_3.out.c0
      have bc1 := b_3.out.c1
      have bc2 := b_3.out.c2
      have bc3 := b_3.out.c3
      have bc4 := b_3.out.c4
      have bc5 := b_3.out.c5
      go_wp2_with fail
      clear ac0 ac1 ac2 ac3 ac4 ac5 bc0 bc1 bc2 bc3 bc4 bc5
      refine (hva.out _).mono ?_
      rintro e v4 ⟨rfl, hb⟩
      have D4 := Lib.hid (D3.out.trans (hb.mono D3.out.size))
      have a_4 := Lib.hid (a_3.out.bel hb)
      have b_4 := Lib.hid (b_3.out.bel hb)
      have z_4 := Lib.hid (z_3.out.bel hb)
      clear D3 a_3 b_3 z_3
      clear hb
      have ac0 := a_4.out.c0
      have ac1 := a_4.out.c1
      have ac2 := a_4.out.c2
      have ac3 := a_4.out.c3
      have ac4 := a_4.out.c4
      have ac5 := a_4.out.c5
      have bc0 := b_4.out.c0
      have bc1 := b_4.out.c1
      have bc2 := b_4.out.c2
      have bc3 := b_4.out.c3
      have bc4 := b_4.out.c4
      have bc5 := b_4.out.c5
      go_wp2_with fail
      clear ac0 ac1 ac2 ac3 ac4 ac5 bc0 bc1 bc2 bc3 bc4 bc5
      refine (hvb.out _).mono ?_
      rintro e v5 ⟨rfl, hb⟩
      have D5 := Lib.hid (D4.out.trans (hb.mono D4.out.size))
      have a_5 := Lib.hid (a_4.out.bel hb)
      have b_5 := Lib.hid (b_4.out.bel hb)
      have z_5 := Lib.hid (z_4.out.bel hb)
      clear D4 a_4 b_4 z_4
      clear hb
      have ac0 := a_5.out.c0
      have ac1 := a_5.out.c1
      have ac2 := a_5.out.c2
      have ac3 := a_5.out.c3
      have ac4 := a_5.out.c4
      have ac5 := a_5.out.c5
      have bc0 := b_5.out.c0
      have bc1 := b_5.out.c1
      have bc2 := b_5.out.c2
      have bc3 := b_5.out.c3
      have bc4 := b_5.out.c4
      have bc5 := b_5.out.c5
      go_wp2_with fail
      clear ac0 ac1 ac2 ac3 ac4 ac5 bc0 bc1 bc2 bc3 bc4 bc5
      refine (hc1.out _).mono ?_
      rintro e v6 ⟨rfl, hb⟩
      have D6 := Lib.hid (D5.out.trans (hb.mono D5.out.size))
      have a_6 := Lib.hid (a_5.out.bel hb)
      have b_6 := Lib.hid (b_5.out.bel hb)
      have z_6 := Lib.hid (z_5.out.bel hb)
      clear D5 a_5 b_5 z_5
      clear hb
      have h1 := H1.out
      have ac0 := a_6.out.c0
      have af0 := a_6.out.fz 0
      have ac1 := a_6.out.c1
      have af1 := a_6.out.fz 1
      have ac2 := a_6.out.c2
      have af2 := a_6.out.fz 2
      have ac3 := a_6.out.c3
      have af3 := a_6.out.fz 3
      have ac4 := a_6.out.c4
      have af4 := a_6.out.fz 4
      have ac5 := a_6.out.c5
      have af5 := a_6.out.fz 5
      have bc0 := b_6.out.c0
      have bf0 := b_6.out.fz 0
      have bc1 := b_6.out.c1
      have bf1 := b_6.out.fz 1
      have bc2 := b_6.out.c2
      have bf2 := b_6.out.fz 2
      have bc3 := b_6.out.c3
      have bf3 := b_6.out.fz 3
      have bc4 := b_6.out.c4
      have bf4 := b_6.out.fz 4
      have bc5 := b_6.out.c5
      have bf5 := b_6.out.fz 5
      go_wp2_with fail
      clear ac0 af0 ac1 af1 ac2 af2 ac3 af3 ac4 af4 ac5 af5 bc0 bf0 bc1 bf1 bc2 bf2 bc3 bf3 bc4 bf4 bc5 bf5 h1
      refine (hc2.out _).mono ?_
      rintro e v7 ⟨rfl, hb⟩
      have D7 := Lib.hid (D6.out.trans (hb.mono D6.out.size))
      have a_7 := Lib.hid (a_6.out.bel hb)
      have b_7 := Lib.hid (b_6.out.bel hb)
      have z_7 := Lib.hid (z_6.out.bel hb)
      clear D6 a_6 b_6 z_6
      clear hb
      have h2 := H2.out
      have ac0 := a_7.out.c0
      have af0 := a_7.out.fz 0
      have ac1 := a_7.out.c1
      have af1 := a_7.out.fz 1
      have ac2 := a_7.out.c2
      have af2 := a_7.out.fz 2
      have ac3 := a_7.out.c3
      have af3 := a_7.out.fz 3
      have ac4 := a_7.out.c4
      have af4 := a_7.out.fz 4
      have ac5 := a_7.out.c5
      have af5 := a_7.out.fz 5
      have bc0 := b_7.out.c0
      have bf0 := b_7.out.fz 0
      have bc1 := b_7.out.c1
      have bf1 := b_7.out.fz 1
      have bc2 := b_7.out.c2
      have bf2 := b_7.out.fz 2
      have bc3 := b_7.out.c3
      have bf3 := b_7.out.fz 3
      have bc4 := b_7.out.c4
      have bf4 := b_7.out.fz 4
      have bc5 := b_7.out.c5
      have bf5 := b_7.out.fz 5
      go_wp2_with fail
      clear ac0 af0 ac1 af1 ac2 af2 ac3 af3 ac4 af4 ac5 af5 bc0 bf0 bc1 bf1 bc2 bf2 bc3 bf3 bc4 bf4 bc5 bf5 h2
      have hvm2 := hvm.out; rw [HM.out] at hvm2; have HVM := Lib.hid hvm2; clear hvm2
      refine (HVM.out _).mono ?_
      rintro e v8 ⟨rfl, hb⟩
      have D8 := Lib.hid (D7.out.trans (hb.mono D7.out.size))
      have a_8 := Lib.hid (a_7.out.bel hb)
      have b_8 := Lib.hid (b_7.out.bel hb)
      have z_8 := Lib.hid (z_7.out.bel hb)
      clear D7 a_7 b_7 z_7
      clear hb
      have ac0 := a_8.out.c0
      have ac1 := a_8.out.c1
      have ac2 := a_8.out.c2
      have ac3 := a_8.out.c3
      have ac4 := a_8.out.c4
      have ac5 := a_8.out.c5
      have zc0 := z_8.out.c0
      have zf0 := z_8.out.fz 0
      have zc1 := z_8.out.c1
      have zf1 := z_8.out.fz 1
      have zc2 := z_8.out.c2
      have zf2 := z_8.out.fz 2
      have zc3 := z_8.out.c3
      have zf3 := z_8.out.fz 3
      have zc4 := z_8.out.c4
      have zf4 := z_8.out.fz 4
      have zc5 := z_8.out.c5
      have zf5 := z_8.out.fz 5
      go_wp2_with fail
      (try simp only [Exit.inBlock, Exit.then])
      refine bodyPost_ret (results_iv rfl _ _ (B1 + 1 + 1) noI _ rfl rfl (z_8.out.set noI)) rfl ?_; rw [HTT.out]; exact ⟨rfl, ((((((D8.out.setCell (p := ⟨B1 + 1 + 1, 0, none⟩) (by have := HB1.out; show w.heap.size ≤ B1 + 1 + 1; omega) _).setCell (p := ⟨B1 + 1 + 1, 1, none⟩) (by have := HB1.out; show w.heap.size ≤ B1 + 1 + 1; omega) _).setCell (p := ⟨B1 + 1 + 1, 2, none⟩) (by have := HB1.out; show w.heap.size ≤ B1 + 1 + 1; omega) _).setCell (p := ⟨B1 + 1 + 1, 3, none⟩) (by have := HB1.out; show w.heap.size ≤ B1 + 1 + 1; omega) _).setCell (p := ⟨B1 + 1 + 1, 4, none⟩) (by have := HB1.out; show w.heap.size ≤ B1 + 1 + 1; omega) _).setCell (p := ⟨B1 + 1 + 1, 5, none⟩) (by have := HB1.out; show w.heap.size ≤ B1 + 1 + 1; omega) _)⟩
end Go.Proofs.YtbcoblpnihdhgaaGreatDoor

/-
  The document's own answers of layer 5: Hull.
-/
set_option linter.unusedVariables false
set_option maxRecDepth 100000
namespace Go.Proofs.YtbcoblpnihdhgaaGreatDoor
open Go.RowKit
open Rt
theorem ivsCellB {w : World} {b off : Nat} {l : List Iv} (h : IvsIn w b off l) (j : Nat) (hj : j < l.length) (el : Iv) (he : el = l[j]) :
    w.cell? ⟨b, off + j * 6, none⟩ = some (.bool el.low.neg) ∧ w.cell? ⟨b, off + j * 6 + 1, none⟩ = some (.string el.low.num) ∧ w.cell? ⟨b, off + j * 6 + 2, none⟩ = some (.string el.low.den) ∧
    w.cell? ⟨b, off + j * 6 + 3, none⟩ = some (.bool el.high.neg) ∧ w.cell? ⟨b, off + j * 6 + 4, none⟩ = some (.string el.high.num) ∧ w.cell? ⟨b, off + j * 6 + 5, none⟩ = some (.string el.high.den) := by
  subst he
  exact ⟨h j hj 0 (by omega), h j hj 1 (by omega), h j hj 2 (by omega), h j hj 3 (by omega), h j hj 4 (by omega), h j hj 5 (by omega)⟩
/-- the hull of the first intervals of a list -/
def hullTo (l : List Iv) (k : Nat) : Iv := match l.take k with
  | [] => noI
  | x :: t => t.foldl joinI x
theorem hullTo_one (l : List Iv) (h : 0 < l.length) (el : Iv) (he : el = l[0]) : hullTo l 1 = el := by
  cases l with
  | nil => simp at h
  | cons x t => subst he; simp [hullTo]
theorem hullTo_next (l : List Iv) (k : Nat) (h1 : 1 ≤ k) (h : k < l.length) (el : Iv) (he : el = l[k]) : hullTo l (k + 1) = joinI (hullTo l k) el := by
  unfold hullTo
  rw [List.take_succ_eq_append_getElem h, ← he]
  cases l with
  | nil => simp at h
  | cons x t =>
    obtain ⟨k', rfl⟩ : ∃ k', k = k' + 1 := ⟨k - 1, by omega⟩
    simp [List.foldl_append]
theorem hullTo_all (l : List Iv) (h0 : 0 < l.length) (hl : l.length ≤ 1000) (hok : l.all okI = true) : hullI l = (hullTo l l.length, 0) := by
  unfold hullTo hullI
  rw [List.take_length, if_neg (by omega), hok]
  cases l with
  | nil => simp at h0
  | cons x t => rfl
theorem all_nextB {l : List Iv} {k : Nat} (hx : ∀ j (hj : j < l.length), j < k → okI l[j] = true) (hlt : k < l.length) (h : okI l[k] = true) : ∀ j (hj : j < l.length), j < k + 1 → okI l[j] = true := by
  intro j hj h'
  by_cases e : j = k
  · subst e; exact h
  · exact hx j hj (by omega)
theorem keepBL {W w' : World} {bo b off k : Nat} {o el : Iv} {l : List Iv} (ho : IvAt bo o W) (hl : IvsIn W b off l) (hk : k < l.length) (he : el = l[k]) (hb : Below W.heap.size W w') : Below W.heap.size W w' ∧ w'.cell? ⟨b, off + k * 6, none⟩ = some (.bool el.low.neg) ∧ w'.cell? ⟨b, off + k * 6 + 1, none⟩ = some (.string el.low.num) ∧ w'.cell? ⟨b, off + k * 6 + 2, none⟩ = some (.string el.low.den) ∧ w'.cell? ⟨bo, 0, none⟩ = some (.bool o.low.neg) ∧ w'.cell? ⟨bo, 1, none⟩ = some (.string o.low.num) ∧ w'.cell? ⟨bo, 2, none⟩ = some (.string o.low.den) := by
  obtain ⟨e0, e1, e2, e3, e4, e5⟩ := ivsCellB (hl.bel hb) k hk el he
  exact ⟨hb, e0, e1, e2, (ho.bel hb).c0, (ho.bel hb).c1, (ho.bel hb).c2⟩
theorem keepBH {W w' : World} {bo b off k : Nat} {x y : Raw} {el : Iv} {l : List Iv} (ho : IvAt bo ⟨x, y⟩ W) (hl : IvsIn W b off l) (hk : k < l.length) (he : el = l[k]) (hb : Below W.heap.size W w') : Below W.heap.size W w' ∧ w'.cell? ⟨b, off + k * 6 + 3, none⟩ = some (.bool el.high.neg) ∧ w'.cell? ⟨b, off + k * 6 + 4, none⟩ = some (.string el.high.num) ∧ w'.cell? ⟨b, off + k * 6 + 5, none⟩ = some (.string el.high.den) ∧ w'.cell? ⟨bo, 3, none⟩ = some (.bool y.neg) ∧ w'.cell? ⟨bo, 4, none⟩ = some (.string y.num) ∧ w'.cell? ⟨bo, 5, none⟩ = some (.string y.den) := by
  obtain ⟨e0, e1, e2, e3, e4, e5⟩ := ivsCellB (hl.bel hb) k hk el he
  exact ⟨hb, e3, e4, e5, (ho.bel hb).c3, (ho.bel hb).c4, (ho.bel hb).c5⟩
set_option maxHeartbeats 4000000 in
theorem refhull_none (a : Option Addr) (cap : Nat) (w : World) : Calls Tryz.prog 11 #[.slice a 0 cap] w (GivesI (noI, 10) w) := by
  have D0 := Lib.hid (Below.refl w.heap.size w)
  go_enter Tryz.func11, Tryz.ntmps11
  go_wp2_with fail
  obtain ⟨B1, hB1⟩ : ∃ B, B = w.heap.size := ⟨_, rfl⟩
  obtain ⟨W1_0, hW1_0⟩ : ∃ W, W = w.alloc (Obj.cells #[Value.bool false, Value.string ⟨#[]⟩, Value.string ⟨#[]⟩, Value.bool false, Value.string ⟨#[]⟩, Value.string ⟨#[]⟩] 26) := ⟨_, rfl⟩
  have hb : Below w.heap.size w W1_0 := by rw [hW1_0]; exact (Below.refl _ _).alloc (Nat.le_refl _) _
  have hzW1_0 : w.heap.size = B1 := by rw [hB1]
  have hlW1_0 : IvAt (B1) noI W1_0 := by rw [← hzW1_0, hW1_0]; exact ⟨heap_lastM _ _⟩
  have D1 := Lib.hid (D0.out.trans (hb.mono D0.out.size))
  clear hb
  have z_1 := Lib.hid hlW1_0
  clear hlW1_0
  rw [← hW1_0]
  simp only [← hB1]
  clear hW1_0 hzW1_0
  have HB1 := Lib.hid hB1
  clear hB1
  go_loopw [4] (fun i wr => i = .int .i64 0 ∧ Hid (Below w.heap.size w wr) ∧ Hid (IvAt B1 noI wr)) (fun _ _ => 0)
  case atStart => exact ⟨rfl, D1, z_1⟩
  case round =>
    obtain ⟨rfl, hB, hz⟩ := hrel
    clear D1 z_1
    have zc0 := hz.out.c0
    have zf0 := hz.out.fz 0
    have zc1 := hz.out.c1
    have zf1 := hz.out.fz 1
    have zc2 := hz.out.c2
    have zf2 := hz.out.fz 2
    have zc3 := hz.out.c3
    have zf3 := hz.out.fz 3
    have zc4 := hz.out.c4
    have zf4 := hz.out.fz 4
    have zc5 := hz.out.c5
    have zf5 := hz.out.fz 5
    go_wp2_with fail
    (try simp only [Exit.inBlock, Exit.then])
    refine bodyPost_ret (results_iv rfl _ _ (B1) noI _ rfl rfl (hz.out.set noI)) rfl ?_; skip; exact ⟨rfl, ((((((hB.out.setCell (p := ⟨B1, 0, none⟩) (by have := HB1.out; show w.heap.size ≤ B1; omega) _).setCell (p := ⟨B1, 1, none⟩) (by have := HB1.out; show w.heap.size ≤ B1; omega) _).setCell (p := ⟨B1, 2, none⟩) (by have := HB1.out; show w.heap.size ≤ B1; omega) _).setCell (p := ⟨B1, 3, none⟩) (by have := HB1.out; show w.heap.size ≤ B1; omega) _).setCell (p := ⟨B1, 4, none⟩) (by have := HB1.out; show w.heap.size ≤ B1; omega) _).setCell (p := ⟨B1, 5, none⟩) (by have := HB1.out; show w.heap.size ≤ B1; omega) _)⟩
set_option maxHeartbeats 4000000 in
theorem refhull_long (b off cap : Nat) (l : List Iv) (w : World) (h : 1000 < l.length) : Calls Tryz.prog 11 #[.slice (some ⟨b, off, none⟩) l.length cap] w (GivesI (noI, 2) w) := by
  have D0 := Lib.hid (Below.refl w.heap.size w)
  have hn : decide ((1000 : Int) < (l.length : Int)) = true := decide_eq_true (by omega)
  have HN := Lib.hid h
  clear h
  go_enter Tryz.func11, Tryz.ntmps11
  go_wp2_with fail
  (try simp only [Exit.inBlock, Exit.then])
  refine bodyPost_ret (results_iv rfl _ _ w.heap.size noI _ rfl rfl ⟨heap_lastM _ _⟩) rfl ?_; exact ⟨rfl, (Below.refl _ _).alloc (Nat.le_refl _) _⟩
set_option maxHeartbeats 8000000 in
theorem refhull_some (b off cap : Nat) (l : List Iv) (w : World) (h0 : 0 < l.length) (h1000 : l.length ≤ 1000) (hl : l.length ≤ cap) (hcap : cap ≤ maxLen) (hc : IvsIn w b off l) :
    Calls Tryz.prog 11 #[.slice (some ⟨b, off, none⟩) l.length cap] w (GivesI (hullI l) w) := by
  have D0 := Lib.hid (Below.refl w.heap.size w)
  obtain ⟨t, ht⟩ : ∃ t, t = hullI l := ⟨_, rfl⟩
  rw [← ht]
  have HT := Lib.hid ht
  have HC := Lib.hid hc
  have hn : decide ((1000 : Int) < (l.length : Int)) = false := decide_eq_false (by omega)
  have hq : ((l.length : Int) == 0) = false := by rw [beq_eq_false_iff_ne]; omega
  have HQ := Lib.hid hq
  unfold maxLen at hcap
  clear ht hc hq
  go_enter Tryz.func11, Tryz.ntmps11
  go_wp2_with fail
  obtain ⟨B1, hB1⟩ : ∃ B, B = w.heap.size := ⟨_, rfl⟩
  obtain ⟨W1_0, hW1_0⟩ : ∃ W, W = w.alloc (Obj.cells #[Value.bool false, Value.string ⟨#[]⟩, Value.string ⟨#[]⟩, Value.bool false, Value.string ⟨#[]⟩, Value.string ⟨#[]⟩] 26) := ⟨_, rfl⟩
  have hb : Below w.heap.size w W1_0 := by rw [hW1_0]; exact (Below.refl _ _).alloc (Nat.le_refl _) _
  have hzW1_0 : w.heap.size = B1 := by rw [hB1]
  have hlW1_0 : IvAt (B1) noI W1_0 := by rw [← hzW1_0, hW1_0]; exact ⟨heap_lastM _ _⟩
  have D1 := Lib.hid (D0.out.trans (hb.mono D0.out.size))
  clear hb
  have z_1 := Lib.hid hlW1_0
  clear hlW1_0
  rw [← hW1_0]
  simp only [← hB1]
  clear hW1_0 hzW1_0
  have HB1 := Lib.hid hB1
  clear hB1
  clear hn
  go_loopw [4] (fun i wr => ∃ k : Nat, k ≤ l.length ∧ i = .int .i64 k ∧ Hid (Below w.heap.size w wr) ∧ Hid (IvAt B1 noI wr) ∧ Hid (∀ j (hj : j < l.length), j < k → okI l[j] = true)) (fun i _ => l.length - (intOf i).toNat)
  case atStart => exact ⟨0, by omega, rfl, D1, z_1, Lib.hid (fun j _ h => absurd h (by omega))⟩
  case round =>
    obtain ⟨k, hk, rfl, hB, hz, hx⟩ := hrel
    clear D1 z_1
    by_cases hlt : k < l.length
    ·
      obtain ⟨el, hel⟩ : ∃ x, x = l[k] := ⟨_, rfl⟩
      obtain ⟨e0, e1, e2, e3, e4, e5⟩ := ivsCellB (HC.out.bel hB.out) k hlt el hel
      have HEL := Lib.hid hel; clear hel
      go_wp2_with fail
      clear e0 e1 e2 e3 e4 e5
      refine (refivalid_any el _).mono ?_
      rintro e v51 ⟨rfl, hb⟩
      have D51 := Lib.hid (hB.out.trans (hb.mono hB.out.size))
      have z_51 := Lib.hid (hz.out.bel hb)
      clear hB hz
      clear hb
      rcases Bool.eq_false_or_eq_true (okI el) with hbf | hbf
      ·
        rw [hbf]; have HBF := Lib.hid hbf; clear hbf
        go_wp2_with fail
        go_roundw
        case rel => exact ⟨k + 1, by omega, by go_num, D51, z_51, Lib.hid (all_nextB hx.out hlt (by rw [← HEL.out]; exact HBF.out))⟩
        case measure => simp [intOf]; omega
      ·
        rw [hbf]; have HBF := Lib.hid hbf; clear hbf
        have HTT : Hid (t = (noI, 1)) := Lib.hid (by rw [HT.out]; unfold hullI; rw [if_neg (by omega), if_neg]; rw [List.all_eq_true]; intro h; have := h l[k] (List.getElem_mem hlt); rw [← HEL.out, HBF.out] at this; cases this)
        have zc0 := z_51.out.c0
        have zf0 := z_51.out.fz 0
        have zc1 := z_51.out.c1
        have zf1 := z_51.out.fz 1
        have zc2 := z_51.out.c2
        have zf2 := z_51.out.fz 2
        have zc3 := z_51.out.c3
        have zf3 := z_51.out.fz 3
        have zc4 := z_51.out.c4
        have zf4 := z_51.out.fz 4
        have zc5 := z_51.out.c5
        have zf5 := z_51.out.fz 5
        go_wp2_with fail
        (try simp only [Exit.inBlock, Exit.then])
        refine bodyPost_ret (results_iv rfl _ _ (B1) noI _ rfl rfl (z_51.out.set noI)) rfl ?_; rw [HTT.out]; exact ⟨rfl, ((((((D51.out.setCell (p := ⟨B1, 0, none⟩) (by have := HB1.out; show w.heap.size ≤ B1; omega) _).setCell (p := ⟨B1, 1, none⟩) (by have := HB1.out; show w.heap.size ≤ B1; omega) _).setCell (p := ⟨B1, 2, none⟩) (by have := HB1.out; show w.heap.size ≤ B1; omega) _).setCell (p := ⟨B1, 3, none⟩) (by have := HB1.out; show w.heap.size ≤ B1; omega) _).setCell (p := ⟨B1, 4, none⟩) (by have := HB1.out; show w.heap.size ≤ B1; omega) _).setCell (p := ⟨B1, 5, none⟩) (by have := HB1.out; show w.heap.size ≤ B1; omega) _)⟩
    ·
      have HTT : Hid (t = (hullTo l l.length, 0)) := Lib.hid (by rw [HT.out]; refine hullTo_all l h0 h1000 ?_; rw [List.all_eq_true]; intro i hi; obtain ⟨j, hj, rfl⟩ := List.getElem_of_mem hi; exact hx.out j hj (by omega))
      obtain ⟨e, he⟩ : ∃ x, x = l[0] := ⟨_, rfl⟩
      obtain ⟨e0, e1, e2, e3, e4, e5⟩ := ivsCellB (HC.out.bel hB.out) 0 h0 e he
      simp only [Nat.zero_mul, Nat.add_zero] at e0 e1 e2 e3 e4 e5
      have HO1 := Lib.hid (hullTo_one l h0 e he); clear he
      have hq := HQ.out
      have zl := blk_lt hz.out.cells
      go_wp2_with fail
      clear e0 e1 e2 e3 e4 e5 hq zl
      have HZL := Lib.hid (blk_lt hz.out.cells)
      obtain ⟨B8, hB8⟩ : ∃ B, B = wr.heap.size := ⟨_, rfl⟩
      obtain ⟨W8_0, hW8_0⟩ : ∃ W, W = wr.alloc (Obj.cells #[Value.bool e.low.neg, Value.string e.low.num, Value.string e.low.den, Value.bool e.high.neg, Value.string e.high.num, Value.string e.high.den] 26) := ⟨_, rfl⟩
      have hb : Below wr.heap.size wr W8_0 := by rw [hW8_0]; exact (Below.refl _ _).alloc (Nat.le_refl _) _
      have hzW8_0 : wr.heap.size = B8 := by rw [hB8]
      have hlW8_0 : IvAt (B8) e W8_0 := by rw [← hzW8_0, hW8_0]; exact ⟨heap_lastM _ _⟩
      have D71 := Lib.hid (hB.out.trans (hb.mono hB.out.size))
      have z_71 := Lib.hid (hz.out.bel hb)
      clear hB hz
      clear hb
      have o_71 := Lib.hid hlW8_0
      clear hlW8_0
      rw [← hW8_0]
      simp only [← hB8]
      clear hW8_0 hzW8_0
      have HB8 := Lib.hid hB8
      clear hB8
      have HNE : Hid (B1 ≠ B8) := Lib.hid (by have := HZL.out; have := HB8.out; omega)
      have HLO : Hid (w.heap.size ≤ B8) := Lib.hid (by have h1 := HB1.out; have h2 := HZL.out; have h3 := HB8.out; omega)
      go_loopw [6] (fun i wr => ∃ k : Nat, 1 ≤ k ∧ k ≤ l.length ∧ i = .int .i64 k ∧ Hid (Below w.heap.size w wr) ∧ Hid (IvAt B1 noI wr) ∧ Hid (IvAt B8 (hullTo l k) wr)) (fun i _ => l.length - (intOf i).toNat)
      case atStart => exact ⟨1, by omega, by omega, rfl, D71, z_71, Lib.hid (by rw [HO1.out]; exact o_71.out)⟩
      case round =>
        obtain ⟨k, hk1, hk, rfl, hB, hz, ho⟩ := hrel
        clear D71 z_71 o_71
        obtain ⟨o, ho2⟩ : ∃ x, x = hullTo l k := ⟨_, rfl⟩
        rw [← ho2] at ho
        by_cases hlt : k < l.length
        ·
          obtain ⟨el, hel⟩ : ∃ x, x = l[k] := ⟨_, rfl⟩
          have HN := Lib.hid (hullTo_next l k hk1 hlt el hel); rw [← ho2] at HN
          have HEL := Lib.hid hel; clear hel ho2
          have hrow := Lib.hid (HC.out.bel hB.out)
          have HCM1 : Hid (∀ w', Calls Tryz.prog 28 #[.agg #[.bool el.low.neg, .string el.low.num, .string el.low.den], .agg #[.bool o.low.neg, .string o.low.num, .string o.low.den]] w' fun e w'' => e = .returned (.int .i64 (cmpE el.low o.low)) ∧ Below w'.heap.size w' w'') := Lib.hid (fun w' => refcmp4_any el.low o.low w')
          have HCM2 : Hid (∀ w', Calls Tryz.prog 28 #[.agg #[.bool el.high.neg, .string el.high.num, .string el.high.den], .agg #[.bool o.high.neg, .string o.high.num, .string o.high.den]] w' fun e w'' => e = .returned (.int .i64 (cmpE el.high o.high)) ∧ Below w'.heap.size w' w'') := Lib.hid (fun w' => refcmp4_any el.high o.high w')
          have HJ : Hid (joinI o el = ⟨if decide (cmpE el.low o.low < 0) then el.low else o.low, if decide (0 < cmpE el.high o.high) then el.high else o.high⟩) := Lib.hid (by unfold joinI minR maxR; simp only [decide_eq_true_eq])
          generalize cmpE el.low o.low = c1 at *
          generalize cmpE el.high o.high = c2 at *
          go_upto_region 14 with fail
          go_cut [45] (fun s45 wx => s45 = .bool (decide (c1 < 0)) ∧ Hid (Below wr.heap.size wr wx))
          case first =>
            have HDR : Hid (Below wr.heap.size wr wr.drew) := Lib.hid ((Below.refl _ _).drew)
            go_region_held3 (fun w' => Below wr.heap.size wr w' ∧ w'.cell? ⟨b, off + k * 6, none⟩ = some (.bool el.low.neg) ∧ w'.cell? ⟨b, off + k * 6 + 1, none⟩ = some (.string el.low.num) ∧ w'.cell? ⟨b, off + k * 6 + 2, none⟩ = some (.string el.low.den) ∧ w'.cell? ⟨B8, 0, none⟩ = some (.bool o.low.neg) ∧ w'.cell? ⟨B8, 1, none⟩ = some (.string o.low.num) ∧ w'.cell? ⟨B8, 2, none⟩ = some (.string o.low.den)) (first | (with_reducible assumption) | with_reducible exact keepBL ho.out hrow.out hlt HEL.out HDR.out | with_reducible exact keepBL ho.out hrow.out hlt HEL.out HY.out) (first | (go_at_call 28; ((with_reducible refine (HCM1.out _).mono ?_); rintro e y1 ⟨rfl, hy⟩; have HY := Lib.hid (HDR.out.trans (hy.mono HDR.out.size)); clear hy)) | fail "no arm")
            all_goals (go_wp2_with fail; go_meet; exact ⟨by first | rfl | simp, HY⟩)
          case rest =>
            obtain ⟨rfl, hcutB⟩ := hcut
            obtain ⟨wc14, hnm⟩ : ∃ x, x = wc := ⟨_, rfl⟩
            subst hnm
            have hB1 := Lib.hid (hB.out.trans (hcutB.out.mono hB.out.size)); have hz1 := Lib.hid (hz.out.bel hcutB.out); have ho1 := Lib.hid (ho.out.bel hcutB.out); have hrow1 := Lib.hid (hrow.out.bel hcutB.out)
            clear hB hz ho hrow hcutB
            rcases Bool.eq_false_or_eq_true (decide (c1 < 0)) with h1 | h1
            ·
              rw [h1]; rw [h1] at HJ; clear h1
              obtain ⟨e0, e1, e2, e3, e4, e5⟩ := ivsCellB hrow1.out k hlt el HEL.out
              have oc0 := ho1.out.c0; have of0 := ho1.out.fz 0
              have oc1 := ho1.out.c1; have of1 := ho1.out.fz 1
              have oc2 := ho1.out.c2; have of2 := ho1.out.fz 2
              go_upto_region 16 with fail
              obtain ⟨w2, hw2⟩ : ∃ x, x = (((wc14.setCell ⟨B8, 0, none⟩ (.bool el.low.neg)).setCell ⟨B8, 1, none⟩ (.string el.low.num)).setCell ⟨B8, 2, none⟩ (.string el.low.den)) := ⟨_, rfl⟩
              have hbes : Bes B8 wc14 w2 := by rw [hw2]; exact ((Bes.set _ B8 0 _).trans (Bes.set _ B8 1 _)).trans (Bes.set _ B8 2 _)
              have ho2 : Hid (IvAt B8 (⟨el.low, o.high⟩ : Iv) w2) := Lib.hid (by rw [hw2]; exact ho1.out.setLow el.low)
              have hz2 := Lib.hid (hz1.out.bes hbes HNE.out)
              have hB2 : Hid (Below w.heap.size w w2) := Lib.hid (by rw [hw2]; exact ((hB1.out.setCell (p := ⟨B8, 0, none⟩) HLO.out _).setCell (p := ⟨B8, 1, none⟩) HLO.out _).setCell (p := ⟨B8, 2, none⟩) HLO.out _)
              have hrow2 : Hid (IvsIn w2 b off l) := Lib.hid (HC.out.bel hB2.out)
              rw [← hw2]; clear hbes hw2 e0 e1 e2 e3 e4 e5 oc0 oc1 oc2 of0 of1 of2 hB1 hz1 ho1 hrow1
              go_upto_region 16 with fail
              go_cut [60] (fun s60 wx => s60 = .bool (decide (0 < c2)) ∧ Hid (Below w2.heap.size w2 wx))
              case first =>
                have HDR : Hid (Below w2.heap.size w2 w2.drew) := Lib.hid ((Below.refl _ _).drew)
                go_region_held3 (fun w' => Below w2.heap.size w2 w' ∧ w'.cell? ⟨b, off + k * 6 + 3, none⟩ = some (.bool el.high.neg) ∧ w'.cell? ⟨b, off + k * 6 + 4, none⟩ = some (.string el.high.num) ∧ w'.cell? ⟨b, off + k * 6 + 5, none⟩ = some (.string el.high.den) ∧ w'.cell? ⟨B8, 3, none⟩ = some (.bool o.high.neg) ∧ w'.cell? ⟨B8, 4, none⟩ = some (.string o.high.num) ∧ w'.cell? ⟨B8, 5, none⟩ = some (.string o.high.den)) (first | (with_reducible assumption) | exact keepBH (x := el.low) (y := o.high) ho2.out hrow2.out hlt HEL.out HDR.out | exact keepBH (x := el.low) (y := o.high) ho2.out hrow2.out hlt HEL.out HY.out) (first | (go_at_call 28; ((with_reducible refine (HCM2.out _).mono ?_); rintro e y1 ⟨rfl, hy⟩; have HY := Lib.hid (HDR.out.trans (hy.mono HDR.out.size)); clear hy)) | fail "no arm")
                all_goals (go_wp2_with fail; go_meet; exact ⟨by first | rfl | simp, HY⟩)
              case rest =>
                obtain ⟨rfl, hcutB⟩ := hcut
                obtain ⟨wc16, hnm⟩ : ∃ x, x = wc := ⟨_, rfl⟩
                subst hnm
                have hB3 := Lib.hid (hB2.out.trans (hcutB.out.mono hB2.out.size)); have hz3 := Lib.hid (hz2.out.bel hcutB.out); have ho3 := Lib.hid (ho2.out.bel hcutB.out); have hrow3 := Lib.hid (hrow2.out.bel hcutB.out)
                clear hB2 hz2 ho2 hrow2 hcutB
                rcases Bool.eq_false_or_eq_true (decide (0 < c2)) with h2 | h2
                ·
                  rw [h2]; rw [h2] at HJ; clear h2
                  have HJ2 : Hid (hullTo l (k + 1) = (⟨el.low, el.high⟩ : Iv)) := Lib.hid (by rw [HN.out, HJ.out]; rfl)
                  obtain ⟨e0, e1, e2, e3, e4, e5⟩ := ivsCellB hrow3.out k hlt el HEL.out
                  have oc3 := ho3.out.c3; have of3 := ho3.out.fz 3
                  have oc4 := ho3.out.c4; have of4 := ho3.out.fz 4
                  have oc5 := ho3.out.c5; have of5 := ho3.out.fz 5
                  go_upto_region 13 with fail
                  obtain ⟨w4, hw4⟩ : ∃ x, x = (((wc16.setCell ⟨B8, 3, none⟩ (.bool el.high.neg)).setCell ⟨B8, 4, none⟩ (.string el.high.num)).setCell ⟨B8, 5, none⟩ (.string el.high.den)) := ⟨_, rfl⟩
                  have hbes : Bes B8 wc16 w4 := by rw [hw4]; exact ((Bes.set _ B8 3 _).trans (Bes.set _ B8 4 _)).trans (Bes.set _ B8 5 _)
                  have ho4 : Hid (IvAt B8 (⟨el.low, el.high⟩ : Iv) w4) := Lib.hid (by rw [hw4]; exact ho3.out.setHigh el.high)
                  have hz4 := Lib.hid (hz3.out.bes hbes HNE.out)
                  have hB4 : Hid (Below w.heap.size w w4) := Lib.hid (by rw [hw4]; exact ((hB3.out.setCell (p := ⟨B8, 3, none⟩) HLO.out _).setCell (p := ⟨B8, 4, none⟩) HLO.out _).setCell (p := ⟨B8, 5, none⟩) HLO.out _)
                  rw [← hw4]; clear hbes hw4 e0 e1 e2 e3 e4 e5 oc3 oc4 oc5 of3 of4 of5 hB3 hz3 ho3 hrow3
                  go_wp2_with fail
                  go_roundw
                  case rel => exact ⟨k + 1, by omega, by omega, by go_num, hB4, hz4, Lib.hid (by rw [HJ2.out]; exact ho4.out)⟩
                  case measure => simp [intOf]; omega
                ·
                  rw [h2]; rw [h2] at HJ; clear h2
                  have HJ2 : Hid (hullTo l (k + 1) = (⟨el.low, o.high⟩ : Iv)) := Lib.hid (by rw [HN.out, HJ.out]; rfl)
                  have hB4 := hB3; have hz4 := hz3; have ho4 := ho3; clear hB3 hz3 ho3 hrow3
                  go_wp2_with fail
                  go_roundw
                  case rel => exact ⟨k + 1, by omega, by omega, by go_num, hB4, hz4, Lib.hid (by rw [HJ2.out]; exact ho4.out)⟩
                  case measure => simp [intOf]; omega
            ·
              rw [h1]; rw [h1] at HJ; clear h1
              obtain ⟨w2, hw2⟩ : ∃ x, x = wc14 := ⟨_, rfl⟩
              subst hw2
              have hB2 := hB1; have hz2 := hz1; have ho2 := ho1; have hrow2 := hrow1; clear hB1 hz1 ho1 hrow1
              go_upto_region 16 with fail
              go_cut [60] (fun s60 wx => s60 = .bool (decide (0 < c2)) ∧ Hid (Below w2.heap.size w2 wx))
              case first =>
                have HDR : Hid (Below w2.heap.size w2 w2.drew) := Lib.hid ((Below.refl _ _).drew)
                go_region_held3 (fun w' => Below w2.heap.size w2 w' ∧ w'.cell? ⟨b, off + k * 6 + 3, none⟩ = some (.bool el.high.neg) ∧ w'.cell? ⟨b, off + k * 6 + 4, none⟩ = some (.string el.high.num) ∧ w'.cell? ⟨b, off + k * 6 + 5, none⟩ = some (.string el.high.den) ∧ w'.cell? ⟨B8, 3, none⟩ = some (.bool o.high.neg) ∧ w'.cell? ⟨B8, 4, none⟩ = some (.string o.high.num) ∧ w'.cell? ⟨B8, 5, none⟩ = some (.string o.high.den)) (first | (with_reducible assumption) | exact keepBH (x := o.low) (y := o.high) ho2.out hrow2.out hlt HEL.out HDR.out | exact keepBH (x := o.low) (y := o.high) ho2.out hrow2.out hlt HEL.out HY.out) (first | (go_at_call 28; ((with_reducible refine (HCM2.out _).mono ?_); rintro e y1 ⟨rfl, hy⟩; have HY := Lib.hid (HDR.out.trans (hy.mono HDR.out.size)); clear hy)) | fail "no arm")
                all_goals (go_wp2_with fail; go_meet; exact ⟨by first | rfl | simp, HY⟩)
              case rest =>
                obtain ⟨rfl, hcutB⟩ := hcut
                obtain ⟨wc16, hnm⟩ : ∃ x, x = wc := ⟨_, rfl⟩
                subst hnm
                have hB3 := Lib.hid (hB2.out.trans (hcutB.out.mono hB2.out.size)); have hz3 := Lib.hid (hz2.out.bel hcutB.out); have ho3 := Lib.hid (ho2.out.bel hcutB.out); have hrow3 := Lib.hid (hrow2.out.bel hcutB.out)
                clear hB2 hz2 ho2 hrow2 hcutB
                rcases Bool.eq_false_or_eq_true (decide (0 < c2)) with h2 | h2
                ·
                  rw [h2]; rw [h2] at HJ; clear h2
                  have HJ2 : Hid (hullTo l (k + 1) = (⟨o.low, el.high⟩ : Iv)) := Lib.hid (by rw [HN.out, HJ.out]; rfl)
                  obtain ⟨e0, e1, e2, e3, e4, e5⟩ := ivsCellB hrow3.out k hlt el HEL.out
                  have oc3 := ho3.out.c3; have of3 := ho3.out.fz 3
                  have oc4 := ho3.out.c4; have of4 := ho3.out.fz 4
                  have oc5 := ho3.out.c5; have of5 := ho3.out.fz 5
                  go_upto_region 13 with fail
                  obtain ⟨w4, hw4⟩ : ∃ x, x = (((wc16.setCell ⟨B8, 3, none⟩ (.bool el.high.neg)).setCell ⟨B8, 4, none⟩ (.string el.high.num)).setCell ⟨B8, 5, none⟩ (.string el.high.den)) := ⟨_, rfl⟩
                  have hbes : Bes B8 wc16 w4 := by rw [hw4]; exact ((Bes.set _ B8 3 _).trans (Bes.set _ B8 4 _)).trans (Bes.set _ B8 5 _)
                  have ho4 : Hid (IvAt B8 (⟨o.low, el.high⟩ : Iv) w4) := Lib.hid (by rw [hw4]; exact ho3.out.setHigh el.high)
                  have hz4 := Lib.hid (hz3.out.bes hbes HNE.out)
                  have hB4 : Hid (Below w.heap.size w w4) := Lib.hid (by rw [hw4]; exact ((hB3.out.setCell (p := ⟨B8, 3, none⟩) HLO.out _).setCell (p := ⟨B8, 4, none⟩) HLO.out _).setCell (p := ⟨B8, 5, none⟩) HLO.out _)
                  rw [← hw4]; clear hbes hw4 e0 e1 e2 e3 e4 e5 oc3 oc4 oc5 of3 of4 of5 hB3 hz3 ho3 hrow3
                  go_wp2_with fail
                  go_roundw
                  case rel => exact ⟨k + 1, by omega, by omega, by go_num, hB4, hz4, Lib.hid (by rw [HJ2.out]; exact ho4.out)⟩
                  case measure => simp [intOf]; omega
                ·
                  rw [h2]; rw [h2] at HJ; clear h2
                  have HJ2 : Hid (hullTo l (k + 1) = (⟨o.low, o.high⟩ : Iv)) := Lib.hid (by rw [HN.out, HJ.out]; rfl)
                  have hB4 := hB3; have hz4 := hz3; have ho4 := ho3; clear hB3 hz3 ho3 hrow3
                  go_wp2_with fail
                  go_roundw
                  case rel => exact ⟨k + 1, by omega, by omega, by go_num, hB4, hz4, Lib.hid (by rw [HJ2.out]; exact ho4.out)⟩
                  case measure => simp [intOf]; omega
        ·
          obtain rfl : k = l.length := by omega
          have HO2 := Lib.hid ho2; clear ho2
          have oc0 := ho.out.c0
          have oc1 := ho.out.c1
          have oc2 := ho.out.c2
          have oc3 := ho.out.c3
          have oc4 := ho.out.c4
          have oc5 := ho.out.c5
          have hle : w.heap.size ≤ B1 := by have := HB1.out; omega
          have zc0 := hz.out.c0
          have zf0 := hz.out.fz 0
          have zc1 := hz.out.c1
          have zf1 := hz.out.fz 1
          have zc2 := hz.out.c2
          have zf2 := hz.out.fz 2
          have zc3 := hz.out.c3
          have zf3 := hz.out.fz 3
          have zc4 := hz.out.c4
          have zf4 := hz.out.fz 4
          have zc5 := hz.out.c5
          have zf5 := hz.out.fz 5
          go_wp2_with fail
          (try simp only [Exit.inBlock, Exit.then])
          refine bodyPost_ret (results_iv rfl _ _ B1 o _ rfl rfl (hz.out.set o)) rfl ?_; rw [HTT.out, ← HO2.out]; exact ⟨rfl, ((((((hB.out.setCell (p := ⟨B1, 0, none⟩) hle _).setCell (p := ⟨B1, 1, none⟩) hle _).setCell (p := ⟨B1, 2, none⟩) hle _).setCell (p := ⟨B1, 3, none⟩) hle _).setCell (p := ⟨B1, 4, none⟩) hle _).setCell (p := ⟨B1, 5, none⟩) hle _)⟩
theorem refihull_any (v : Value) (l : List Iv) (w : World) (h : IvsOk w v l) : Calls Tryz.prog 11 #[v] w (GivesI (hullI l) w) := by
  rcases h.form with ⟨rfl, a, cap, rfl⟩ | ⟨h0, b, off, cap, rfl, h1, h2, hc⟩
  · exact refhull_none a cap w
  · by_cases h1000 : l.length ≤ 1000
    · exact refhull_some b off cap l w h0 h1000 h1 h2 hc
    · have e : hullI l = (noI, 2) := by unfold hullI; rw [if_pos (by omega)]
      rw [e]; exact refhull_long b off cap l w (by omega)
end Go.Proofs.YtbcoblpnihdhgaaGreatDoor

/-
  The document's own answers of layer 5: Mul.
-/
set_option linter.unusedVariables false
set_option maxRecDepth 100000
namespace Go.Proofs.YtbcoblpnihdhgaaGreatDoor
open Go.RowKit
open Rt
/-- the two ends of an interval as a list of numbers -/
structure TwoB (B : Nat) (i : Iv) (w : World) : Prop where
  cells : w.heap[B]? = some (.cells #[.bool i.low.neg, .string i.low.num, .string i.low.den, .bool i.high.neg, .string i.high.num, .string i.high.den] 24 (0, 0))
theorem TwoB.bel {B : Nat} {i : Iv} {w w' : World} (h : TwoB B i w) (hb : Below w.heap.size w w') : TwoB B i w' := ⟨(hb.block _ (blk_lt h.cells)).trans h.cells⟩
theorem TwoB.bes {B C : Nat} {i : Iv} {w w' : World} (h : TwoB B i w) (hb : Bes C w w') (hne : B ≠ C) : TwoB B i w' := ⟨(hb.block _ (blk_lt h.cells) hne).trans h.cells⟩
theorem TwoB.c0 {B : Nat} {i : Iv} {w : World} (h : TwoB B i w) : w.cell? ⟨B, 0, none⟩ = some (.bool i.low.neg) := by rw [Lib.cell_of_heap h.cells]; rfl
theorem TwoB.c1 {B : Nat} {i : Iv} {w : World} (h : TwoB B i w) : w.cell? ⟨B, 1, none⟩ = some (.string i.low.num) := by rw [Lib.cell_of_heap h.cells]; rfl
theorem TwoB.c2 {B : Nat} {i : Iv} {w : World} (h : TwoB B i w) : w.cell? ⟨B, 2, none⟩ = some (.string i.low.den) := by rw [Lib.cell_of_heap h.cells]; rfl
theorem TwoB.c3 {B : Nat} {i : Iv} {w : World} (h : TwoB B i w) : w.cell? ⟨B, 3, none⟩ = some (.bool i.high.neg) := by rw [Lib.cell_of_heap h.cells]; rfl
theorem TwoB.c4 {B : Nat} {i : Iv} {w : World} (h : TwoB B i w) : w.cell? ⟨B, 4, none⟩ = some (.string i.high.num) := by rw [Lib.cell_of_heap h.cells]; rfl
theorem TwoB.c5 {B : Nat} {i : Iv} {w : World} (h : TwoB B i w) : w.cell? ⟨B, 5, none⟩ = some (.string i.high.den) := by rw [Lib.cell_of_heap h.cells]; rfl
theorem RatAt.besB {B C : Nat} {r : Raw} {w w' : World} (h : RatAt B r w) (hb : Bes C w w') (hne : B ≠ C) : RatAt B r w' := ⟨(hb.block _ (blk_lt h.cells) hne).trans h.cells⟩
def IdxB (k : Nat) (i : Value) : Prop := (k = 0 ∧ i = .int .i64 0) ∨ (k = 1 ∧ i = .int .i64 1) ∨ (k = 2 ∧ i = .int .i64 2)
/-- the least and the greatest of the first products -/
def outMul (a b : Iv) : Nat → Iv
  | 0 => noI
  | 1 => ⟨(mulE a.low b.low).1, (mulE a.low b.low).1⟩
  | 2 => ⟨minR (mulE a.low b.low).1 (mulE a.low b.high).1, maxR (mulE a.low b.low).1 (mulE a.low b.high).1⟩
  | 3 => ⟨minR (minR (mulE a.low b.low).1 (mulE a.low b.high).1) (mulE a.high b.low).1, maxR (maxR (mulE a.low b.low).1 (mulE a.low b.high).1) (mulE a.high b.low).1⟩
  | _ => ⟨lowM a b, highM a b⟩
theorem outMul_one (a b : Iv) (p : Raw) (e : Int) (h : (prods a b)[0]? = some (p, e)) : outMul a b 1 = ⟨p, p⟩ := by
  have h' : mulE a.low b.low = (p, e) := Option.some.inj (show some (mulE a.low b.low) = some (p, e) from h)
  show (⟨(mulE a.low b.low).1, (mulE a.low b.low).1⟩ : Iv) = ⟨p, p⟩
  rw [h']
theorem outMul_next (a b : Iv) (n : Nat) (h0 : 0 < n) (h4 : n < 4) (p : Raw) (hp : ((prods a b)[n]?).map Prod.fst = some p) : outMul a b (n + 1) = ⟨minR (outMul a b n).low p, maxR (outMul a b n).high p⟩ := by
  match n, h0, h4 with
  | 1, _, _ => simp [prods] at hp; subst hp; rfl
  | 2, _, _ => simp [prods] at hp; subst hp; rfl
  | 3, _, _ => simp [prods] at hp; subst hp; rfl
/-- the first products are without an error -/
def OkN (a b : Iv) (n : Nat) : Prop := ∀ m x, m < n → (prods a b)[m]? = some x → x.2 = 0
theorem okN_next {a b : Iv} {n : Nat} (h : OkN a b n) {x : Raw × Int} (hx : (prods a b)[n]? = some x) (h0 : x.2 = 0) : OkN a b (n + 1) := by
  intro m y hm hy
  by_cases e : m = n
  · subst e; rw [hx] at hy; cases hy; exact h0
  · exact h m y (by omega) hy
theorem mulI_okN {a b : Iv} (hok : (okI a && okI b) = true) (h : OkN a b 4) : mulI a b = (⟨lowM a b, highM a b⟩, 0) := by
  unfold mulI
  rw [hok, if_pos (by rfl), if_pos ⟨h 0 _ (by omega) rfl, h 1 _ (by omega) rfl, h 2 _ (by omega) rfl, h 3 _ (by omega) rfl⟩]
theorem keepM {W w' : World} {o1 o2 : Nat} {a b : Iv} (h1 : TwoB o1 a W) (h2 : TwoB o2 b W) (hb : Below W.heap.size W w') : Below W.heap.size W w' ∧ w'.cell? ⟨o1, 0, none⟩ = some (.bool a.low.neg) ∧ w'.cell? ⟨o1, 1, none⟩ = some (.string a.low.num) ∧ w'.cell? ⟨o1, 2, none⟩ = some (.string a.low.den) ∧ w'.cell? ⟨o1, 3, none⟩ = some (.bool a.high.neg) ∧ w'.cell? ⟨o1, 4, none⟩ = some (.string a.high.num) ∧ w'.cell? ⟨o1, 5, none⟩ = some (.string a.high.den) ∧ w'.cell? ⟨o2, 0, none⟩ = some (.bool b.low.neg) ∧ w'.cell? ⟨o2, 1, none⟩ = some (.string b.low.num) ∧ w'.cell? ⟨o2, 2, none⟩ = some (.string b.low.den) ∧ w'.cell? ⟨o2, 3, none⟩ = some (.bool b.high.neg) ∧ w'.cell? ⟨o2, 4, none⟩ = some (.string b.high.num) ∧ w'.cell? ⟨o2, 5, none⟩ = some (.string b.high.den) := by
  exact ⟨hb, (h1.bel hb).c0, (h1.bel hb).c1, (h1.bel hb).c2, (h1.bel hb).c3, (h1.bel hb).c4, (h1.bel hb).c5, (h2.bel hb).c0, (h2.bel hb).c1, (h2.bel hb).c2, (h2.bel hb).c3, (h2.bel hb).c4, (h2.bel hb).c5⟩
set_option maxHeartbeats 40000000 in
theorem refimul_any (a b : Iv) (w : World) : Calls Tryz.prog 9 #[.agg #[.bool a.low.neg, .string a.low.num, .string a.low.den, .bool a.high.neg, .string a.high.num, .string a.high.den], .agg #[.bool b.low.neg, .string b.low.num, .string b.low.den, .bool b.high.neg, .string b.high.num, .string b.high.den]] w (GivesI (mulI a b) w) := by
  obtain ⟨t, ht⟩ : ∃ t, t = mulI a b := ⟨_, rfl⟩
  rw [← ht]
  have D0 := Lib.hid (Below.refl w.heap.size w)
  by_cases ha : okI a = true
  case neg =>
    have ha := Bool.eq_false_iff.2 ha
    have hva : Hid (∀ w, Calls Tryz.prog 15 #[.agg #[.bool a.low.neg, .string a.low.num, .string a.low.den, .bool a.high.neg, .string a.high.num, .string a.high.den]] w (GivesB false w)) := Lib.hid (fun w => by have := refivalid_any a w; rwa [ha] at this)
    have HTT : Hid (t = (noI, 1)) := Lib.hid (by rw [ht]; unfold mulI; rw [ha]; rfl)
    clear ht ha
    go_enter Tryz.func9, Tryz.ntmps9
    go_wp2_with fail
    obtain ⟨B1, hB1⟩ : ∃ B, B = w.heap.size := ⟨_, rfl⟩
    obtain ⟨W1_0, hW1_0⟩ : ∃ W, W = w.alloc (Obj.cells #[Value.bool a.low.neg, Value.string a.low.num, Value.string a.low.den, Value.bool a.high.neg, Value.string a.high.num, Value.string a.high.den] 26) := ⟨_, rfl⟩
    have hb : Below w.heap.size w W1_0 := by rw [hW1_0]; exact (Below.refl _ _).alloc (Nat.le_refl _) _
    have hzW1_0 : w.heap.size = B1 := by rw [hB1]
    have hlW1_0 : IvAt (B1) a W1_0 := by rw [← hzW1_0, hW1_0]; exact ⟨heap_lastM _ _⟩
    have D1 := Lib.hid (D0.out.trans (hb.mono D0.out.size))
    clear hb
    have a_1 := Lib.hid hlW1_0
    clear hlW1_0
    obtain ⟨W1_1, hW1_1⟩ : ∃ W, W = W1_0.alloc (Obj.cells #[Value.bool b.low.neg, Value.string b.low.num, Value.string b.low.den, Value.bool b.high.neg, Value.string b.high.num, Value.string b.high.den] 26) := ⟨_, rfl⟩
    have hb : Below W1_0.heap.size W1_0 W1_1 := by rw [hW1_1]; exact (Below.refl _ _).alloc (Nat.le_refl _) _
    have hzW1_1 : W1_0.heap.size = B1 + 1 := by rw [hW1_0]; simp [hzW1_0]
    have hlW1_1 : IvAt (B1 + 1) b W1_1 := by rw [← hzW1_1, hW1_1]; exact ⟨heap_lastM _ _⟩
    have D2 := Lib.hid (D1.out.trans (hb.mono D1.out.size))
    have a_2 := Lib.hid (a_1.out.bel hb)
    clear D1 a_1
    clear hb
    have b_2 := Lib.hid hlW1_1
    clear hlW1_1
    obtain ⟨W1_2, hW1_2⟩ : ∃ W, W = W1_1.alloc (Obj.cells #[Value.bool false, Value.string ⟨#[]⟩, Value.string ⟨#[]⟩, Value.bool false, Value.string ⟨#[]⟩, Value.string ⟨#[]⟩] 26) := ⟨_, rfl⟩
    have hb : Below W1_1.heap.size W1_1 W1_2 := by rw [hW1_2]; exact (Below.refl _ _).alloc (Nat.le_refl _) _
    have hzW1_2 : W1_1.heap.size = B1 + 1 + 1 := by rw [hW1_1]; simp [hzW1_1]
    have hlW1_2 : IvAt (B1 + 1 + 1) noI W1_2 := by rw [← hzW1_2, hW1_2]; exact ⟨heap_lastM _ _⟩
    have D3 := Lib.hid (D2.out.trans (hb.mono D2.out.size))
    have a_3 := Lib.hid (a_2.out.bel hb)
    have b_3 := Lib.hid (b_2.out.bel hb)
    clear D2 a_2 b_2
    clear hb
    have z_3 := Lib.hid hlW1_2
    clear hlW1_2
    rw [← hW1_0]
    rw [← hW1_1]
    rw [← hW1_2]
    simp only [← hB1]
    clear hW1_0 hzW1_0
    clear hW1_1 hzW1_1
    clear hW1_2 hzW1_2
    have HB1 := Lib.hid hB1
    clear hB1
    have ac0 := a_3.out.c0
    have ac1 := a_3.out.c1
    have ac2 := a_3.out.c2
    have ac3 := a_3.out.c3
    have ac4 := a_3.out.c4
    have ac5 := a_3.out.c5
    have bc0 := b_3.out.c0
    have bc1 := b_3.out.c1
    have bc2 := b_3.out.c2
    have bc3 := b_3.out.c3
    have bc4 := b_3.out.c4
    have bc5 := b_3.out.c5
    go_wp2_with fail
    clear ac0 ac1 ac2 ac3 ac4 ac5 bc0 bc1 bc2 bc3 bc4 bc5
    refine (hva.out _).mono ?_
    rintro e v4 ⟨rfl, hb⟩
    have D4 := Lib.hid (D3.out.trans (hb.mono D3.out.size))
    have a_4 := Lib.hid (a_3.out.bel hb)
    have b_4 := Lib.hid (b_3.out.bel hb)
    have z_4 := Lib.hid (z_3.out.bel hb)
    clear D3 a_3 b_3 z_3
    clear hb
    have zc0 := z_4.out.c0
    have zf0 := z_4.out.fz 0
    have zc1 := z_4.out.c1
    have zf1 := z_4.out.fz 1
    have zc2 := z_4.out.c2
    have zf2 := z_4.out.fz 2
    have zc3 := z_4.out.c3
    have zf3 := z_4.out.fz 3
    have zc4 := z_4.out.c4
    have zf4 := z_4.out.fz 4
    have zc5 := z_4.out.c5
    have zf5 := z_4.out.fz 5
    go_wp2_with fail
    (try simp only [Exit.inBlock, Exit.then])
    refine bodyPost_ret (results_iv rfl _ _ (B1 + 1 + 1) noI _ rfl rfl (z_4.out.set noI)) rfl ?_; rw [HTT.out]; exact ⟨rfl, ((((((D4.out.setCell (p := ⟨B1 + 1 + 1, 0, none⟩) (by have := HB1.out; show w.heap.size ≤ B1 + 1 + 1; omega) _).setCell (p := ⟨B1 + 1 + 1, 1, none⟩) (by have := HB1.out; show w.heap.size ≤ B1 + 1 + 1; omega) _).setCell (p := ⟨B1 + 1 + 1, 2, none⟩) (by have := HB1.out; show w.heap.size ≤ B1 + 1 + 1; omega) _).setCell (p := ⟨B1 + 1 + 1, 3, none⟩) (by have := HB1.out; show w.heap.size ≤ B1 + 1 + 1; omega) _).setCell (p := ⟨B1 + 1 + 1, 4, none⟩) (by have := HB1.out; show w.heap.size ≤ B1 + 1 + 1; omega) _).setCell (p := ⟨B1 + 1 + 1, 5, none⟩) (by have := HB1.out; show w.heap.size ≤ B1 + 1 + 1; omega) _)⟩
  have hva : Hid (∀ w, Calls Tryz.prog 15 #[.agg #[.bool a.low.neg, .string a.low.num, .string a.low.den, .bool a.high.neg, .string a.high.num, .string a.high.den]] w (GivesB true w)) := Lib.hid (fun w => by have := refivalid_any a w; rwa [ha] at this)
  by_cases hb : okI b = true
  case neg =>
    have hb := Bool.eq_false_iff.2 hb
    have hvb : Hid (∀ w, Calls Tryz.prog 15 #[.agg #[.bool b.low.neg, .string b.low.num, .string b.low.den, .bool b.high.neg, .string b.high.num, .string b.high.den]] w (GivesB false w)) := Lib.hid (fun w => by have := refivalid_any b w; rwa [hb] at this)
    have HTT : Hid (t = (noI, 1)) := Lib.hid (by rw [ht]; unfold mulI; rw [ha, hb]; rfl)
    clear ht ha hb
    go_enter Tryz.func9, Tryz.ntmps9
    go_wp2_with fail
    obtain ⟨B1, hB1⟩ : ∃ B, B = w.heap.size := ⟨_, rfl⟩
    obtain ⟨W1_0, hW1_0⟩ : ∃ W, W = w.alloc (Obj.cells #[Value.bool a.low.neg, Value.string a.low.num, Value.string a.low.den, Value.bool a.high.neg, Value.string a.high.num, Value.string a.high.den] 26) := ⟨_, rfl⟩
    have hb : Below w.heap.size w W1_0 := by rw [hW1_0]; exact (Below.refl _ _).alloc (Nat.le_refl _) _
    have hzW1_0 : w.heap.size = B1 := by rw [hB1]
    have hlW1_0 : IvAt (B1) a W1_0 := by rw [← hzW1_0, hW1_0]; exact ⟨heap_lastM _ _⟩
    have D1 := Lib.hid (D0.out.trans (hb.mono D0.out.size))
    clear hb
    have a_1 := Lib.hid hlW1_0
    clear hlW1_0
    obtain ⟨W1_1, hW1_1⟩ : ∃ W, W = W1_0.alloc (Obj.cells #[Value.bool b.low.neg, Value.string b.low.num, Value.string b.low.den, Value.bool b.high.neg, Value.string b.high.num, Value.string b.high.den] 26) := ⟨_, rfl⟩
    have hb : Below W1_0.heap.size W1_0 W1_1 := by rw [hW1_1]; exact (Below.refl _ _).alloc (Nat.le_refl _) _
    have hzW1_1 : W1_0.heap.size = B1 + 1 := by rw [hW1_0]; simp [hzW1_0]
    have hlW1_1 : IvAt (B1 + 1) b W1_1 := by rw [← hzW1_1, hW1_1]; exact ⟨heap_lastM _ _⟩
    have D2 := Lib.hid (D1.out.trans (hb.mono D1.out.size))
    have a_2 := Lib.hid (a_1.out.bel hb)
    clear D1 a_1
    clear hb
    have b_2 := Lib.hid hlW1_1
    clear hlW1_1
    obtain ⟨W1_2, hW1_2⟩ : ∃ W, W = W1_1.alloc (Obj.cells #[Value.bool false, Value.string ⟨#[]⟩, Value.string ⟨#[]⟩, Value.bool false, Value.string ⟨#[]⟩, Value.string ⟨#[]⟩] 26) := ⟨_, rfl⟩
    have hb : Below W1_1.heap.size W1_1 W1_2 := by rw [hW1_2]; exact (Below.refl _ _).alloc (Nat.le_refl _) _
    have hzW1_2 : W1_1.heap.size = B1 + 1 + 1 := by rw [hW1_1]; simp [hzW1_1]
    have hlW1_2 : IvAt (B1 + 1 + 1) noI W1_2 := by rw [← hzW1_2, hW1_2]; exact ⟨heap_lastM _ _⟩
    have D3 := Lib.hid (D2.out.trans (hb.mono D2.out.size))
    have a_3 := Lib.hid (a_2.out.bel hb)
    have b_3 := Lib.hid (b_2.out.bel hb)
    clear D2 a_2 b_2
    clear hb
    have z_3 := Lib.hid hlW1_2
    clear hlW1_2
    rw [← hW1_0]
    rw [← hW1_1]
    rw [← hW1_2]
    simp only [← hB1]
    clear hW1_0 hzW1_0
    clear hW1_1 hzW1_1
    clear hW1_2 hzW1_2
    have HB1 := Lib.hid hB1
    clear hB1
    have ac0 := a_3.out.c0
    have ac1 := a_3.out.c1
    have ac2 := a_3.out.c2
    have ac3 := a_3.out.c3
    have ac4 := a_3.out.c4
    have ac5 := a_3.out.c5
    have bc0 := b_3.out.c0
    have bc1 := b_3.out.c1
    have bc2 := b_3.out.c2
    have bc3 := b_3.out.c3
    have bc4 := b_3.out.c4
    have bc5 := b_3.out.c5
    go_wp2_with fail
    clear ac0 ac1 ac2 ac3 ac4 ac5 bc0 bc1 bc2 bc3 bc4 bc5
    refine (hva.out _).mono ?_
    rintro e v4 ⟨rfl, hb⟩
    have D4 := Lib.hid (D3.out.trans (hb.mono D3.out.size))
    have a_4 := Lib.hid (a_3.out.bel hb)
    have b_4 := Lib.hid (b_3.out.bel hb)
    have z_4 := Lib.hid (z_3.out.bel hb)
    clear D3 a_3 b_3 z_3
    clear hb
    have ac0 := a_4.out.c0
    have ac1 := a_4.out.c1
    have ac2 := a_4.out.c2
    have ac3 := a_4.out.c3
    have ac4 := a_4.out.c4
    have ac5 := a_4.out.c5
    have bc0 := b_4.out.c0
    have bc1 := b_4.out.c1
    have bc2 := b_4.out.c2
    have bc3 := b_4.out.c3
    have bc4 := b_4.out.c4
    have bc5 := b_4.out.c5
    go_wp2_with fail
    clear ac0 ac1 ac2 ac3 ac4 ac5 bc0 bc1 bc2 bc3 bc4 bc5
    refine (hvb.out _).mono ?_
    rintro e v5 ⟨rfl, hb⟩
    have D5 := Lib.hid (D4.out.trans (hb.mono D4.out.size))
    have a_5 := Lib.hid (a_4.out.bel hb)
    have b_5 := Lib.hid (b_4.out.bel hb)
    have z_5 := Lib.hid (z_4.out.bel hb)
    clear D4 a_4 b_4 z_4
    clear hb
    have zc0 := z_5.out.c0
    have zf0 := z_5.out.fz 0
    have zc1 := z_5.out.c1
    have zf1 := z_5.out.fz 1
    have zc2 := z_5.out.c2
    have zf2 := z_5.out.fz 2
    have zc3 := z_5.out.c3
    have zf3 := z_5.out.fz 3
    have zc4 := z_5.out.c4
    have zf4 := z_5.out.fz 4
    have zc5 := z_5.out.c5
    have zf5 := z_5.out.fz 5
    go_wp2_with fail
    (try simp only [Exit.inBlock, Exit.then])
    refine bodyPost_ret (results_iv rfl _ _ (B1 + 1 + 1) noI _ rfl rfl (z_5.out.set noI)) rfl ?_; rw [HTT.out]; exact ⟨rfl, ((((((D5.out.setCell (p := ⟨B1 + 1 + 1, 0, none⟩) (by have := HB1.out; show w.heap.size ≤ B1 + 1 + 1; omega) _).setCell (p := ⟨B1 + 1 + 1, 1, none⟩) (by have := HB1.out; show w.heap.size ≤ B1 + 1 + 1; omega) _).setCell (p := ⟨B1 + 1 + 1, 2, none⟩) (by have := HB1.out; show w.heap.size ≤ B1 + 1 + 1; omega) _).setCell (p := ⟨B1 + 1 + 1, 3, none⟩) (by have := HB1.out; show w.heap.size ≤ B1 + 1 + 1; omega) _).setCell (p := ⟨B1 + 1 + 1, 4, none⟩) (by have := HB1.out; show w.heap.size ≤ B1 + 1 + 1; omega) _).setCell (p := ⟨B1 + 1 + 1, 5, none⟩) (by have := HB1.out; show w.heap.size ≤ B1 + 1 + 1; omega) _)⟩
  have hvb : Hid (∀ w, Calls Tryz.prog 15 #[.agg #[.bool b.low.neg, .string b.low.num, .string b.low.den, .bool b.high.neg, .string b.high.num, .string b.high.den]] w (GivesB true w)) := Lib.hid (fun w => by have := refivalid_any b w; rwa [hb] at this)
  have HOK : Hid ((okI a && okI b) = true) := Lib.hid (by rw [ha, hb]; rfl)
  have HT := Lib.hid ht
  clear ht ha hb
  go_enter Tryz.func9, Tryz.ntmps9
  go_wp2_with fail
  obtain ⟨B1, hB1⟩ : ∃ B, B = w.heap.size := ⟨_, rfl⟩
  obtain ⟨W1_0, hW1_0⟩ : ∃ W, W = w.alloc (Obj.cells #[Value.bool a.low.neg, Value.string a.low.num, Value.string a.low.den, Value.bool a.high.neg, Value.string a.high.num, Value.string a.high.den] 26) := ⟨_, rfl⟩
  have hb : Below w.heap.size w W1_0 := by rw [hW1_0]; exact (Below.refl _ _).alloc (Nat.le_refl _) _
  have hzW1_0 : w.heap.size = B1 := by rw [hB1]
  have hlW1_0 : IvAt (B1) a W1_0 := by rw [← hzW1_0, hW1_0]; exact ⟨heap_lastM _ _⟩
  have D1 := Lib.hid (D0.out.trans (hb.mono D0.out.size))
  clear hb
  have a_1 := Lib.hid hlW1_0
  clear hlW1_0
  obtain ⟨W1_1, hW1_1⟩ : ∃ W, W = W1_0.alloc (Obj.cells #[Value.bool b.low.neg, Value.string b.low.num, Value.string b.low.den, Value.bool b.high.neg, Value.string b.high.num, Value.string b.high.den] 26) := ⟨_, rfl⟩
  have hb : Below W1_0.heap.size W1_0 W1_1 := by rw [hW1_1]; exact (Below.refl _ _).alloc (Nat.le_refl _) _
  have hzW1_1 : W1_0.heap.size = B1 + 1 := by rw [hW1_0]; simp [hzW1_0]
  have hlW1_1 : IvAt (B1 + 1) b W1_1 := by rw [← hzW1_1, hW1_1]; exact ⟨heap_lastM _ _⟩
  have D2 := Lib.hid (D1.out.trans (hb.mono D1.out.size))
  have a_2 := Lib.hid (a_1.out.bel hb)
  clear D1 a_1
  clear hb
  have b_2 := Lib.hid hlW1_1
  clear hlW1_1
  obtain ⟨W1_2, hW1_2⟩ : ∃ W, W = W1_1.alloc (Obj.cells #[Value.bool false, Value.string ⟨#[]⟩, Value.string ⟨#[]⟩, Value.bool false, Value.string ⟨#[]⟩, Value.string ⟨#[]⟩] 26) := ⟨_, rfl⟩
  have hb : Below W1_1.heap.size W1_1 W1_2 := by rw [hW1_2]; exact (Below.refl _ _).alloc (Nat.le_refl _) _
  have hzW1_2 : W1_1.heap.size = B1 + 1 + 1 := by rw [hW1_1]; simp [hzW1_1]
  have hlW1_2 : IvAt (B1 + 1 + 1) noI W1_2 := by rw [← hzW1_2, hW1_2]; exact ⟨heap_lastM _ _⟩
  have D3 := Lib.hid (D2.out.trans (hb.mono D2.out.size))
  have a_3 := Lib.hid (a_2.out.bel hb)
  have b_3 := Lib.hid (b_2.out.bel hb)
  clear D2 a_2 b_2
  clear hb
  have z_3 := Lib.hid hlW1_2
  clear hlW1_2
  rw [← hW1_0]
  rw [← hW1_1]
  rw [← hW1_2]
  simp only [← hB1]
  clear hW1_0 hzW1_0
  clear hW1_1 hzW1_1
  clear hW1_2 hzW1_2
  have HB1 := Lib.hid hB1
  clear hB1
  have ac0 := a_3.out.c0
  have ac1 := a_3.out.c1
  have ac2 := a_3.out.c2
  have ac3 := a_3.out.c3
  have ac4 := a_3.out.c4
  have ac5 := a_3.out.c5
  have bc0 := b_3.out.c0
  have bc1 := b_3.out.c1
  have bc2 := b_3.out.c2
  have bc3 := b_3.out.c3
  have bc4 := b_3.out.c4
  have bc5 := b_3.out.c5
  go_wp2_with fail
  clear ac0 ac1 ac2 ac3 ac4 ac5 bc0 bc1 bc2 bc3 bc4 bc5
  refine (hva.out _).mono ?_
  rintro e v4 ⟨rfl, hb⟩
  have D4 := Lib.hid (D3.out.trans (hb.mono D3.out.size))
  have a_4 := Lib.hid (a_3.out.bel hb)
  have b_4 := Lib.hid (b_3.out.bel hb)
  have z_4 := Lib.hid (z_3.out.bel hb)
  clear D3 a_3 b_3 z_3
  clear hb
  have ac0 := a_4.out.c0
  have ac1 := a_4.out.c1
  have ac2 := a_4.out.c2
  have ac3 := a_4.out.c3
  have ac4 := a_4.out.c4
  have ac5 := a_4.out.c5
  have bc0 := b_4.out.c0
  have bc1 := b_4.out.c1
  have bc2 := b_4.out.c2
  have bc3 := b_4.out.c3
  have bc4 := b_4.out.c4
  have bc5 := b_4.out.c5
  go_wp2_with fail
  clear ac0 ac1 ac2 ac3 ac4 ac5 bc0 bc1 bc2 bc3 bc4 bc5
  refine (hvb.out _).mono ?_
  rintro e v5 ⟨rfl, hb⟩
  have D5 := Lib.hid (D4.out.trans (hb.mono D4.out.size))
  have a_5 := Lib.hid (a_4.out.bel hb)
  have b_5 := Lib.hid (b_4.out.bel hb)
  have z_5 := Lib.hid (z_4.out.bel hb)
  clear D4 a_4 b_4 z_4
  clear hb
  have HZL := Lib.hid (blk_lt z_5.out.cells)
  have ac0 := a_5.out.c0
  have ac1 := a_5.out.c1
  have ac2 := a_5.out.c2
  have ac3 := a_5.out.c3
  have ac4 := a_5.out.c4
  have ac5 := a_5.out.c5
  have az := blk_lt a_5.out.cells
  have bc0 := b_5.out.c0
  have bc1 := b_5.out.c1
  have bc2 := b_5.out.c2
  have bc3 := b_5.out.c3
  have bc4 := b_5.out.c4
  have bc5 := b_5.out.c5
  have bz := blk_lt b_5.out.cells
  go_wp2_with fail
  clear ac0 ac1 ac2 ac3 ac4 ac5 az bc0 bc1 bc2 bc3 bc4 bc5 bz
  obtain ⟨B2, hB2⟩ : ∃ B, B = v5.heap.size := ⟨_, rfl⟩
  obtain ⟨W2_0, hW2_0⟩ : ∃ W, W = v5.alloc (Obj.cells #[Value.bool a.low.neg, Value.string a.low.num, Value.string a.low.den, Value.bool a.high.neg, Value.string a.high.num, Value.string a.high.den] 24) := ⟨_, rfl⟩
  have hb : Below v5.heap.size v5 W2_0 := by rw [hW2_0]; exact (Below.refl _ _).alloc (Nat.le_refl _) _
  have hzW2_0 : v5.heap.size = B2 := by rw [hB2]
  have hlW2_0 : TwoB (B2) a W2_0 := by rw [← hzW2_0, hW2_0]; exact ⟨heap_lastM _ _⟩
  have D6 := Lib.hid (D5.out.trans (hb.mono D5.out.size))
  have a_6 := Lib.hid (a_5.out.bel hb)
  have b_6 := Lib.hid (b_5.out.bel hb)
  have z_6 := Lib.hid (z_5.out.bel hb)
  clear D5 a_5 b_5 z_5
  clear hb
  have o1_6 := Lib.hid hlW2_0
  clear hlW2_0
  obtain ⟨W2_1, hW2_1⟩ : ∃ W, W = W2_0.alloc (Obj.cells #[Value.bool b.low.neg, Value.string b.low.num, Value.string b.low.den, Value.bool b.high.neg, Value.string b.high.num, Value.string b.high.den] 24) := ⟨_, rfl⟩
  have hb : Below W2_0.heap.size W2_0 W2_1 := by rw [hW2_1]; exact (Below.refl _ _).alloc (Nat.le_refl _) _
  have hzW2_1 : W2_0.heap.size = B2 + 1 := by rw [hW2_0]; simp [hzW2_0]
  have hlW2_1 : TwoB (B2 + 1) b W2_1 := by rw [← hzW2_1, hW2_1]; exact ⟨heap_lastM _ _⟩
  have D7 := Lib.hid (D6.out.trans (hb.mono D6.out.size))
  have a_7 := Lib.hid (a_6.out.bel hb)
  have b_7 := Lib.hid (b_6.out.bel hb)
  have z_7 := Lib.hid (z_6.out.bel hb)
  have o1_7 := Lib.hid (o1_6.out.bel hb)
  clear D6 a_6 b_6 z_6 o1_6
  clear hb
  have o2_7 := Lib.hid hlW2_1
  clear hlW2_1
  obtain ⟨W2_2, hW2_2⟩ : ∃ W, W = W2_1.alloc (Obj.cells #[Value.bool false, Value.string ⟨#[]⟩, Value.string ⟨#[]⟩, Value.bool false, Value.string ⟨#[]⟩, Value.string ⟨#[]⟩] 26) := ⟨_, rfl⟩
  have hb : Below W2_1.heap.size W2_1 W2_2 := by rw [hW2_2]; exact (Below.refl _ _).alloc (Nat.le_refl _) _
  have hzW2_2 : W2_1.heap.size = B2 + 1 + 1 := by rw [hW2_1]; simp [hzW2_1]
  have hlW2_2 : IvAt (B2 + 1 + 1) noI W2_2 := by rw [← hzW2_2, hW2_2]; exact ⟨heap_lastM _ _⟩
  have D8 := Lib.hid (D7.out.trans (hb.mono D7.out.size))
  have a_8 := Lib.hid (a_7.out.bel hb)
  have b_8 := Lib.hid (b_7.out.bel hb)
  have z_8 := Lib.hid (z_7.out.bel hb)
  have o1_8 := Lib.hid (o1_7.out.bel hb)
  have o2_8 := Lib.hid (o2_7.out.bel hb)
  clear D7 a_7 b_7 z_7 o1_7 o2_7
  clear hb
  have u_8 := Lib.hid hlW2_2
  clear hlW2_2
  rw [← hW2_0]
  rw [← hW2_1]
  rw [← hW2_2]
  simp only [← hB2]
  clear hW2_0 hzW2_0
  clear hW2_1 hzW2_1
  clear hW2_2 hzW2_2
  have HB2 := Lib.hid hB2
  clear hB2
  have HNE : Hid (B1 + 1 + 1 < B2) := Lib.hid (by have h1 := HZL.out; have h2 := HB2.out; omega)
  have HLU : Hid (w.heap.size ≤ B2 + 1 + 1) := Lib.hid (by have h1 := HB1.out; have h2 := HNE.out; omega)
  clear a_8 b_8
  go_loopw [9] (fun i wr => ∃ k : Nat, IdxB k i ∧ Hid (Below w.heap.size w wr) ∧ Hid (IvAt (B1 + 1 + 1) noI wr) ∧ Hid (TwoB (B2) a wr) ∧ Hid (TwoB (B2 + 1) b wr) ∧ Hid (IvAt (B2 + 1 + 1) (outMul a b (2 * k)) wr) ∧ Hid (OkN a b (2 * k))) (fun i _ => 2 - (intOf i).toNat)
  case atStart => exact ⟨0, .inl ⟨rfl, rfl⟩, D8, z_8, o1_8, o2_8, u_8, Lib.hid (fun m x hm _ => absurd hm (by omega))⟩
  case round =>
    obtain ⟨k, hk, hB, hz, h1, h2, hu, hn⟩ := hrel
    clear D8 z_8 o1_8 o2_8 u_8
    rcases hk with ⟨rfl, rfl⟩ | ⟨rfl, rfl⟩ | ⟨rfl, rfl⟩
    ·
      go_wp2_with fail
      go_loopw [10] (fun i wi => ∃ m : Nat, IdxB m i ∧ Hid (Below w.heap.size w wi) ∧ Hid (IvAt (B1 + 1 + 1) noI wi) ∧ Hid (TwoB (B2) a wi) ∧ Hid (TwoB (B2 + 1) b wi) ∧ Hid (IvAt (B2 + 1 + 1) (outMul a b (2 * 0 + m)) wi) ∧ Hid (OkN a b (2 * 0 + m))) (fun i _ => 2 - (intOf i).toNat)
      case atStart => exact ⟨0, .inl ⟨rfl, rfl⟩, hB, hz, h1, h2, hu, hn⟩
      case round =>
        clear hB hz h1 h2 hu hn
        obtain ⟨m, hm, hB, hz, h1, h2, hu, hn⟩ := hrel
        rcases hm with ⟨rfl, rfl⟩ | ⟨rfl, rfl⟩ | ⟨rfl, rfl⟩
        ·
          obtain ⟨p, e, hp⟩ : ∃ p e, mulE a.low b.low = (p, e) := ⟨_, _, rfl⟩
          have HP : Hid ((prods a b)[0]? = some (p, e)) := Lib.hid (by rw [← hp]; rfl)
          have HM : Hid (∀ w', Calls Tryz.prog 27 #[.agg #[.bool a.low.neg, .string a.low.num, .string a.low.den], .agg #[.bool b.low.neg, .string b.low.num, .string b.low.den]] w' (GivesR (p, e) w')) := Lib.hid (fun w' => by have := refmul4_any a.low b.low w'; rwa [hp] at this)
          clear hp
          go_upto_region 12 with fail
          go_cut [11, 12] (fun s11 s12 wx => ∃ R, s11 = .pointer (some ⟨R, 0, none⟩) ∧ s12 = .int .i64 e ∧ Hid (wr.heap.size ≤ R ∧ RatAt R p wx ∧ Below wr.heap.size wr wx))
          case first =>
            have HDR : Hid (Below wr.heap.size wr wr.drew) := Lib.hid ((Below.refl _ _).drew)
            have HB0 : Hid (Below wr.heap.size wr (wr.alloc (Obj.cells #[Value.bool false, Value.string ⟨#[]⟩, Value.string ⟨#[]⟩] 24)).drew) := Lib.hid (((Below.refl _ _).alloc (Nat.le_refl _) _).drew)
            have HZ0 : Hid (RatAt wr.heap.size noRaw (wr.alloc (Obj.cells #[Value.bool false, Value.string ⟨#[]⟩, Value.string ⟨#[]⟩] 24)).drew) := Lib.hid (RatAt.bel ⟨heap_lastM _ _⟩ ((Below.refl _ _).drew))
            go_region_held3 (fun w' => Below wr.heap.size wr w' ∧ w'.cell? ⟨B2, 0, none⟩ = some (.bool a.low.neg) ∧ w'.cell? ⟨B2, 1, none⟩ = some (.string a.low.num) ∧ w'.cell? ⟨B2, 2, none⟩ = some (.string a.low.den) ∧ w'.cell? ⟨B2, 3, none⟩ = some (.bool a.high.neg) ∧ w'.cell? ⟨B2, 4, none⟩ = some (.string a.high.num) ∧ w'.cell? ⟨B2, 5, none⟩ = some (.string a.high.den) ∧ w'.cell? ⟨B2 + 1, 0, none⟩ = some (.bool b.low.neg) ∧ w'.cell? ⟨B2 + 1, 1, none⟩ = some (.string b.low.num) ∧ w'.cell? ⟨B2 + 1, 2, none⟩ = some (.string b.low.den) ∧ w'.cell? ⟨B2 + 1, 3, none⟩ = some (.bool b.high.neg) ∧ w'.cell? ⟨B2 + 1, 4, none⟩ = some (.string b.high.num) ∧ w'.cell? ⟨B2 + 1, 5, none⟩ = some (.string b.high.den)) (first | (with_reducible assumption) | with_reducible exact keepM h1.out h2.out HDR.out | with_reducible exact keepM h1.out h2.out HB0.out | with_reducible exact keepM h1.out h2.out HY.out | exact keepM h1.out h2.out (HY.out.alloc HY.out.size _) | exact keepM h1.out h2.out (((HY.out.setCell (p := ⟨wr.heap.size, 0, none⟩) (Nat.le_refl _) _).setCell (p := ⟨wr.heap.size, 1, none⟩) (Nat.le_refl _) _).setCell (p := ⟨wr.heap.size, 2, none⟩) (Nat.le_refl _) _)) (first | (go_at_call 27; ((with_reducible refine (HM.out _).mono ?_); rintro e' y1 ⟨rfl, hy⟩; have HY : Hid (Below wr.heap.size wr y1) := Lib.hid (HB0.out.trans (hy.mono HB0.out.size)); have HZ1 := Lib.hid (HZ0.out.bel hy); have zc0 := HZ1.out.c0; have zc1 := HZ1.out.c1; have zc2 := HZ1.out.c2; have zf0 := HZ1.out.fz 0; have zf1 := HZ1.out.fz 1; have zf2 := HZ1.out.fz 2)) | (go_at_call 27; ((with_reducible refine (HM.out _).mono ?_); rintro e' y1 ⟨rfl, hy⟩; have HY : Hid (Below wr.heap.size wr y1) := Lib.hid (HDR.out.trans (hy.mono HDR.out.size)))) | fail "no arm")
            all_goals (go_wp2_with fail; go_meet)
            all_goals first | exact ⟨_, rfl, rfl, Lib.hid ⟨Nat.le_refl _, HZ1.out.set p, (((HY.out.setCell (p := ⟨wr.heap.size, 0, none⟩) (Nat.le_refl _) _).setCell (p := ⟨wr.heap.size, 1, none⟩) (Nat.le_refl _) _).setCell (p := ⟨wr.heap.size, 2, none⟩) (Nat.le_refl _) _)⟩⟩ | exact ⟨_, rfl, rfl, Lib.hid ⟨HY.out.size, ⟨heap_lastM _ _⟩, HY.out.alloc HY.out.size _⟩⟩
          case rest =>
            obtain ⟨R, rfl, rfl, hcut⟩ := hcut
            have HRU : Hid ((B2 + 1 + 1) < wr.heap.size) := Lib.hid (blk_lt hu.out.cells)
            have HRN : Hid (wr.heap.size ≤ R) := Lib.hid hcut.out.1; have r_90 : Hid (RatAt R p wc) := Lib.hid hcut.out.2.1; have HX := Lib.hid hcut.out.2.2; clear hcut
            have D90 := Lib.hid (hB.out.trans (HX.out.mono hB.out.size)); have z_90 := Lib.hid (hz.out.bel HX.out); have o1_90 := Lib.hid (h1.out.bel HX.out); have o2_90 := Lib.hid (h2.out.bel HX.out); have u_90 := Lib.hid (hu.out.bel HX.out)
            clear hB hz h1 h2 hu HX
            obtain ⟨wd, hnm⟩ : ∃ x, x = wc := ⟨_, rfl⟩
            subst hnm
            obtain ⟨o, ho⟩ : ∃ o, o = outMul a b (2 * 0 + 0) := ⟨_, rfl⟩
            rw [← ho] at u_90
            have HO := Lib.hid ho; clear ho
            by_cases e0 : e = 0
            ·
              subst e0
              have HN2 : Hid (OkN a b (2 * 0 + (0 + 1))) := Lib.hid (okN_next hn.out HP.out rfl)
              have HV : Hid (outMul a b (2 * 0 + (0 + 1)) = ⟨p, p⟩) := Lib.hid (outMul_one a b p _ HP.out)
              have rc0 := r_90.out.c0
              have rc1 := r_90.out.c1
              have rc2 := r_90.out.c2
              have uc0 := u_90.out.c0; have uf0 := u_90.out.fz 0
              have uc1 := u_90.out.c1; have uf1 := u_90.out.fz 1
              have uc2 := u_90.out.c2; have uf2 := u_90.out.fz 2
              go_upto_region 17 with fail
              clear rc0 rc1 rc2 uc0 uc1 uc2 uf0 uf1 uf2
              obtain ⟨X91, hX91⟩ : ∃ W, W = ((((((wd).setCell ⟨B2 + 1 + 1, 0, none⟩ (.bool p.neg))).setCell ⟨B2 + 1 + 1, 1, none⟩ (.string p.num))).setCell ⟨B2 + 1 + 1, 2, none⟩ (.string p.den)) := ⟨_, rfl⟩
              have hbes : Bes (B2 + 1 + 1) wd X91 := by rw [hX91]; exact (((Bes.set _ (B2 + 1 + 1) 0 _).trans (Bes.set _ (B2 + 1 + 1) 1 _)).trans (Bes.set _ (B2 + 1 + 1) 2 _))
              have D91 : Hid (Below w.heap.size w X91) := Lib.hid (by rw [hX91]; exact (((D90.out.setCell (p := ⟨B2 + 1 + 1, 0, none⟩) HLU.out _).setCell (p := ⟨B2 + 1 + 1, 1, none⟩) HLU.out _).setCell (p := ⟨B2 + 1 + 1, 2, none⟩) HLU.out _))
              have z_91 := Lib.hid (z_90.out.bes hbes (by have h3 := HNE.out; omega))
              have o1_91 := Lib.hid (o1_90.out.bes hbes (by have h3 := HNE.out; omega))
              have o2_91 := Lib.hid (o2_90.out.bes hbes (by have h3 := HNE.out; omega))
              have u_91 : Hid (IvAt (B2 + 1 + 1) (⟨p, o.high⟩ : Iv) X91) := Lib.hid (by rw [hX91]; exact u_90.out.setLow p)
              have r_91 := Lib.hid (r_90.out.besB hbes (by have h3 := HRN.out; have h4 := HRU.out; omega))
              clear hbes D90 z_90 o1_90 o2_90 u_90 r_90
              rw [← hX91]
              have HX91 := Lib.hid hX91; clear hX91
              have rc0 := r_91.out.c0
              have rc1 := r_91.out.c1
              have rc2 := r_91.out.c2
              have uc3 := u_91.out.c3; have uf3 := u_91.out.fz 3
              have uc4 := u_91.out.c4; have uf4 := u_91.out.fz 4
              have uc5 := u_91.out.c5; have uf5 := u_91.out.fz 5
              go_wp2_with fail
              clear rc0 rc1 rc2 uc3 uc4 uc5 uf3 uf4 uf5
              obtain ⟨X92, hX92⟩ : ∃ W, W = ((((((X91).setCell ⟨B2 + 1 + 1, 3, none⟩ (.bool p.neg))).setCell ⟨B2 + 1 + 1, 4, none⟩ (.string p.num))).setCell ⟨B2 + 1 + 1, 5, none⟩ (.string p.den)) := ⟨_, rfl⟩
              have hbes : Bes (B2 + 1 + 1) X91 X92 := by rw [hX92]; exact (((Bes.set _ (B2 + 1 + 1) 3 _).trans (Bes.set _ (B2 + 1 + 1) 4 _)).trans (Bes.set _ (B2 + 1 + 1) 5 _))
              have D92 : Hid (Below w.heap.size w X92) := Lib.hid (by rw [hX92]; exact (((D91.out.setCell (p := ⟨B2 + 1 + 1, 3, none⟩) HLU.out _).setCell (p := ⟨B2 + 1 + 1, 4, none⟩) HLU.out _).setCell (p := ⟨B2 + 1 + 1, 5, none⟩) HLU.out _))
              have z_92 := Lib.hid (z_91.out.bes hbes (by have h3 := HNE.out; omega))
              have o1_92 := Lib.hid (o1_91.out.bes hbes (by have h3 := HNE.out; omega))
              have o2_92 := Lib.hid (o2_91.out.bes hbes (by have h3 := HNE.out; omega))
              have u_92 : Hid (IvAt (B2 + 1 + 1) (⟨p, p⟩ : Iv) X92) := Lib.hid (by rw [hX92]; exact u_91.out.setHigh p)
              have r_92 := Lib.hid (r_91.out.besB hbes (by have h3 := HRN.out; have h4 := HRU.out; omega))
              clear hbes D91 z_91 o1_91 o2_91 u_91 r_91
              rw [← hX92]
              have HX92 := Lib.hid hX92; clear hX92
              go_wp2_with fail
              go_roundw
              case rel => exact ⟨0 + 1, .inr (.inl ⟨rfl, rfl⟩), D92, z_92, o1_92, o2_92, Lib.hid (by rw [show outMul a b (2 * 0 + (0 + 1)) = (⟨p, p⟩ : Iv) from HV.out]; exact u_92.out), HN2⟩
              case measure => simp [intOf]
            ·
              have q0 : (e != 0) = true := by simpa using e0
              have HTT : Hid (t = (noI, 2)) := Lib.hid (by rw [HT.out]; exact (mulI_bad HOK.out (List.mem_of_getElem? HP.out) e0).1)
              have zc0 := z_90.out.c0
              have zf0 := z_90.out.fz 0
              have zc1 := z_90.out.c1
              have zf1 := z_90.out.fz 1
              have zc2 := z_90.out.c2
              have zf2 := z_90.out.fz 2
              have zc3 := z_90.out.c3
              have zf3 := z_90.out.fz 3
              have zc4 := z_90.out.c4
              have zf4 := z_90.out.fz 4
              have zc5 := z_90.out.c5
              have zf5 := z_90.out.fz 5
              go_wp2_with fail
              (try simp only [Exit.inBlock, Exit.then])
              refine bodyPost_ret (results_iv rfl _ _ (B1 + 1 + 1) noI _ rfl rfl (z_90.out.set noI)) rfl ?_; rw [HTT.out]; exact ⟨rfl, ((((((D90.out.setCell (p := ⟨B1 + 1 + 1, 0, none⟩) (by have := HB1.out; show w.heap.size ≤ B1 + 1 + 1; omega) _).setCell (p := ⟨B1 + 1 + 1, 1, none⟩) (by have := HB1.out; show w.heap.size ≤ B1 + 1 + 1; omega) _).setCell (p := ⟨B1 + 1 + 1, 2, none⟩) (by have := HB1.out; show w.heap.size ≤ B1 + 1 + 1; omega) _).setCell (p := ⟨B1 + 1 + 1, 3, none⟩) (by have := HB1.out; show w.heap.size ≤ B1 + 1 + 1; omega) _).setCell (p := ⟨B1 + 1 + 1, 4, none⟩) (by have := HB1.out; show w.heap.size ≤ B1 + 1 + 1; omega) _).setCell (p := ⟨B1 + 1 + 1, 5, none⟩) (by have := HB1.out; show w.heap.size ≤ B1 + 1 + 1; omega) _)⟩
        ·
          obtain ⟨p, e, hp⟩ : ∃ p e, mulE a.low b.high = (p, e) := ⟨_, _, rfl⟩
          have HP : Hid ((prods a b)[1]? = some (p, e)) := Lib.hid (by rw [← hp]; rfl)
          have HM : Hid (∀ w', Calls Tryz.prog 27 #[.agg #[.bool a.low.neg, .string a.low.num, .string a.low.den], .agg #[.bool b.high.neg, .string b.high.num, .string b.high.den]] w' (GivesR (p, e) w')) := Lib.hid (fun w' => by have := refmul4_any a.low b.high w'; rwa [hp] at this)
          clear hp
          go_upto_region 12 with fail
          go_cut [11, 12] (fun s11 s12 wx => ∃ R, s11 = .pointer (some ⟨R, 0, none⟩) ∧ s12 = .int .i64 e ∧ Hid (wr.heap.size ≤ R ∧ RatAt R p wx ∧ Below wr.heap.size wr wx))
          case first =>
            have HDR : Hid (Below wr.heap.size wr wr.drew) := Lib.hid ((Below.refl _ _).drew)
            have HB0 : Hid (Below wr.heap.size wr (wr.alloc (Obj.cells #[Value.bool false, Value.string ⟨#[]⟩, Value.string ⟨#[]⟩] 24)).drew) := Lib.hid (((Below.refl _ _).alloc (Nat.le_refl _) _).drew)
            have HZ0 : Hid (RatAt wr.heap.size noRaw (wr.alloc (Obj.cells #[Value.bool false, Value.string ⟨#[]⟩, Value.string ⟨#[]⟩] 24)).drew) := Lib.hid (RatAt.bel ⟨heap_lastM _ _⟩ ((Below.refl _ _).drew))
            go_region_held3 (fun w' => Below wr.heap.size wr w' ∧ w'.cell? ⟨B2, 0, none⟩ = some (.bool a.low.neg) ∧ w'.cell? ⟨B2, 1, none⟩ = some (.string a.low.num) ∧ w'.cell? ⟨B2, 2, none⟩ = some (.string a.low.den) ∧ w'.cell? ⟨B2, 3, none⟩ = some (.bool a.high.neg) ∧ w'.cell? ⟨B2, 4, none⟩ = some (.string a.high.num) ∧ w'.cell? ⟨B2, 5, none⟩ = some (.string a.high.den) ∧ w'.cell? ⟨B2 + 1, 0, none⟩ = some (.bool b.low.neg) ∧ w'.cell? ⟨B2 + 1, 1, none⟩ = some (.string b.low.num) ∧ w'.cell? ⟨B2 + 1, 2, none⟩ = some (.string b.low.den) ∧ w'.cell? ⟨B2 + 1, 3, none⟩ = some (.bool b.high.neg) ∧ w'.cell? ⟨B2 + 1, 4, none⟩ = some (.string b.high.num) ∧ w'.cell? ⟨B2 + 1, 5, none⟩ = some (.string b.high.den)) (first | (with_reducible assumption) | with_reducible exact keepM h1.out h2.out HDR.out | with_reducible exact keepM h1.out h2.out HB0.out | with_reducible exact keepM h1.out h2.out HY.out | exact keepM h1.out h2.out (HY.out.alloc HY.out.size _) | exact keepM h1.out h2.out (((HY.out.setCell (p := ⟨wr.heap.size, 0, none⟩) (Nat.le_refl _) _).setCell (p := ⟨wr.heap.size, 1, none⟩) (Nat.le_refl _) _).setCell (p := ⟨wr.heap.size, 2, none⟩) (Nat.le_refl _) _)) (first | (go_at_call 27; ((with_reducible refine (HM.out _).mono ?_); rintro e' y1 ⟨rfl, hy⟩; have HY : Hid (Below wr.heap.size wr y1) := Lib.hid (HB0.out.trans (hy.mono HB0.out.size)); have HZ1 := Lib.hid (HZ0.out.bel hy); have zc0 := HZ1.out.c0; have zc1 := HZ1.out.c1; have zc2 := HZ1.out.c2; have zf0 := HZ1.out.fz 0; have zf1 := HZ1.out.fz 1; have zf2 := HZ1.out.fz 2)) | (go_at_call 27; ((with_reducible refine (HM.out _).mono ?_); rintro e' y1 ⟨rfl, hy⟩; have HY : Hid (Below wr.heap.size wr y1) := Lib.hid (HDR.out.trans (hy.mono HDR.out.size)))) | fail "no arm")
            all_goals (go_wp2_with fail; go_meet)
            all_goals first | exact ⟨_, rfl, rfl, Lib.hid ⟨Nat.le_refl _, HZ1.out.set p, (((HY.out.setCell (p := ⟨wr.heap.size, 0, none⟩) (Nat.le_refl _) _).setCell (p := ⟨wr.heap.size, 1, none⟩) (Nat.le_refl _) _).setCell (p := ⟨wr.heap.size, 2, none⟩) (Nat.le_refl _) _)⟩⟩ | exact ⟨_, rfl, rfl, Lib.hid ⟨HY.out.size, ⟨heap_lastM _ _⟩, HY.out.alloc HY.out.size _⟩⟩
          case rest =>
            obtain ⟨R, rfl, rfl, hcut⟩ := hcut
            have HRU : Hid ((B2 + 1 + 1) < wr.heap.size) := Lib.hid (blk_lt hu.out.cells)
            have HRN : Hid (wr.heap.size ≤ R) := Lib.hid hcut.out.1; have r_90 : Hid (RatAt R p wc) := Lib.hid hcut.out.2.1; have HX := Lib.hid hcut.out.2.2; clear hcut
            have D90 := Lib.hid (hB.out.trans (HX.out.mono hB.out.size)); have z_90 := Lib.hid (hz.out.bel HX.out); have o1_90 := Lib.hid (h1.out.bel HX.out); have o2_90 := Lib.hid (h2.out.bel HX.out); have u_90 := Lib.hid (hu.out.bel HX.out)
            clear hB hz h1 h2 hu HX
            obtain ⟨wd, hnm⟩ : ∃ x, x = wc := ⟨_, rfl⟩
            subst hnm
            obtain ⟨o, ho⟩ : ∃ o, o = outMul a b (2 * 0 + 1) := ⟨_, rfl⟩
            rw [← ho] at u_90
            have HO := Lib.hid ho; clear ho
            by_cases e0 : e = 0
            ·
              subst e0
              have HN2 : Hid (OkN a b (2 * 0 + (1 + 1))) := Lib.hid (okN_next hn.out HP.out rfl)
              have HV0 : Hid (outMul a b (2 * 0 + (1 + 1)) = ⟨if decide (cmpE p o.low < 0) then p else o.low, if decide (0 < cmpE p o.high) then p else o.high⟩) := Lib.hid (by have := outMul_next a b 1 (by omega) (by omega) p (by rw [HP.out]; rfl); rw [show 2 * 0 + (1 + 1) = 1 + 1 from rfl, this, HO.out]; unfold minR maxR; simp only [decide_eq_true_eq])
              have HCM1 : Hid (∀ w', Calls Tryz.prog 28 #[.agg #[.bool p.neg, .string p.num, .string p.den], .agg #[.bool o.low.neg, .string o.low.num, .string o.low.den]] w' fun e w'' => e = .returned (.int .i64 (cmpE p o.low)) ∧ Below w'.heap.size w' w'') := Lib.hid (fun w' => refcmp4_any p o.low w')
              have HCM2 : Hid (∀ w', Calls Tryz.prog 28 #[.agg #[.bool p.neg, .string p.num, .string p.den], .agg #[.bool o.high.neg, .string o.high.num, .string o.high.den]] w' fun e w'' => e = .returned (.int .i64 (cmpE p o.high)) ∧ Below w'.heap.size w' w'') := Lib.hid (fun w' => refcmp4_any p o.high w')
              generalize cmpE p o.low = c1 at *
              generalize cmpE p o.high = c2 at *
              have uc0 := u_90.out.c0
              have uc1 := u_90.out.c1
              have uc2 := u_90.out.c2
              have uc3 := u_90.out.c3
              have uc4 := u_90.out.c4
              have uc5 := u_90.out.c5
              have rc0 := r_90.out.c0
              have rc1 := r_90.out.c1
              have rc2 := r_90.out.c2
              go_wp2_with fail
              clear uc0 uc1 uc2 uc3 uc4 uc5 rc0 rc1 rc2
              refine (HCM1.out _).mono ?_
              rintro e v91 ⟨rfl, hb⟩
              have D91 := Lib.hid (D90.out.trans (hb.mono D90.out.size))
              have z_91 := Lib.hid (z_90.out.bel hb)
              have o1_91 := Lib.hid (o1_90.out.bel hb)
              have o2_91 := Lib.hid (o2_90.out.bel hb)
              have u_91 := Lib.hid (u_90.out.bel hb)
              have r_91 := Lib.hid (r_90.out.bel hb)
              clear D90 z_90 o1_90 o2_90 u_90 r_90
              clear hb
              rcases Bool.eq_false_or_eq_true (decide (c1 < 0)) with q1 | q1
              ·
                rw [q1] at HV0
                have rc0 := r_91.out.c0
                have rc1 := r_91.out.c1
                have rc2 := r_91.out.c2
                have uc0 := u_91.out.c0; have uf0 := u_91.out.fz 0
                have uc1 := u_91.out.c1; have uf1 := u_91.out.fz 1
                have uc2 := u_91.out.c2; have uf2 := u_91.out.fz 2
                go_upto_region 17 with fail
                clear rc0 rc1 rc2 uc0 uc1 uc2 uf0 uf1 uf2
                obtain ⟨X92, hX92⟩ : ∃ W, W = ((((((v91).setCell ⟨B2 + 1 + 1, 0, none⟩ (.bool p.neg))).setCell ⟨B2 + 1 + 1, 1, none⟩ (.string p.num))).setCell ⟨B2 + 1 + 1, 2, none⟩ (.string p.den)) := ⟨_, rfl⟩
                have hbes : Bes (B2 + 1 + 1) v91 X92 := by rw [hX92]; exact (((Bes.set _ (B2 + 1 + 1) 0 _).trans (Bes.set _ (B2 + 1 + 1) 1 _)).trans (Bes.set _ (B2 + 1 + 1) 2 _))
                have D92 : Hid (Below w.heap.size w X92) := Lib.hid (by rw [hX92]; exact (((D91.out.setCell (p := ⟨B2 + 1 + 1, 0, none⟩) HLU.out _).setCell (p := ⟨B2 + 1 + 1, 1, none⟩) HLU.out _).setCell (p := ⟨B2 + 1 + 1, 2, none⟩) HLU.out _))
                have z_92 := Lib.hid (z_91.out.bes hbes (by have h3 := HNE.out; omega))
                have o1_92 := Lib.hid (o1_91.out.bes hbes (by have h3 := HNE.out; omega))
                have o2_92 := Lib.hid (o2_91.out.bes hbes (by have h3 := HNE.out; omega))
                have u_92 : Hid (IvAt (B2 + 1 + 1) (⟨p, o.high⟩ : Iv) X92) := Lib.hid (by rw [hX92]; exact u_91.out.setLow p)
                have r_92 := Lib.hid (r_91.out.besB hbes (by have h3 := HRN.out; have h4 := HRU.out; omega))
                clear hbes D91 z_91 o1_91 o2_91 u_91 r_91
                rw [← hX92]
                have HX92 := Lib.hid hX92; clear hX92
                have uc0 := u_92.out.c0
                have uc1 := u_92.out.c1
                have uc2 := u_92.out.c2
                have uc3 := u_92.out.c3
                have uc4 := u_92.out.c4
                have uc5 := u_92.out.c5
                have rc0 := r_92.out.c0
                have rc1 := r_92.out.c1
                have rc2 := r_92.out.c2
                go_wp2_with fail
                clear uc0 uc1 uc2 uc3 uc4 uc5 rc0 rc1 rc2 q1
                refine (HCM2.out _).mono ?_
                rintro e v93 ⟨rfl, hb⟩
                have D93 := Lib.hid (D92.out.trans (hb.mono D92.out.size))
                have z_93 := Lib.hid (z_92.out.bel hb)
                have o1_93 := Lib.hid (o1_92.out.bel hb)
                have o2_93 := Lib.hid (o2_92.out.bel hb)
                have u_93 := Lib.hid (u_92.out.bel hb)
                have r_93 := Lib.hid (r_92.out.bel hb)
                clear D92 z_92 o1_92 o2_92 u_92 r_92
                clear hb
                rcases Bool.eq_false_or_eq_true (decide (0 < c2)) with q2 | q2
                ·
                  rw [q2] at HV0
                  have rc0 := r_93.out.c0
                  have rc1 := r_93.out.c1
                  have rc2 := r_93.out.c2
                  have uc3 := u_93.out.c3; have uf3 := u_93.out.fz 3
                  have uc4 := u_93.out.c4; have uf4 := u_93.out.fz 4
                  have uc5 := u_93.out.c5; have uf5 := u_93.out.fz 5
                  go_wp2_with fail
                  clear rc0 rc1 rc2 uc3 uc4 uc5 uf3 uf4 uf5
                  obtain ⟨X94, hX94⟩ : ∃ W, W = ((((((v93).setCell ⟨B2 + 1 + 1, 3, none⟩ (.bool p.neg))).setCell ⟨B2 + 1 + 1, 4, none⟩ (.string p.num))).setCell ⟨B2 + 1 + 1, 5, none⟩ (.string p.den)) := ⟨_, rfl⟩
                  have hbes : Bes (B2 + 1 + 1) v93 X94 := by rw [hX94]; exact (((Bes.set _ (B2 + 1 + 1) 3 _).trans (Bes.set _ (B2 + 1 + 1) 4 _)).trans (Bes.set _ (B2 + 1 + 1) 5 _))
                  have D94 : Hid (Below w.heap.size w X94) := Lib.hid (by rw [hX94]; exact (((D93.out.setCell (p := ⟨B2 + 1 + 1, 3, none⟩) HLU.out _).setCell (p := ⟨B2 + 1 + 1, 4, none⟩) HLU.out _).setCell (p := ⟨B2 + 1 + 1, 5, none⟩) HLU.out _))
                  have z_94 := Lib.hid (z_93.out.bes hbes (by have h3 := HNE.out; omega))
                  have o1_94 := Lib.hid (o1_93.out.bes hbes (by have h3 := HNE.out; omega))
                  have o2_94 := Lib.hid (o2_93.out.bes hbes (by have h3 := HNE.out; omega))
                  have u_94 : Hid (IvAt (B2 + 1 + 1) (⟨p, p⟩ : Iv) X94) := Lib.hid (by rw [hX94]; exact u_93.out.setHigh p)
                  have r_94 := Lib.hid (r_93.out.besB hbes (by have h3 := HRN.out; have h4 := HRU.out; omega))
                  clear hbes D93 z_93 o1_93 o2_93 u_93 r_93
                  rw [← hX94]
                  have HX94 := Lib.hid hX94; clear hX94
                  have HV : Hid (outMul a b (2 * 0 + (1 + 1)) = (⟨p, p⟩ : Iv)) := Lib.hid (by rw [HV0.out]; rfl)
                  go_wp2_with fail
                  go_roundw
                  case rel => exact ⟨1 + 1, .inr (.inr ⟨rfl, rfl⟩), D94, z_94, o1_94, o2_94, Lib.hid (by rw [show outMul a b (2 * 0 + (1 + 1)) = (⟨p, p⟩ : Iv) from HV.out]; exact u_94.out), HN2⟩
                  case measure => simp [intOf]
                ·
                  rw [q2] at HV0
                  have HV : Hid (outMul a b (2 * 0 + (1 + 1)) = (⟨p, o.high⟩ : Iv)) := Lib.hid (by rw [HV0.out]; rfl)
                  go_wp2_with fail
                  go_roundw
                  case rel => exact ⟨1 + 1, .inr (.inr ⟨rfl, rfl⟩), D93, z_93, o1_93, o2_93, Lib.hid (by rw [show outMul a b (2 * 0 + (1 + 1)) = (⟨p, o.high⟩ : Iv) from HV.out]; exact u_93.out), HN2⟩
                  case measure => simp [intOf]
              ·
                rw [q1] at HV0
                have uc0 := u_91.out.c0
                have uc1 := u_91.out.c1
                have uc2 := u_91.out.c2
                have uc3 := u_91.out.c3
                have uc4 := u_91.out.c4
                have uc5 := u_91.out.c5
                have rc0 := r_91.out.c0
                have rc1 := r_91.out.c1
                have rc2 := r_91.out.c2
                go_wp2_with fail
                clear uc0 uc1 uc2 uc3 uc4 uc5 rc0 rc1 rc2 q1
                refine (HCM2.out _).mono ?_
                rintro e v92 ⟨rfl, hb⟩
                have D92 := Lib.hid (D91.out.trans (hb.mono D91.out.size))
                have z_92 := Lib.hid (z_91.out.bel hb)
                have o1_92 := Lib.hid (o1_91.out.bel hb)
                have o2_92 := Lib.hid (o2_91.out.bel hb)
                have u_92 := Lib.hid (u_91.out.bel hb)
                have r_92 := Lib.hid (r_91.out.bel hb)
                clear D91 z_91 o1_91 o2_91 u_91 r_91
                clear hb
                rcases Bool.eq_false_or_eq_true (decide (0 < c2)) with q2 | q2
                ·
                  rw [q2] at HV0
                  have rc0 := r_92.out.c0
                  have rc1 := r_92.out.c1
                  have rc2 := r_92.out.c2
                  have uc3 := u_92.out.c3; have uf3 := u_92.out.fz 3
                  have uc4 := u_92.out.c4; have uf4 := u_92.out.fz 4
                  have uc5 := u_92.out.c5; have uf5 := u_92.out.fz 5
                  go_wp2_with fail
                  clear rc0 rc1 rc2 uc3 uc4 uc5 uf3 uf4 uf5
                  obtain ⟨X93, hX93⟩ : ∃ W, W = ((((((v92).setCell ⟨B2 + 1 + 1, 3, none⟩ (.bool p.neg))).setCell ⟨B2 + 1 + 1, 4, none⟩ (.string p.num))).setCell ⟨B2 + 1 + 1, 5, none⟩ (.string p.den)) := ⟨_, rfl⟩
                  have hbes : Bes (B2 + 1 + 1) v92 X93 := by rw [hX93]; exact (((Bes.set _ (B2 + 1 + 1) 3 _).trans (Bes.set _ (B2 + 1 + 1) 4 _)).trans (Bes.set _ (B2 + 1 + 1) 5 _))
                  have D93 : Hid (Below w.heap.size w X93) := Lib.hid (by rw [hX93]; exact (((D92.out.setCell (p := ⟨B2 + 1 + 1, 3, none⟩) HLU.out _).setCell (p := ⟨B2 + 1 + 1, 4, none⟩) HLU.out _).setCell (p := ⟨B2 + 1 + 1, 5, none⟩) HLU.out _))
                  have z_93 := Lib.hid (z_92.out.bes hbes (by have h3 := HNE.out; omega))
                  have o1_93 := Lib.hid (o1_92.out.bes hbes (by have h3 := HNE.out; omega))
                  have o2_93 := Lib.hid (o2_92.out.bes hbes (by have h3 := HNE.out; omega))
                  have u_93 : Hid (IvAt (B2 + 1 + 1) (⟨o.low, p⟩ : Iv) X93) := Lib.hid (by rw [hX93]; exact u_92.out.setHigh p)
                  have r_93 := Lib.hid (r_92.out.besB hbes (by have h3 := HRN.out; have h4 := HRU.out; omega))
                  clear hbes D92 z_92 o1_92 o2_92 u_92 r_92
                  rw [← hX93]
                  have HX93 := Lib.hid hX93; clear hX93
                  have HV : Hid (outMul a b (2 * 0 + (1 + 1)) = (⟨o.low, p⟩ : Iv)) := Lib.hid (by rw [HV0.out]; rfl)
                  go_wp2_with fail
                  go_roundw
                  case rel => exact ⟨1 + 1, .inr (.inr ⟨rfl, rfl⟩), D93, z_93, o1_93, o2_93, Lib.hid (by rw [show outMul a b (2 * 0 + (1 + 1)) = (⟨o.low, p⟩ : Iv) from HV.out]; exact u_93.out), HN2⟩
                  case measure => simp [intOf]
                ·
                  rw [q2] at HV0
                  have HV : Hid (outMul a b (2 * 0 + (1 + 1)) = o) := Lib.hid (by rw [HV0.out]; rfl)
                  go_wp2_with fail
                  go_roundw
                  case rel => exact ⟨1 + 1, .inr (.inr ⟨rfl, rfl⟩), D92, z_92, o1_92, o2_92, Lib.hid (by rw [show outMul a b (2 * 0 + (1 + 1)) = o from HV.out]; exact u_92.out), HN2⟩
                  case measure => simp [intOf]
            ·
              have q0 : (e != 0) = true := by simpa using e0
              have HTT : Hid (t = (noI, 2)) := Lib.hid (by rw [HT.out]; exact (mulI_bad HOK.out (List.mem_of_getElem? HP.out) e0).1)
              have zc0 := z_90.out.c0
              have zf0 := z_90.out.fz 0
              have zc1 := z_90.out.c1
              have zf1 := z_90.out.fz 1
              have zc2 := z_90.out.c2
              have zf2 := z_90.out.fz 2
              have zc3 := z_90.out.c3
              have zf3 := z_90.out.fz 3
              have zc4 := z_90.out.c4
              have zf4 := z_90.out.fz 4
              have zc5 := z_90.out.c5
              have zf5 := z_90.out.fz 5
              go_wp2_with fail
              (try simp only [Exit.inBlock, Exit.then])
              refine bodyPost_ret (results_iv rfl _ _ (B1 + 1 + 1) noI _ rfl rfl (z_90.out.set noI)) rfl ?_; rw [HTT.out]; exact ⟨rfl, ((((((D90.out.setCell (p := ⟨B1 + 1 + 1, 0, none⟩) (by have := HB1.out; show w.heap.size ≤ B1 + 1 + 1; omega) _).setCell (p := ⟨B1 + 1 + 1, 1, none⟩) (by have := HB1.out; show w.heap.size ≤ B1 + 1 + 1; omega) _).setCell (p := ⟨B1 + 1 + 1, 2, none⟩) (by have := HB1.out; show w.heap.size ≤ B1 + 1 + 1; omega) _).setCell (p := ⟨B1 + 1 + 1, 3, none⟩) (by have := HB1.out; show w.heap.size ≤ B1 + 1 + 1; omega) _).setCell (p := ⟨B1 + 1 + 1, 4, none⟩) (by have := HB1.out; show w.heap.size ≤ B1 + 1 + 1; omega) _).setCell (p := ⟨B1 + 1 + 1, 5, none⟩) (by have := HB1.out; show w.heap.size ≤ B1 + 1 + 1; omega) _)⟩
        ·
          go_wp2_with fail
          go_roundw
          case rel => exact ⟨0 + 1, .inr (.inl ⟨rfl, rfl⟩), hB, hz, h1, h2, hu, hn⟩
          case measure => simp [intOf]
    ·
      go_wp2_with fail
      go_loopw [10] (fun i wi => ∃ m : Nat, IdxB m i ∧ Hid (Below w.heap.size w wi) ∧ Hid (IvAt (B1 + 1 + 1) noI wi) ∧ Hid (TwoB (B2) a wi) ∧ Hid (TwoB (B2 + 1) b wi) ∧ Hid (IvAt (B2 + 1 + 1) (outMul a b (2 * 1 + m)) wi) ∧ Hid (OkN a b (2 * 1 + m))) (fun i _ => 2 - (intOf i).toNat)
      case atStart => exact ⟨0, .inl ⟨rfl, rfl⟩, hB, hz, h1, h2, hu, hn⟩
      case round =>
        clear hB hz h1 h2 hu hn
        obtain ⟨m, hm, hB, hz, h1, h2, hu, hn⟩ := hrel
        rcases hm with ⟨rfl, rfl⟩ | ⟨rfl, rfl⟩ | ⟨rfl, rfl⟩
        ·
          obtain ⟨p, e, hp⟩ : ∃ p e, mulE a.high b.low = (p, e) := ⟨_, _, rfl⟩
          have HP : Hid ((prods a b)[2]? = some (p, e)) := Lib.hid (by rw [← hp]; rfl)
          have HM : Hid (∀ w', Calls Tryz.prog 27 #[.agg #[.bool a.high.neg, .string a.high.num, .string a.high.den], .agg #[.bool b.low.neg, .string b.low.num, .string b.low.den]] w' (GivesR (p, e) w')) := Lib.hid (fun w' => by have := refmul4_any a.high b.low w'; rwa [hp] at this)
          clear hp
          go_upto_region 12 with fail
          go_cut [11, 12] (fun s11 s12 wx => ∃ R, s11 = .pointer (some ⟨R, 0, none⟩) ∧ s12 = .int .i64 e ∧ Hid (wr.heap.size ≤ R ∧ RatAt R p wx ∧ Below wr.heap.size wr wx))
          case first =>
            have HDR : Hid (Below wr.heap.size wr wr.drew) := Lib.hid ((Below.refl _ _).drew)
            have HB0 : Hid (Below wr.heap.size wr (wr.alloc (Obj.cells #[Value.bool false, Value.string ⟨#[]⟩, Value.string ⟨#[]⟩] 24)).drew) := Lib.hid (((Below.refl _ _).alloc (Nat.le_refl _) _).drew)
            have HZ0 : Hid (RatAt wr.heap.size noRaw (wr.alloc (Obj.cells #[Value.bool false, Value.string ⟨#[]⟩, Value.string ⟨#[]⟩] 24)).drew) := Lib.hid (RatAt.bel ⟨heap_lastM _ _⟩ ((Below.refl _ _).drew))
            go_region_held3 (fun w' => Below wr.heap.size wr w' ∧ w'.cell? ⟨B2, 0, none⟩ = some (.bool a.low.neg) ∧ w'.cell? ⟨B2, 1, none⟩ = some (.string a.low.num) ∧ w'.cell? ⟨B2, 2, none⟩ = some (.string a.low.den) ∧ w'.cell? ⟨B2, 3, none⟩ = some (.bool a.high.neg) ∧ w'.cell? ⟨B2, 4, none⟩ = some (.string a.high.num) ∧ w'.cell? ⟨B2, 5, none⟩ = some (.string a.high.den) ∧ w'.cell? ⟨B2 + 1, 0, none⟩ = some (.bool b.low.neg) ∧ w'.cell? ⟨B2 + 1, 1, none⟩ = some (.string b.low.num) ∧ w'.cell? ⟨B2 + 1, 2, none⟩ = some (.string b.low.den) ∧ w'.cell? ⟨B2 + 1, 3, none⟩ = some (.bool b.high.neg) ∧ w'.cell? ⟨B2 + 1, 4, none⟩ = some (.string b.high.num) ∧ w'.cell? ⟨B2 + 1, 5, none⟩ = some (.string b.high.den)) (first | (with_reducible assumption) | with_reducible exact keepM h1.out h2.out HDR.out | with_reducible exact keepM h1.out h2.out HB0.out | with_reducible exact keepM h1.out h2.out HY.out | exact keepM h1.out h2.out (HY.out.alloc HY.out.size _) | exact keepM h1.out h2.out (((HY.out.setCell (p := ⟨wr.heap.size, 0, none⟩) (Nat.le_refl _) _).setCell (p := ⟨wr.heap.size, 1, none⟩) (Nat.le_refl _) _).setCell (p := ⟨wr.heap.size, 2, none⟩) (Nat.le_refl _) _)) (first | (go_at_call 27; ((with_reducible refine (HM.out _).mono ?_); rintro e' y1 ⟨rfl, hy⟩; have HY : Hid (Below wr.heap.size wr y1) := Lib.hid (HB0.out.trans (hy.mono HB0.out.size)); have HZ1 := Lib.hid (HZ0.out.bel hy); have zc0 := HZ1.out.c0; have zc1 := HZ1.out.c1; have zc2 := HZ1.out.c2; have zf0 := HZ1.out.fz 0; have zf1 := HZ1.out.fz 1; have zf2 := HZ1.out.fz 2)) | (go_at_call 27; ((with_reducible refine (HM.out _).mono ?_); rintro e' y1 ⟨rfl, hy⟩; have HY : Hid (Below wr.heap.size wr y1) := Lib.hid (HDR.out.trans (hy.mono HDR.out.size)))) | fail "no arm")
            all_goals (go_wp2_with fail; go_meet)
            all_goals first | exact ⟨_, rfl, rfl, Lib.hid ⟨Nat.le_refl _, HZ1.out.set p, (((HY.out.setCell (p := ⟨wr.heap.size, 0, none⟩) (Nat.le_refl _) _).setCell (p := ⟨wr.heap.size, 1, none⟩) (Nat.le_refl _) _).setCell (p := ⟨wr.heap.size, 2, none⟩) (Nat.le_refl _) _)⟩⟩ | exact ⟨_, rfl, rfl, Lib.hid ⟨HY.out.size, ⟨heap_lastM _ _⟩, HY.out.alloc HY.out.size _⟩⟩
          case rest =>
            obtain ⟨R, rfl, rfl, hcut⟩ := hcut
            have HRU : Hid ((B2 + 1 + 1) < wr.heap.size) := Lib.hid (blk_lt hu.out.cells)
            have HRN : Hid (wr.heap.size ≤ R) := Lib.hid hcut.out.1; have r_90 : Hid (RatAt R p wc) := Lib.hid hcut.out.2.1; have HX := Lib.hid hcut.out.2.2; clear hcut
            have D90 := Lib.hid (hB.out.trans (HX.out.mono hB.out.size)); have z_90 := Lib.hid (hz.out.bel HX.out); have o1_90 := Lib.hid (h1.out.bel HX.out); have o2_90 := Lib.hid (h2.out.bel HX.out); have u_90 := Lib.hid (hu.out.bel HX.out)
            clear hB hz h1 h2 hu HX
            obtain ⟨wd, hnm⟩ : ∃ x, x = wc := ⟨_, rfl⟩
            subst hnm
            obtain ⟨o, ho⟩ : ∃ o, o = outMul a b (2 * 1 + 0) := ⟨_, rfl⟩
            rw [← ho] at u_90
            have HO := Lib.hid ho; clear ho
            by_cases e0 : e = 0
            ·
              subst e0
              have HN2 : Hid (OkN a b (2 * 1 + (0 + 1))) := Lib.hid (okN_next hn.out HP.out rfl)
              have HV0 : Hid (outMul a b (2 * 1 + (0 + 1)) = ⟨if decide (cmpE p o.low < 0) then p else o.low, if decide (0 < cmpE p o.high) then p else o.high⟩) := Lib.hid (by have := outMul_next a b 2 (by omega) (by omega) p (by rw [HP.out]; rfl); rw [show 2 * 1 + (0 + 1) = 2 + 1 from rfl, this, HO.out]; unfold minR maxR; simp only [decide_eq_true_eq])
              have HCM1 : Hid (∀ w', Calls Tryz.prog 28 #[.agg #[.bool p.neg, .string p.num, .string p.den], .agg #[.bool o.low.neg, .string o.low.num, .string o.low.den]] w' fun e w'' => e = .returned (.int .i64 (cmpE p o.low)) ∧ Below w'.heap.size w' w'') := Lib.hid (fun w' => refcmp4_any p o.low w')
              have HCM2 : Hid (∀ w', Calls Tryz.prog 28 #[.agg #[.bool p.neg, .string p.num, .string p.den], .agg #[.bool o.high.neg, .string o.high.num, .string o.high.den]] w' fun e w'' => e = .returned (.int .i64 (cmpE p o.high)) ∧ Below w'.heap.size w' w'') := Lib.hid (fun w' => refcmp4_any p o.high w')
              generalize cmpE p o.low = c1 at *
              generalize cmpE p o.high = c2 at *
              have uc0 := u_90.out.c0
              have uc1 := u_90.out.c1
              have uc2 := u_90.out.c2
              have uc3 := u_90.out.c3
              have uc4 := u_90.out.c4
              have uc5 := u_90.out.c5
              have rc0 := r_90.out.c0
              have rc1 := r_90.out.c1
              have rc2 := r_90.out.c2
              go_wp2_with fail
              clear uc0 uc1 uc2 uc3 uc4 uc5 rc0 rc1 rc2
              refine (HCM1.out _).mono ?_
              rintro e v91 ⟨rfl, hb⟩
              have D91 := Lib.hid (D90.out.trans (hb.mono D90.out.size))
              have z_91 := Lib.hid (z_90.out.bel hb)
              have o1_91 := Lib.hid (o1_90.out.bel hb)
              have o2_91 := Lib.hid (o2_90.out.bel hb)
              have u_91 := Lib.hid (u_90.out.bel hb)
              have r_91 := Lib.hid (r_90.out.bel hb)
              clear D90 z_90 o1_90 o2_90 u_90 r_90
              clear hb
              rcases Bool.eq_false_or_eq_true (decide (c1 < 0)) with q1 | q1
              ·
                rw [q1] at HV0
                have rc0 := r_91.out.c0
                have rc1 := r_91.out.c1
                have rc2 := r_91.out.c2
                have uc0 := u_91.out.c0; have uf0 := u_91.out.fz 0
                have uc1 := u_91.out.c1; have uf1 := u_91.out.fz 1
                have uc2 := u_91.out.c2; have uf2 := u_91.out.fz 2
                go_upto_region 17 with fail
                clear rc0 rc1 rc2 uc0 uc1 uc2 uf0 uf1 uf2
                obtain ⟨X92, hX92⟩ : ∃ W, W = ((((((v91).setCell ⟨B2 + 1 + 1, 0, none⟩ (.bool p.neg))).setCell ⟨B2 + 1 + 1, 1, none⟩ (.string p.num))).setCell ⟨B2 + 1 + 1, 2, none⟩ (.string p.den)) := ⟨_, rfl⟩
                have hbes : Bes (B2 + 1 + 1) v91 X92 := by rw [hX92]; exact (((Bes.set _ (B2 + 1 + 1) 0 _).trans (Bes.set _ (B2 + 1 + 1) 1 _)).trans (Bes.set _ (B2 + 1 + 1) 2 _))
                have D92 : Hid (Below w.heap.size w X92) := Lib.hid (by rw [hX92]; exact (((D91.out.setCell (p := ⟨B2 + 1 + 1, 0, none⟩) HLU.out _).setCell (p := ⟨B2 + 1 + 1, 1, none⟩) HLU.out _).setCell (p := ⟨B2 + 1 + 1, 2, none⟩) HLU.out _))
                have z_92 := Lib.hid (z_91.out.bes hbes (by have h3 := HNE.out; omega))
                have o1_92 := Lib.hid (o1_91.out.bes hbes (by have h3 := HNE.out; omega))
                have o2_92 := Lib.hid (o2_91.out.bes hbes (by have h3 := HNE.out; omega))
                have u_92 : Hid (IvAt (B2 + 1 + 1) (⟨p, o.high⟩ : Iv) X92) := Lib.hid (by rw [hX92]; exact u_91.out.setLow p)
                have r_92 := Lib.hid (r_91.out.besB hbes (by have h3 := HRN.out; have h4 := HRU.out; omega))
                clear hbes D91 z_91 o1_91 o2_91 u_91 r_91
                rw [← hX92]
                have HX92 := Lib.hid hX92; clear hX92
                have uc0 := u_92.out.c0
                have uc1 := u_92.out.c1
                have uc2 := u_92.out.c2
                have uc3 := u_92.out.c3
                have uc4 := u_92.out.c4
                have uc5 := u_92.out.c5
                have rc0 := r_92.out.c0
                have rc1 := r_92.out.c1
                have rc2 := r_92.out.c2
                go_wp2_with fail
                clear uc0 uc1 uc2 uc3 uc4 uc5 rc0 rc1 rc2 q1
                refine (HCM2.out _).mono ?_
                rintro e v93 ⟨rfl, hb⟩
                have D93 := Lib.hid (D92.out.trans (hb.mono D92.out.size))
                have z_93 := Lib.hid (z_92.out.bel hb)
                have o1_93 := Lib.hid (o1_92.out.bel hb)
                have o2_93 := Lib.hid (o2_92.out.bel hb)
                have u_93 := Lib.hid (u_92.out.bel hb)
                have r_93 := Lib.hid (r_92.out.bel hb)
                clear D92 z_92 o1_92 o2_92 u_92 r_92
                clear hb
                rcases Bool.eq_false_or_eq_true (decide (0 < c2)) with q2 | q2
                ·
                  rw [q2] at HV0
                  have rc0 := r_93.out.c0
                  have rc1 := r_93.out.c1
                  have rc2 := r_93.out.c2
                  have uc3 := u_93.out.c3; have uf3 := u_93.out.fz 3
                  have uc4 := u_93.out.c4; have uf4 := u_93.out.fz 4
                  have uc5 := u_93.out.c5; have uf5 := u_93.out.fz 5
                  go_wp2_with fail
                  clear rc0 rc1 rc2 uc3 uc4 uc5 uf3 uf4 uf5
                  obtain ⟨X94, hX94⟩ : ∃ W, W = ((((((v93).setCell ⟨B2 + 1 + 1, 3, none⟩ (.bool p.neg))).setCell ⟨B2 + 1 + 1, 4, none⟩ (.string p.num))).setCell ⟨B2 + 1 + 1, 5, none⟩ (.string p.den)) := ⟨_, rfl⟩
                  have hbes : Bes (B2 + 1 + 1) v93 X94 := by rw [hX94]; exact (((Bes.set _ (B2 + 1 + 1) 3 _).trans (Bes.set _ (B2 + 1 + 1) 4 _)).trans (Bes.set _ (B2 + 1 + 1) 5 _))
                  have D94 : Hid (Below w.heap.size w X94) := Lib.hid (by rw [hX94]; exact (((D93.out.setCell (p := ⟨B2 + 1 + 1, 3, none⟩) HLU.out _).setCell (p := ⟨B2 + 1 + 1, 4, none⟩) HLU.out _).setCell (p := ⟨B2 + 1 + 1, 5, none⟩) HLU.out _))
                  have z_94 := Lib.hid (z_93.out.bes hbes (by have h3 := HNE.out; omega))
                  have o1_94 := Lib.hid (o1_93.out.bes hbes (by have h3 := HNE.out; omega))
                  have o2_94 := Lib.hid (o2_93.out.bes hbes (by have h3 := HNE.out; omega))
                  have u_94 : Hid (IvAt (B2 + 1 + 1) (⟨p, p⟩ : Iv) X94) := Lib.hid (by rw [hX94]; exact u_93.out.setHigh p)
                  have r_94 := Lib.hid (r_93.out.besB hbes (by have h3 := HRN.out; have h4 := HRU.out; omega))
                  clear hbes D93 z_93 o1_93 o2_93 u_93 r_93
                  rw [← hX94]
                  have HX94 := Lib.hid hX94; clear hX94
                  have HV : Hid (outMul a b (2 * 1 + (0 + 1)) = (⟨p, p⟩ : Iv)) := Lib.hid (by rw [HV0.out]; rfl)
                  go_wp2_with fail
                  go_roundw
                  case rel => exact ⟨0 + 1, .inr (.inl ⟨rfl, rfl⟩), D94, z_94, o1_94, o2_94, Lib.hid (by rw [show outMul a b (2 * 1 + (0 + 1)) = (⟨p, p⟩ : Iv) from HV.out]; exact u_94.out), HN2⟩
                  case measure => simp [intOf]
                ·
                  rw [q2] at HV0
                  have HV : Hid (outMul a b (2 * 1 + (0 + 1)) = (⟨p, o.high⟩ : Iv)) := Lib.hid (by rw [HV0.out]; rfl)
                  go_wp2_with fail
                  go_roundw
                  case rel => exact ⟨0 + 1, .inr (.inl ⟨rfl, rfl⟩), D93, z_93, o1_93, o2_93, Lib.hid (by rw [show outMul a b (2 * 1 + (0 + 1)) = (⟨p, o.high⟩ : Iv) from HV.out]; exact u_93.out), HN2⟩
                  case measure => simp [intOf]
              ·
                rw [q1] at HV0
                have uc0 := u_91.out.c0
                have uc1 := u_91.out.c1
                have uc2 := u_91.out.c2
                have uc3 := u_91.out.c3
                have uc4 := u_91.out.c4
                have uc5 := u_91.out.c5
                have rc0 := r_91.out.c0
                have rc1 := r_91.out.c1
                have rc2 := r_91.out.c2
                go_wp2_with fail
                clear uc0 uc1 uc2 uc3 uc4 uc5 rc0 rc1 rc2 q1
                refine (HCM2.out _).mono ?_
                rintro e v92 ⟨rfl, hb⟩
                have D92 := Lib.hid (D91.out.trans (hb.mono D91.out.size))
                have z_92 := Lib.hid (z_91.out.bel hb)
                have o1_92 := Lib.hid (o1_91.out.bel hb)
                have o2_92 := Lib.hid (o2_91.out.bel hb)
                have u_92 := Lib.hid (u_91.out.bel hb)
                have r_92 := Lib.hid (r_91.out.bel hb)
                clear D91 z_91 o1_91 o2_91 u_91 r_91
                clear hb
                rcases Bool.eq_false_or_eq_true (decide (0 < c2)) with q2 | q2
                ·
                  rw [q2] at HV0
                  have rc0 := r_92.out.c0
                  have rc1 := r_92.out.c1
                  have rc2 := r_92.out.c2
                  have uc3 := u_92.out.c3; have uf3 := u_92.out.fz 3
                  have uc4 := u_92.out.c4; have uf4 := u_92.out.fz 4
                  have uc5 := u_92.out.c5; have uf5 := u_92.out.fz 5
                  go_wp2_with fail
                  clear rc0 rc1 rc2 uc3 uc4 uc5 uf3 uf4 uf5
                  obtain ⟨X93, hX93⟩ : ∃ W, W = ((((((v92).setCell ⟨B2 + 1 + 1, 3, none⟩ (.bool p.neg))).setCell ⟨B2 + 1 + 1, 4, none⟩ (.string p.num))).setCell ⟨B2 + 1 + 1, 5, none⟩ (.string p.den)) := ⟨_, rfl⟩
                  have hbes : Bes (B2 + 1 + 1) v92 X93 := by rw [hX93]; exact (((Bes.set _ (B2 + 1 + 1) 3 _).trans (Bes.set _ (B2 + 1 + 1) 4 _)).trans (Bes.set _ (B2 + 1 + 1) 5 _))
                  have D93 : Hid (Below w.heap.size w X93) := Lib.hid (by rw [hX93]; exact (((D92.out.setCell (p := ⟨B2 + 1 + 1, 3, none⟩) HLU.out _).setCell (p := ⟨B2 + 1 + 1, 4, none⟩) HLU.out _).setCell (p := ⟨B2 + 1 + 1, 5, none⟩) HLU.out _))
                  have z_93 := Lib.hid (z_92.out.bes hbes (by have h3 := HNE.out; omega))
                  have o1_93 := Lib.hid (o1_92.out.bes hbes (by have h3 := HNE.out; omega))
                  have o2_93 := Lib.hid (o2_92.out.bes hbes (by have h3 := HNE.out; omega))
                  have u_93 : Hid (IvAt (B2 + 1 + 1) (⟨o.low, p⟩ : Iv) X93) := Lib.hid (by rw [hX93]; exact u_92.out.setHigh p)
                  have r_93 := Lib.hid (r_92.out.besB hbes (by have h3 := HRN.out; have h4 := HRU.out; omega))
                  clear hbes D92 z_92 o1_92 o2_92 u_92 r_92
                  rw [← hX93]
                  have HX93 := Lib.hid hX93; clear hX93
                  have HV : Hid (outMul a b (2 * 1 + (0 + 1)) = (⟨o.low, p⟩ : Iv)) := Lib.hid (by rw [HV0.out]; rfl)
                  go_wp2_with fail
                  go_roundw
                  case rel => exact ⟨0 + 1, .inr (.inl ⟨rfl, rfl⟩), D93, z_93, o1_93, o2_93, Lib.hid (by rw [show outMul a b (2 * 1 + (0 + 1)) = (⟨o.low, p⟩ : Iv) from HV.out]; exact u_93.out), HN2⟩
                  case measure => simp [intOf]
                ·
                  rw [q2] at HV0
                  have HV : Hid (outMul a b (2 * 1 + (0 + 1)) = o) := Lib.hid (by rw [HV0.out]; rfl)
                  go_wp2_with fail
                  go_roundw
                  case rel => exact ⟨0 + 1, .inr (.inl ⟨rfl, rfl⟩), D92, z_92, o1_92, o2_92, Lib.hid (by rw [show outMul a b (2 * 1 + (0 + 1)) = o from HV.out]; exact u_92.out), HN2⟩
                  case measure => simp [intOf]
            ·
              have q0 : (e != 0) = true := by simpa using e0
              have HTT : Hid (t = (noI, 2)) := Lib.hid (by rw [HT.out]; exact (mulI_bad HOK.out (List.mem_of_getElem? HP.out) e0).1)
              have zc0 := z_90.out.c0
              have zf0 := z_90.out.fz 0
              have zc1 := z_90.out.c1
              have zf1 := z_90.out.fz 1
              have zc2 := z_90.out.c2
              have zf2 := z_90.out.fz 2
              have zc3 := z_90.out.c3
              have zf3 := z_90.out.fz 3
              have zc4 := z_90.out.c4
              have zf4 := z_90.out.fz 4
              have zc5 := z_90.out.c5
              have zf5 := z_90.out.fz 5
              go_wp2_with fail
              (try simp only [Exit.inBlock, Exit.then])
              refine bodyPost_ret (results_iv rfl _ _ (B1 + 1 + 1) noI _ rfl rfl (z_90.out.set noI)) rfl ?_; rw [HTT.out]; exact ⟨rfl, ((((((D90.out.setCell (p := ⟨B1 + 1 + 1, 0, none⟩) (by have := HB1.out; show w.heap.size ≤ B1 + 1 + 1; omega) _).setCell (p := ⟨B1 + 1 + 1, 1, none⟩) (by have := HB1.out; show w.heap.size ≤ B1 + 1 + 1; omega) _).setCell (p := ⟨B1 + 1 + 1, 2, none⟩) (by have := HB1.out; show w.heap.size ≤ B1 + 1 + 1; omega) _).setCell (p := ⟨B1 + 1 + 1, 3, none⟩) (by have := HB1.out; show w.heap.size ≤ B1 + 1 + 1; omega) _).setCell (p := ⟨B1 + 1 + 1, 4, none⟩) (by have := HB1.out; show w.heap.size ≤ B1 + 1 + 1; omega) _).setCell (p := ⟨B1 + 1 + 1, 5, none⟩) (by have := HB1.out; show w.heap.size ≤ B1 + 1 + 1; omega) _)⟩
        ·
          obtain ⟨p, e, hp⟩ : ∃ p e, mulE a.high b.high = (p, e) := ⟨_, _, rfl⟩
          have HP : Hid ((prods a b)[3]? = some (p, e)) := Lib.hid (by rw [← hp]; rfl)
          have HM : Hid (∀ w', Calls Tryz.prog 27 #[.agg #[.bool a.high.neg, .string a.high.num, .string a.high.den], .agg #[.bool b.high.neg, .string b.high.num, .string b.high.den]] w' (GivesR (p, e) w')) := Lib.hid (fun w' => by have := refmul4_any a.high b.high w'; rwa [hp] at this)
          clear hp
          go_upto_region 12 with fail
          go_cut [11, 12] (fun s11 s12 wx => ∃ R, s11 = .pointer (some ⟨R, 0, none⟩) ∧ s12 = .int .i64 e ∧ Hid (wr.heap.size ≤ R ∧ RatAt R p wx ∧ Below wr.heap.size wr wx))
          case first =>
            have HDR : Hid (Below wr.heap.size wr wr.drew) := Lib.hid ((Below.refl _ _).drew)
            have HB0 : Hid (Below wr.heap.size wr (wr.alloc (Obj.cells #[Value.bool false, Value.string ⟨#[]⟩, Value.string ⟨#[]⟩] 24)).drew) := Lib.hid (((Below.refl _ _).alloc (Nat.le_refl _) _).drew)
            have HZ0 : Hid (RatAt wr.heap.size noRaw (wr.alloc (Obj.cells #[Value.bool false, Value.string ⟨#[]⟩, Value.string ⟨#[]⟩] 24)).drew) := Lib.hid (RatAt.bel ⟨heap_lastM _ _⟩ ((Below.refl _ _).drew))
            go_region_held3 (fun w' => Below wr.heap.size wr w' ∧ w'.cell? ⟨B2, 0, none⟩ = some (.bool a.low.neg) ∧ w'.cell? ⟨B2, 1, none⟩ = some (.string a.low.num) ∧ w'.cell? ⟨B2, 2, none⟩ = some (.string a.low.den) ∧ w'.cell? ⟨B2, 3, none⟩ = some (.bool a.high.neg) ∧ w'.cell? ⟨B2, 4, none⟩ = some (.string a.high.num) ∧ w'.cell? ⟨B2, 5, none⟩ = some (.string a.high.den) ∧ w'.cell? ⟨B2 + 1, 0, none⟩ = some (.bool b.low.neg) ∧ w'.cell? ⟨B2 + 1, 1, none⟩ = some (.string b.low.num) ∧ w'.cell? ⟨B2 + 1, 2, none⟩ = some (.string b.low.den) ∧ w'.cell? ⟨B2 + 1, 3, none⟩ = some (.bool b.high.neg) ∧ w'.cell? ⟨B2 + 1, 4, none⟩ = some (.string b.high.num) ∧ w'.cell? ⟨B2 + 1, 5, none⟩ = some (.string b.high.den)) (first | (with_reducible assumption) | with_reducible exact keepM h1.out h2.out HDR.out | with_reducible exact keepM h1.out h2.out HB0.out | with_reducible exact keepM h1.out h2.out HY.out | exact keepM h1.out h2.out (HY.out.alloc HY.out.size _) | exact keepM h1.out h2.out (((HY.out.setCell (p := ⟨wr.heap.size, 0, none⟩) (Nat.le_refl _) _).setCell (p := ⟨wr.heap.size, 1, none⟩) (Nat.le_refl _) _).setCell (p := ⟨wr.heap.size, 2, none⟩) (Nat.le_refl _) _)) (first | (go_at_call 27; ((with_reducible refine (HM.out _).mono ?_); rintro e' y1 ⟨rfl, hy⟩; have HY : Hid (Below wr.heap.size wr y1) := Lib.hid (HB0.out.trans (hy.mono HB0.out.size)); have HZ1 := Lib.hid (HZ0.out.bel hy); have zc0 := HZ1.out.c0; have zc1 := HZ1.out.c1; have zc2 := HZ1.out.c2; have zf0 := HZ1.out.fz 0; have zf1 := HZ1.out.fz 1; have zf2 := HZ1.out.fz 2)) | (go_at_call 27; ((with_reducible refine (HM.out _).mono ?_); rintro e' y1 ⟨rfl, hy⟩; have HY : Hid (Below wr.heap.size wr y1) := Lib.hid (HDR.out.trans (hy.mono HDR.out.size)))) | fail "no arm")
            all_goals (go_wp2_with fail; go_meet)
            all_goals first | exact ⟨_, rfl, rfl, Lib.hid ⟨Nat.le_refl _, HZ1.out.set p, (((HY.out.setCell (p := ⟨wr.heap.size, 0, none⟩) (Nat.le_refl _) _).setCell (p := ⟨wr.heap.size, 1, none⟩) (Nat.le_refl _) _).setCell (p := ⟨wr.heap.size, 2, none⟩) (Nat.le_refl _) _)⟩⟩ | exact ⟨_, rfl, rfl, Lib.hid ⟨HY.out.size, ⟨heap_lastM _ _⟩, HY.out.alloc HY.out.size _⟩⟩
          case rest =>
            obtain ⟨R, rfl, rfl, hcut⟩ := hcut
            have HRU : Hid ((B2 + 1 + 1) < wr.heap.size) := Lib.hid (blk_lt hu.out.cells)
            have HRN : Hid (wr.heap.size ≤ R) := Lib.hid hcut.out.1; have r_90 : Hid (RatAt R p wc) := Lib.hid hcut.out.2.1; have HX := Lib.hid hcut.out.2.2; clear hcut
            have D90 := Lib.hid (hB.out.trans (HX.out.mono hB.out.size)); have z_90 := Lib.hid (hz.out.bel HX.out); have o1_90 := Lib.hid (h1.out.bel HX.out); have o2_90 := Lib.hid (h2.out.bel HX.out); have u_90 := Lib.hid (hu.out.bel HX.out)
            clear hB hz h1 h2 hu HX
            obtain ⟨wd, hnm⟩ : ∃ x, x = wc := ⟨_, rfl⟩
            subst hnm
            obtain ⟨o, ho⟩ : ∃ o, o = outMul a b (2 * 1 + 1) := ⟨_, rfl⟩
            rw [← ho] at u_90
            have HO := Lib.hid ho; clear ho
            by_cases e0 : e = 0
            ·
              subst e0
              have HN2 : Hid (OkN a b (2 * 1 + (1 + 1))) := Lib.hid (okN_next hn.out HP.out rfl)
              have HV0 : Hid (outMul a b (2 * 1 + (1 + 1)) = ⟨if decide (cmpE p o.low < 0) then p else o.low, if decide (0 < cmpE p o.high) then p else o.high⟩) := Lib.hid (by have := outMul_next a b 3 (by omega) (by omega) p (by rw [HP.out]; rfl); rw [show 2 * 1 + (1 + 1) = 3 + 1 from rfl, this, HO.out]; unfold minR maxR; simp only [decide_eq_true_eq])
              have HCM1 : Hid (∀ w', Calls Tryz.prog 28 #[.agg #[.bool p.neg, .string p.num, .string p.den], .agg #[.bool o.low.neg, .string o.low.num, .string o.low.den]] w' fun e w'' => e = .returned (.int .i64 (cmpE p o.low)) ∧ Below w'.heap.size w' w'') := Lib.hid (fun w' => refcmp4_any p o.low w')
              have HCM2 : Hid (∀ w', Calls Tryz.prog 28 #[.agg #[.bool p.neg, .string p.num, .string p.den], .agg #[.bool o.high.neg, .string o.high.num, .string o.high.den]] w' fun e w'' => e = .returned (.int .i64 (cmpE p o.high)) ∧ Below w'.heap.size w' w'') := Lib.hid (fun w' => refcmp4_any p o.high w')
              generalize cmpE p o.low = c1 at *
              generalize cmpE p o.high = c2 at *
              have uc0 := u_90.out.c0
              have uc1 := u_90.out.c1
              have uc2 := u_90.out.c2
              have uc3 := u_90.out.c3
              have uc4 := u_90.out.c4
              have uc5 := u_90.out.c5
              have rc0 := r_90.out.c0
              have rc1 := r_90.out.c1
              have rc2 := r_90.out.c2
              go_wp2_with fail
              clear uc0 uc1 uc2 uc3 uc4 uc5 rc0 rc1 rc2
              refine (HCM1.out _).mono ?_
              rintro e v91 ⟨rfl, hb⟩
              have D91 := Lib.hid (D90.out.trans (hb.mono D90.out.size))
              have z_91 := Lib.hid (z_90.out.bel hb)
              have o1_91 := Lib.hid (o1_90.out.bel hb)
              have o2_91 := Lib.hid (o2_90.out.bel hb)
              have u_91 := Lib.hid (u_90.out.bel hb)
              have r_91 := Lib.hid (r_90.out.bel hb)
              clear D90 z_90 o1_90 o2_90 u_90 r_90
              clear hb
              rcases Bool.eq_false_or_eq_true (decide (c1 < 0)) with q1 | q1
              ·
                rw [q1] at HV0
                have rc0 := r_91.out.c0
                have rc1 := r_91.out.c1
                have rc2 := r_91.out.c2
                have uc0 := u_91.out.c0; have uf0 := u_91.out.fz 0
                have uc1 := u_91.out.c1; have uf1 := u_91.out.fz 1
                have uc2 := u_91.out.c2; have uf2 := u_91.out.fz 2
                go_upto_region 17 with fail
                clear rc0 rc1 rc2 uc0 uc1 uc2 uf0 uf1 uf2
                obtain ⟨X92, hX92⟩ : ∃ W, W = ((((((v91).setCell ⟨B2 + 1 + 1, 0, none⟩ (.bool p.neg))).setCell ⟨B2 + 1 + 1, 1, none⟩ (.string p.num))).setCell ⟨B2 + 1 + 1, 2, none⟩ (.string p.den)) := ⟨_, rfl⟩
                have hbes : Bes (B2 + 1 + 1) v91 X92 := by rw [hX92]; exact (((Bes.set _ (B2 + 1 + 1) 0 _).trans (Bes.set _ (B2 + 1 + 1) 1 _)).trans (Bes.set _ (B2 + 1 + 1) 2 _))
                have D92 : Hid (Below w.heap.size w X92) := Lib.hid (by rw [hX92]; exact (((D91.out.setCell (p := ⟨B2 + 1 + 1, 0, none⟩) HLU.out _).setCell (p := ⟨B2 + 1 + 1, 1, none⟩) HLU.out _).setCell (p := ⟨B2 + 1 + 1, 2, none⟩) HLU.out _))
                have z_92 := Lib.hid (z_91.out.bes hbes (by have h3 := HNE.out; omega))
                have o1_92 := Lib.hid (o1_91.out.bes hbes (by have h3 := HNE.out; omega))
                have o2_92 := Lib.hid (o2_91.out.bes hbes (by have h3 := HNE.out; omega))
                have u_92 : Hid (IvAt (B2 + 1 + 1) (⟨p, o.high⟩ : Iv) X92) := Lib.hid (by rw [hX92]; exact u_91.out.setLow p)
                have r_92 := Lib.hid (r_91.out.besB hbes (by have h3 := HRN.out; have h4 := HRU.out; omega))
                clear hbes D91 z_91 o1_91 o2_91 u_91 r_91
                rw [← hX92]
                have HX92 := Lib.hid hX92; clear hX92
                have uc0 := u_92.out.c0
                have uc1 := u_92.out.c1
                have uc2 := u_92.out.c2
                have uc3 := u_92.out.c3
                have uc4 := u_92.out.c4
                have uc5 := u_92.out.c5
                have rc0 := r_92.out.c0
                have rc1 := r_92.out.c1
                have rc2 := r_92.out.c2
                go_wp2_with fail
                clear uc0 uc1 uc2 uc3 uc4 uc5 rc0 rc1 rc2 q1
                refine (HCM2.out _).mono ?_
                rintro e v93 ⟨rfl, hb⟩
                have D93 := Lib.hid (D92.out.trans (hb.mono D92.out.size))
                have z_93 := Lib.hid (z_92.out.bel hb)
                have o1_93 := Lib.hid (o1_92.out.bel hb)
                have o2_93 := Lib.hid (o2_92.out.bel hb)
                have u_93 := Lib.hid (u_92.out.bel hb)
                have r_93 := Lib.hid (r_92.out.bel hb)
                clear D92 z_92 o1_92 o2_92 u_92 r_92
                clear hb
                rcases Bool.eq_false_or_eq_true (decide (0 < c2)) with q2 | q2
                ·
                  rw [q2] at HV0
                  have rc0 := r_93.out.c0
                  have rc1 := r_93.out.c1
                  have rc2 := r_93.out.c2
                  have uc3 := u_93.out.c3; have uf3 := u_93.out.fz 3
                  have uc4 := u_93.out.c4; have uf4 := u_93.out.fz 4
                  have uc5 := u_93.out.c5; have uf5 := u_93.out.fz 5
                  go_wp2_with fail
                  clear rc0 rc1 rc2 uc3 uc4 uc5 uf3 uf4 uf5
                  obtain ⟨X94, hX94⟩ : ∃ W, W = ((((((v93).setCell ⟨B2 + 1 + 1, 3, none⟩ (.bool p.neg))).setCell ⟨B2 + 1 + 1, 4, none⟩ (.string p.num))).setCell ⟨B2 + 1 + 1, 5, none⟩ (.string p.den)) := ⟨_, rfl⟩
                  have hbes : Bes (B2 + 1 + 1) v93 X94 := by rw [hX94]; exact (((Bes.set _ (B2 + 1 + 1) 3 _).trans (Bes.set _ (B2 + 1 + 1) 4 _)).trans (Bes.set _ (B2 + 1 + 1) 5 _))
                  have D94 : Hid (Below w.heap.size w X94) := Lib.hid (by rw [hX94]; exact (((D93.out.setCell (p := ⟨B2 + 1 + 1, 3, none⟩) HLU.out _).setCell (p := ⟨B2 + 1 + 1, 4, none⟩) HLU.out _).setCell (p := ⟨B2 + 1 + 1, 5, none⟩) HLU.out _))
                  have z_94 := Lib.hid (z_93.out.bes hbes (by have h3 := HNE.out; omega))
                  have o1_94 := Lib.hid (o1_93.out.bes hbes (by have h3 := HNE.out; omega))
                  have o2_94 := Lib.hid (o2_93.out.bes hbes (by have h3 := HNE.out; omega))
                  have u_94 : Hid (IvAt (B2 + 1 + 1) (⟨p, p⟩ : Iv) X94) := Lib.hid (by rw [hX94]; exact u_93.out.setHigh p)
                  have r_94 := Lib.hid (r_93.out.besB hbes (by have h3 := HRN.out; have h4 := HRU.out; omega))
                  clear hbes D93 z_93 o1_93 o2_93 u_93 r_93
                  rw [← hX94]
                  have HX94 := Lib.hid hX94; clear hX94
                  have HV : Hid (outMul a b (2 * 1 + (1 + 1)) = (⟨p, p⟩ : Iv)) := Lib.hid (by rw [HV0.out]; rfl)
                  go_wp2_with fail
                  go_roundw
                  case rel => exact ⟨1 + 1, .inr (.inr ⟨rfl, rfl⟩), D94, z_94, o1_94, o2_94, Lib.hid (by rw [show outMul a b (2 * 1 + (1 + 1)) = (⟨p, p⟩ : Iv) from HV.out]; exact u_94.out), HN2⟩
                  case measure => simp [intOf]
                ·
                  rw [q2] at HV0
                  have HV : Hid (outMul a b (2 * 1 + (1 + 1)) = (⟨p, o.high⟩ : Iv)) := Lib.hid (by rw [HV0.out]; rfl)
                  go_wp2_with fail
                  go_roundw
                  case rel => exact ⟨1 + 1, .inr (.inr ⟨rfl, rfl⟩), D93, z_93, o1_93, o2_93, Lib.hid (by rw [show outMul a b (2 * 1 + (1 + 1)) = (⟨p, o.high⟩ : Iv) from HV.out]; exact u_93.out), HN2⟩
                  case measure => simp [intOf]
              ·
                rw [q1] at HV0
                have uc0 := u_91.out.c0
                have uc1 := u_91.out.c1
                have uc2 := u_91.out.c2
                have uc3 := u_91.out.c3
                have uc4 := u_91.out.c4
                have uc5 := u_91.out.c5
                have rc0 := r_91.out.c0
                have rc1 := r_91.out.c1
                have rc2 := r_91.out.c2
                go_wp2_with fail
                clear uc0 uc1 uc2 uc3 uc4 uc5 rc0 rc1 rc2 q1
                refine (HCM2.out _).mono ?_
                rintro e v92 ⟨rfl, hb⟩
                have D92 := Lib.hid (D91.out.trans (hb.mono D91.out.size))
                have z_92 := Lib.hid (z_91.out.bel hb)
                have o1_92 := Lib.hid (o1_91.out.bel hb)
                have o2_92 := Lib.hid (o2_91.out.bel hb)
                have u_92 := Lib.hid (u_91.out.bel hb)
                have r_92 := Lib.hid (r_91.out.bel hb)
                clear D91 z_91 o1_91 o2_91 u_91 r_91
                clear hb
                rcases Bool.eq_false_or_eq_true (decide (0 < c2)) with q2 | q2
                ·
                  rw [q2] at HV0
                  have rc0 := r_92.out.c0
                  have rc1 := r_92.out.c1
                  have rc2 := r_92.out.c2
                  have uc3 := u_92.out.c3; have uf3 := u_92.out.fz 3
                  have uc4 := u_92.out.c4; have uf4 := u_92.out.fz 4
                  have uc5 := u_92.out.c5; have uf5 := u_92.out.fz 5
                  go_wp2_with fail
                  clear rc0 rc1 rc2 uc3 uc4 uc5 uf3 uf4 uf5
                  obtain ⟨X93, hX93⟩ : ∃ W, W = ((((((v92).setCell ⟨B2 + 1 + 1, 3, none⟩ (.bool p.neg))).setCell ⟨B2 + 1 + 1, 4, none⟩ (.string p.num))).setCell ⟨B2 + 1 + 1, 5, none⟩ (.string p.den)) := ⟨_, rfl⟩
                  have hbes : Bes (B2 + 1 + 1) v92 X93 := by rw [hX93]; exact (((Bes.set _ (B2 + 1 + 1) 3 _).trans (Bes.set _ (B2 + 1 + 1) 4 _)).trans (Bes.set _ (B2 + 1 + 1) 5 _))
                  have D93 : Hid (Below w.heap.size w X93) := Lib.hid (by rw [hX93]; exact (((D92.out.setCell (p := ⟨B2 + 1 + 1, 3, none⟩) HLU.out _).setCell (p := ⟨B2 + 1 + 1, 4, none⟩) HLU.out _).setCell (p := ⟨B2 + 1 + 1, 5, none⟩) HLU.out _))
                  have z_93 := Lib.hid (z_92.out.bes hbes (by have h3 := HNE.out; omega))
                  have o1_93 := Lib.hid (o1_92.out.bes hbes (by have h3 := HNE.out; omega))
                  have o2_93 := Lib.hid (o2_92.out.bes hbes (by have h3 := HNE.out; omega))
                  have u_93 : Hid (IvAt (B2 + 1 + 1) (⟨o.low, p⟩ : Iv) X93) := Lib.hid (by rw [hX93]; exact u_92.out.setHigh p)
                  have r_93 := Lib.hid (r_92.out.besB hbes (by have h3 := HRN.out; have h4 := HRU.out; omega))
                  clear hbes D92 z_92 o1_92 o2_92 u_92 r_92
                  rw [← hX93]
                  have HX93 := Lib.hid hX93; clear hX93
                  have HV : Hid (outMul a b (2 * 1 + (1 + 1)) = (⟨o.low, p⟩ : Iv)) := Lib.hid (by rw [HV0.out]; rfl)
                  go_wp2_with fail
                  go_roundw
                  case rel => exact ⟨1 + 1, .inr (.inr ⟨rfl, rfl⟩), D93, z_93, o1_93, o2_93, Lib.hid (by rw [show outMul a b (2 * 1 + (1 + 1)) = (⟨o.low, p⟩ : Iv) from HV.out]; exact u_93.out), HN2⟩
                  case measure => simp [intOf]
                ·
                  rw [q2] at HV0
                  have HV : Hid (outMul a b (2 * 1 + (1 + 1)) = o) := Lib.hid (by rw [HV0.out]; rfl)
                  go_wp2_with fail
                  go_roundw
                  case rel => exact ⟨1 + 1, .inr (.inr ⟨rfl, rfl⟩), D92, z_92, o1_92, o2_92, Lib.hid (by rw [show outMul a b (2 * 1 + (1 + 1)) = o from HV.out]; exact u_92.out), HN2⟩
                  case measure => simp [intOf]
            ·
              have q0 : (e != 0) = true := by simpa using e0
              have HTT : Hid (t = (noI, 2)) := Lib.hid (by rw [HT.out]; exact (mulI_bad HOK.out (List.mem_of_getElem? HP.out) e0).1)
              have zc0 := z_90.out.c0
              have zf0 := z_90.out.fz 0
              have zc1 := z_90.out.c1
              have zf1 := z_90.out.fz 1
              have zc2 := z_90.out.c2
              have zf2 := z_90.out.fz 2
              have zc3 := z_90.out.c3
              have zf3 := z_90.out.fz 3
              have zc4 := z_90.out.c4
              have zf4 := z_90.out.fz 4
              have zc5 := z_90.out.c5
              have zf5 := z_90.out.fz 5
              go_wp2_with fail
              (try simp only [Exit.inBlock, Exit.then])
              refine bodyPost_ret (results_iv rfl _ _ (B1 + 1 + 1) noI _ rfl rfl (z_90.out.set noI)) rfl ?_; rw [HTT.out]; exact ⟨rfl, ((((((D90.out.setCell (p := ⟨B1 + 1 + 1, 0, none⟩) (by have := HB1.out; show w.heap.size ≤ B1 + 1 + 1; omega) _).setCell (p := ⟨B1 + 1 + 1, 1, none⟩) (by have := HB1.out; show w.heap.size ≤ B1 + 1 + 1; omega) _).setCell (p := ⟨B1 + 1 + 1, 2, none⟩) (by have := HB1.out; show w.heap.size ≤ B1 + 1 + 1; omega) _).setCell (p := ⟨B1 + 1 + 1, 3, none⟩) (by have := HB1.out; show w.heap.size ≤ B1 + 1 + 1; omega) _).setCell (p := ⟨B1 + 1 + 1, 4, none⟩) (by have := HB1.out; show w.heap.size ≤ B1 + 1 + 1; omega) _).setCell (p := ⟨B1 + 1 + 1, 5, none⟩) (by have := HB1.out; show w.heap.size ≤ B1 + 1 + 1; omega) _)⟩
        ·
          go_wp2_with fail
          go_roundw
          case rel => exact ⟨1 + 1, .inr (.inr ⟨rfl, rfl⟩), hB, hz, h1, h2, hu, hn⟩
          case measure => simp [intOf]
    ·
      have HTT : Hid (t = (⟨lowM a b, highM a b⟩, 0)) := Lib.hid (by rw [HT.out]; exact mulI_okN HOK.out hn.out)
      obtain ⟨o, ho⟩ : ∃ o, o = outMul a b (2 * 2) := ⟨_, rfl⟩
      rw [← ho] at hu
      have HO : Hid ((⟨lowM a b, highM a b⟩ : Iv) = o) := Lib.hid (by rw [ho]; rfl); clear ho
      have hle : w.heap.size ≤ B1 + 1 + 1 := by have := HB1.out; omega
      have uc0 := hu.out.c0
      have uc1 := hu.out.c1
      have uc2 := hu.out.c2
      have uc3 := hu.out.c3
      have uc4 := hu.out.c4
      have uc5 := hu.out.c5
      have zc0 := hz.out.c0
      have zf0 := hz.out.fz 0
      have zc1 := hz.out.c1
      have zf1 := hz.out.fz 1
      have zc2 := hz.out.c2
      have zf2 := hz.out.fz 2
      have zc3 := hz.out.c3
      have zf3 := hz.out.fz 3
      have zc4 := hz.out.c4
      have zf4 := hz.out.fz 4
      have zc5 := hz.out.c5
      have zf5 := hz.out.fz 5
      go_wp2_with fail
      (try simp only [Exit.inBlock, Exit.then])
      refine bodyPost_ret (results_iv rfl _ _ (B1 + 1 + 1) o _ rfl rfl (hz.out.set o)) rfl ?_; rw [HTT.out, HO.out]; exact ⟨rfl, ((((((hB.out.setCell (p := ⟨B1 + 1 + 1, 0, none⟩) hle _).setCell (p := ⟨B1 + 1 + 1, 1, none⟩) hle _).setCell (p := ⟨B1 + 1 + 1, 2, none⟩) hle _).setCell (p := ⟨B1 + 1 + 1, 3, none⟩) hle _).setCell (p := ⟨B1 + 1 + 1, 4, none⟩) hle _).setCell (p := ⟨B1 + 1 + 1, 5, none⟩) hle _)⟩
end Go.Proofs.YtbcoblpnihdhgaaGreatDoor
