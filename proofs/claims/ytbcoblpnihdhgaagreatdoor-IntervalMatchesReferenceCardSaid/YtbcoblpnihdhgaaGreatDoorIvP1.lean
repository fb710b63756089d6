/-
  The program's interval package: less, the closures, Valid, Contains.
-/
import Derived.Test.YtbcoblpnihdhgaaGreatDoorRmE
import Derived.Test.YtbcoblpnihdhgaaGreatDoorRmI
import Derived.Test.YtbcoblpnihdhgaaGreatDoorIvA2
import Derived.Test.YtbcoblpnihdhgaaGreatDoorIvA1
import Derived.Test.YtbcoblpnihdhgaaGreatDoorRmF
import Derived.Deep.RegionHeld3
import Derived.Deep.DeepCutAuto
set_option linter.unusedVariables false
set_option maxRecDepth 100000
namespace Go.Proofs.YtbcoblpnihdhgaaGreatDoor
open Go.RowKit
open Rt
set_option maxHeartbeats 1000000 in
theorem piless_any (x y : Raw) (w : World) : Calls Tryz.prog 25 #[.agg #[.bool x.neg, .string x.num, .string x.den], .agg #[.bool y.neg, .string y.num, .string y.den]] w (GivesB (lessR x y) w) := by
  have hc : Hid (∀ w, Calls Tryz.prog 46 #[.agg #[.bool x.neg, .string x.num, .string x.den], .agg #[.bool y.neg, .string y.num, .string y.den]] w fun e w' => e = .returned (.int .i64 (cmpE x y)) ∧ Below w.heap.size w w') := Lib.hid (fun w => pratcmp_any x y w)
  unfold lessR
  generalize cmpE x y = c at *
  have D0 := Lib.hid (Below.refl w.heap.size w)
  go_enter Tryz.func25, Tryz.ntmps25
  go_wp2_with fail
  obtain ⟨B1, hB1⟩ : ∃ B, B = w.heap.size := ⟨_, rfl⟩
  obtain ⟨W1_0, hW1_0⟩ : ∃ W, W = w.alloc (Obj.cells #[Value.bool x.neg, Value.string x.num, Value.string x.den] 24) := ⟨_, rfl⟩
  have hb : Below w.heap.size w W1_0 := by rw [hW1_0]; exact (Below.refl _ _).alloc (Nat.le_refl _) _
  have hzW1_0 : w.heap.size = B1 := by rw [hB1]
  have hlW1_0 : RatAt (B1) x W1_0 := by rw [← hzW1_0, hW1_0]; exact ⟨heap_lastM _ _⟩
  have D1 := Lib.hid (D0.out.trans (hb.mono D0.out.size))
  clear hb
  have x_1 := Lib.hid hlW1_0
  clear hlW1_0
  obtain ⟨W1_1, hW1_1⟩ : ∃ W, W = W1_0.alloc (Obj.cells #[Value.bool y.neg, Value.string y.num, Value.string y.den] 24) := ⟨_, rfl⟩
  have hb : Below W1_0.heap.size W1_0 W1_1 := by rw [hW1_1]; exact (Below.refl _ _).alloc (Nat.le_refl _) _
  have hzW1_1 : W1_0.heap.size = B1 + 1 := by rw [hW1_0]; simp [hzW1_0]
  have hlW1_1 : RatAt (B1 + 1) y W1_1 := by rw [← hzW1_1, hW1_1]; exact ⟨heap_lastM _ _⟩
  have D2 := Lib.hid (D1.out.trans (hb.mono D1.out.size))
  have x_2 := Lib.hid (x_1.out.bel hb)
  clear D1 x_1
  clear hb
  have y_2 := Lib.hid hlW1_1
  clear hlW1_1
  rw [← hW1_0]
  rw [← hW1_1]
  simp only [← hB1]
  have HW1_0 := Lib.hid hW1_0
  clear hW1_0 hzW1_0
  have HW1_1 := Lib.hid hW1_1
  clear hW1_1 hzW1_1
  have HB1 := Lib.hid hB1
  clear hB1
  refine (hc.out _).mono ?_
  rintro e v3 ⟨rfl, hb⟩
  have D3 := Lib.hid (D2.out.trans (hb.mono D2.out.size))
  have x_3 := Lib.hid (x_2.out.bel hb)
  have y_3 := Lib.hid (y_2.out.bel hb)
  clear D2 x_2 y_2
  clear hb
  go_wp2_with fail
  go_ret
  exact ⟨by first | rfl | simp, D3.out⟩
set_option maxHeartbeats 1000000 in
theorem pmul1_any (x y : Raw) (w : World) : Calls Tryz.prog 26 #[.agg #[.bool x.neg, .string x.num, .string x.den], .agg #[.bool y.neg, .string y.num, .string y.den]] w (GivesB (moreR x y) w) := by
  have hc : Hid (∀ w, Calls Tryz.prog 25 #[.agg #[.bool y.neg, .string y.num, .string y.den], .agg #[.bool x.neg, .string x.num, .string x.den]] w (GivesB (moreR x y) w)) := Lib.hid (fun w => piless_any y x w)
  generalize moreR x y = c at *
  have D0 := Lib.hid (Below.refl w.heap.size w)
  go_enter Tryz.func26, Tryz.ntmps26
  go_wp2_with fail
  obtain ⟨B1, hB1⟩ : ∃ B, B = w.heap.size := ⟨_, rfl⟩
  obtain ⟨W1_0, hW1_0⟩ : ∃ W, W = w.alloc (Obj.cells #[Value.bool x.neg, Value.string x.num, Value.string x.den] 24) := ⟨_, rfl⟩
  have hb : Below w.heap.size w W1_0 := by rw [hW1_0]; exact (Below.refl _ _).alloc (Nat.le_refl _) _
  have hzW1_0 : w.heap.size = B1 := by rw [hB1]
  have hlW1_0 : RatAt (B1) x W1_0 := by rw [← hzW1_0, hW1_0]; exact ⟨heap_lastM _ _⟩
  have D1 := Lib.hid (D0.out.trans (hb.mono D0.out.size))
  clear hb
  have x_1 := Lib.hid hlW1_0
  clear hlW1_0
  obtain ⟨W1_1, hW1_1⟩ : ∃ W, W = W1_0.alloc (Obj.cells #[Value.bool y.neg, Value.string y.num, Value.string y.den] 24) := ⟨_, rfl⟩
  have hb : Below W1_0.heap.size W1_0 W1_1 := by rw [hW1_1]; exact (Below.refl _ _).alloc (Nat.le_refl _) _
  have hzW1_1 : W1_0.heap.size = B1 + 1 := by rw [hW1_0]; simp [hzW1_0]
  have hlW1_1 : RatAt (B1 + 1) y W1_1 := by rw [← hzW1_1, hW1_1]; exact ⟨heap_lastM _ _⟩
  have D2 := Lib.hid (D1.out.trans (hb.mono D1.out.size))
  have x_2 := Lib.hid (x_1.out.bel hb)
  clear D1 x_1
  clear hb
  have y_2 := Lib.hid hlW1_1
  clear hlW1_1
  rw [← hW1_0]
  rw [← hW1_1]
  simp only [← hB1]
  have HW1_0 := Lib.hid hW1_0
  clear hW1_0 hzW1_0
  have HW1_1 := Lib.hid hW1_1
  clear hW1_1 hzW1_1
  have HB1 := Lib.hid hB1
  clear hB1
  refine (hc.out _).mono ?_
  rintro e v3 ⟨rfl, hb⟩
  have D3 := Lib.hid (D2.out.trans (hb.mono D2.out.size))
  have x_3 := Lib.hid (x_2.out.bel hb)
  have y_3 := Lib.hid (y_2.out.bel hb)
  clear D2 x_2 y_2
  clear hb
  go_wp2_with fail
  go_ret
  exact ⟨by first | rfl | simp, D3.out⟩
set_option maxHeartbeats 1000000 in
theorem phull1_any (x y : Iv) (w : World) : Calls Tryz.prog 30 #[.agg #[.bool x.low.neg, .string x.low.num, .string x.low.den, .bool x.high.neg, .string x.high.num, .string x.high.den], .agg #[.bool y.low.neg, .string y.low.num, .string y.low.den, .bool y.high.neg, .string y.high.num, .string y.high.den]] w (GivesB (lessL x y) w) := by
  have hc : Hid (∀ w, Calls Tryz.prog 25 #[.agg #[.bool x.low.neg, .string x.low.num, .string x.low.den], .agg #[.bool y.low.neg, .string y.low.num, .string y.low.den]] w (GivesB (lessL x y) w)) := Lib.hid (fun w => piless_any x.low y.low w)
  generalize lessL x y = c at *
  have D0 := Lib.hid (Below.refl w.heap.size w)
  go_enter Tryz.func30, Tryz.ntmps30
  go_wp2_with fail
  obtain ⟨B1, hB1⟩ : ∃ B, B = w.heap.size := ⟨_, rfl⟩
  obtain ⟨W1_0, hW1_0⟩ : ∃ W, W = w.alloc (Obj.cells #[Value.bool x.low.neg, Value.string x.low.num, Value.string x.low.den, Value.bool x.high.neg, Value.string x.high.num, Value.string x.high.den] 26) := ⟨_, rfl⟩
  have hb : Below w.heap.size w W1_0 := by rw [hW1_0]; exact (Below.refl _ _).alloc (Nat.le_refl _) _
  have hzW1_0 : w.heap.size = B1 := by rw [hB1]
  have hlW1_0 : IvAt (B1) x W1_0 := by rw [← hzW1_0, hW1_0]; exact ⟨heap_lastM _ _⟩
  have D1 := Lib.hid (D0.out.trans (hb.mono D0.out.size))
  clear hb
  have x_1 := Lib.hid hlW1_0
  clear hlW1_0
  obtain ⟨W1_1, hW1_1⟩ : ∃ W, W = W1_0.alloc (Obj.cells #[Value.bool y.low.neg, Value.string y.low.num, Value.string y.low.den, Value.bool y.high.neg, Value.string y.high.num, Value.string y.high.den] 26) := ⟨_, rfl⟩
  have hb : Below W1_0.heap.size W1_0 W1_1 := by rw [hW1_1]; exact (Below.refl _ _).alloc (Nat.le_refl _) _
  have hzW1_1 : W1_0.heap.size = B1 + 1 := by rw [hW1_0]; simp [hzW1_0]
  have hlW1_1 : IvAt (B1 + 1) y W1_1 := by rw [← hzW1_1, hW1_1]; exact ⟨heap_lastM _ _⟩
  have D2 := Lib.hid (D1.out.trans (hb.mono D1.out.size))
  have x_2 := Lib.hid (x_1.out.bel hb)
  clear D1 x_1
  clear hb
  have y_2 := Lib.hid hlW1_1
  clear hlW1_1
  rw [← hW1_0]
  rw [← hW1_1]
  simp only [← hB1]
  have HW1_0 := Lib.hid hW1_0
  clear hW1_0 hzW1_0
  have HW1_1 := Lib.hid hW1_1
  clear hW1_1 hzW1_1
  have HB1 := Lib.hid hB1
  clear hB1
  refine (hc.out _).mono ?_
  rintro e v3 ⟨rfl, hb⟩
  have D3 := Lib.hid (D2.out.trans (hb.mono D2.out.size))
  have x_3 := Lib.hid (x_2.out.bel hb)
  have y_3 := Lib.hid (y_2.out.bel hb)
  clear D2 x_2 y_2
  clear hb
  go_wp2_with fail
  go_ret
  exact ⟨by first | rfl | simp, D3.out⟩
set_option maxHeartbeats 1000000 in
theorem phull2_any (x y : Iv) (w : World) : Calls Tryz.prog 31 #[.agg #[.bool x.low.neg, .string x.low.num, .string x.low.den, .bool x.high.neg, .string x.high.num, .string x.high.den], .agg #[.bool y.low.neg, .string y.low.num, .string y.low.den, .bool y.high.neg, .string y.high.num, .string y.high.den]] w (GivesB (moreH x y) w) := by
  have hc : Hid (∀ w, Calls Tryz.prog 25 #[.agg #[.bool y.high.neg, .string y.high.num, .string y.high.den], .agg #[.bool x.high.neg, .string x.high.num, .string x.high.den]] w (GivesB (moreH x y) w)) := Lib.hid (fun w => piless_any y.high x.high w)
  generalize moreH x y = c at *
  have D0 := Lib.hid (Below.refl w.heap.size w)
  go_enter Tryz.func31, Tryz.ntmps31
  go_wp2_with fail
  obtain ⟨B1, hB1⟩ : ∃ B, B = w.heap.size := ⟨_, rfl⟩
  obtain ⟨W1_0, hW1_0⟩ : ∃ W, W = w.alloc (Obj.cells #[Value.bool x.low.neg, Value.string x.low.num, Value.string x.low.den, Value.bool x.high.neg, Value.string x.high.num, Value.string x.high.den] 26) := ⟨_, rfl⟩
  have hb : Below w.heap.size w W1_0 := by rw [hW1_0]; exact (Below.refl _ _).alloc (Nat.le_refl _) _
  have hzW1_0 : w.heap.size = B1 := by rw [hB1]
  have hlW1_0 : IvAt (B1) x W1_0 := by rw [← hzW1_0, hW1_0]; exact ⟨heap_lastM _ _⟩
  have D1 := Lib.hid (D0.out.trans (hb.mono D0.out.size))
  clear hb
  have x_1 := Lib.hid hlW1_0
  clear hlW1_0
  obtain ⟨W1_1, hW1_1⟩ : ∃ W, W = W1_0.alloc (Obj.cells #[Value.bool y.low.neg, Value.string y.low.num, Value.string y.low.den, Value.bool y.high.neg, Value.string y.high.num, Value.string y.high.den] 26) := ⟨_, rfl⟩
  have hb : Below W1_0.heap.size W1_0 W1_1 := by rw [hW1_1]; exact (Below.refl _ _).alloc (Nat.le_refl _) _
  have hzW1_1 : W1_0.heap.size = B1 + 1 := by rw [hW1_0]; simp [hzW1_0]
  have hlW1_1 : IvAt (B1 + 1) y W1_1 := by rw [← hzW1_1, hW1_1]; exact ⟨heap_lastM _ _⟩
  have D2 := Lib.hid (D1.out.trans (hb.mono D1.out.size))
  have x_2 := Lib.hid (x_1.out.bel hb)
  clear D1 x_1
  clear hb
  have y_2 := Lib.hid hlW1_1
  clear hlW1_1
  rw [← hW1_0]
  rw [← hW1_1]
  simp only [← hB1]
  have HW1_0 := Lib.hid hW1_0
  clear hW1_0 hzW1_0
  have HW1_1 := Lib.hid hW1_1
  clear hW1_1 hzW1_1
  have HB1 := Lib.hid hB1
  clear hB1
  refine (hc.out _).mono ?_
  rintro e v3 ⟨rfl, hb⟩
  have D3 := Lib.hid (D2.out.trans (hb.mono D2.out.size))
  have x_3 := Lib.hid (x_2.out.bel hb)
  have y_3 := Lib.hid (y_2.out.bel hb)
  clear D2 x_2 y_2
  clear hb
  go_wp2_with fail
  go_ret
  exact ⟨by first | rfl | simp, D3.out⟩
set_option maxHeartbeats 1000000 in
theorem pmeet1_any (x y : Iv) (w : World) : Calls Tryz.prog 32 #[.agg #[.bool x.low.neg, .string x.low.num, .string x.low.den, .bool x.high.neg, .string x.high.num, .string x.high.den], .agg #[.bool y.low.neg, .string y.low.num, .string y.low.den, .bool y.high.neg, .string y.high.num, .string y.high.den]] w (GivesB (moreL x y) w) := by
  have hc : Hid (∀ w, Calls Tryz.prog 25 #[.agg #[.bool y.low.neg, .string y.low.num, .string y.low.den], .agg #[.bool x.low.neg, .string x.low.num, .string x.low.den]] w (GivesB (moreL x y) w)) := Lib.hid (fun w => piless_any y.low x.low w)
  generalize moreL x y = c at *
  have D0 := Lib.hid (Below.refl w.heap.size w)
  go_enter Tryz.func32, Tryz.ntmps32
  go_wp2_with fail
  obtain ⟨B1, hB1⟩ : ∃ B, B = w.heap.size := ⟨_, rfl⟩
  obtain ⟨W1_0, hW1_0⟩ : ∃ W, W = w.alloc (Obj.cells #[Value.bool x.low.neg, Value.string x.low.num, Value.string x.low.den, Value.bool x.high.neg, Value.string x.high.num, Value.string x.high.den] 26) := ⟨_, rfl⟩
  have hb : Below w.heap.size w W1_0 := by rw [hW1_0]; exact (Below.refl _ _).alloc (Nat.le_refl _) _
  have hzW1_0 : w.heap.size = B1 := by rw [hB1]
  have hlW1_0 : IvAt (B1) x W1_0 := by rw [← hzW1_0, hW1_0]; exact ⟨heap_lastM _ _⟩
  have D1 := Lib.hid (D0.out.trans (hb.mono D0.out.size))
  clear hb
  have x_1 := Lib.hid hlW1_0
  clear hlW1_0
  obtain ⟨W1_1, hW1_1⟩ : ∃ W, W = W1_0.alloc (Obj.cells #[Value.bool y.low.neg, Value.string y.low.num, Value.string y.low.den, Value.bool y.high.neg, Value.string y.high.num, Value.string y.high.den] 26) := ⟨_, rfl⟩
  have hb : Below W1_0.heap.size W1_0 W1_1 := by rw [hW1_1]; exact (Below.refl _ _).alloc (Nat.le_refl _) _
  have hzW1_1 : W1_0.heap.size = B1 + 1 := by rw [hW1_0]; simp [hzW1_0]
  have hlW1_1 : IvAt (B1 + 1) y W1_1 := by rw [← hzW1_1, hW1_1]; exact ⟨heap_lastM _ _⟩
  have D2 := Lib.hid (D1.out.trans (hb.mono D1.out.size))
  have x_2 := Lib.hid (x_1.out.bel hb)
  clear D1 x_1
  clear hb
  have y_2 := Lib.hid hlW1_1
  clear hlW1_1
  rw [← hW1_0]
  rw [← hW1_1]
  simp only [← hB1]
  have HW1_0 := Lib.hid hW1_0
  clear hW1_0 hzW1_0
  have HW1_1 := Lib.hid hW1_1
  clear hW1_1 hzW1_1
  have HB1 := Lib.hid hB1
  clear hB1
  refine (hc.out _).mono ?_
  rintro e v3 ⟨rfl, hb⟩
  have D3 := Lib.hid (D2.out.trans (hb.mono D2.out.size))
  have x_3 := Lib.hid (x_2.out.bel hb)
  have y_3 := Lib.hid (y_2.out.bel hb)
  clear D2 x_2 y_2
  clear hb
  go_wp2_with fail
  go_ret
  exact ⟨by first | rfl | simp, D3.out⟩
set_option maxHeartbeats 1000000 in
theorem pmeet2_any (x y : Iv) (w : World) : Calls Tryz.prog 33 #[.agg #[.bool x.low.neg, .string x.low.num, .string x.low.den, .bool x.high.neg, .string x.high.num, .string x.high.den], .agg #[.bool y.low.neg, .string y.low.num, .string y.low.den, .bool y.high.neg, .string y.high.num, .string y.high.den]] w (GivesB (lessH x y) w) := by
  have hc : Hid (∀ w, Calls Tryz.prog 25 #[.agg #[.bool x.high.neg, .string x.high.num, .string x.high.den], .agg #[.bool y.high.neg, .string y.high.num, .string y.high.den]] w (GivesB (lessH x y) w)) := Lib.hid (fun w => piless_any x.high y.high w)
  generalize lessH x y = c at *
  have D0 := Lib.hid (Below.refl w.heap.size w)
  go_enter Tryz.func33, Tryz.ntmps33
  go_wp2_with fail
  obtain ⟨B1, hB1⟩ : ∃ B, B = w.heap.size := ⟨_, rfl⟩
  obtain ⟨W1_0, hW1_0⟩ : ∃ W, W = w.alloc (Obj.cells #[Value.bool x.low.neg, Value.string x.low.num, Value.string x.low.den, Value.bool x.high.neg, Value.string x.high.num, Value.string x.high.den] 26) := ⟨_, rfl⟩
  have hb : Below w.heap.size w W1_0 := by rw [hW1_0]; exact (Below.refl _ _).alloc (Nat.le_refl _) _
  have hzW1_0 : w.heap.size = B1 := by rw [hB1]
  have hlW1_0 : IvAt (B1) x W1_0 := by rw [← hzW1_0, hW1_0]; exact ⟨heap_lastM _ _⟩
  have D1 := Lib.hid (D0.out.trans (hb.mono D0.out.size))
  clear hb
  have x_1 := Lib.hid hlW1_0
  clear hlW1_0
  obtain ⟨W1_1, hW1_1⟩ : ∃ W, W = W1_0.alloc (Obj.cells #[Value.bool y.low.neg, Value.string y.low.num, Value.string y.low.den, Value.bool y.high.neg, Value.string y.high.num, Value.string y.high.den] 26) := ⟨_, rfl⟩
  have hb : Below W1_0.heap.size W1_0 W1_1 := by rw [hW1_1]; exact (Below.refl _ _).alloc (Nat.le_refl _) _
  have hzW1_1 : W1_0.heap.size = B1 + 1 := by rw [hW1_0]; simp [hzW1_0]
  have hlW1_1 : IvAt (B1 + 1) y W1_1 := by rw [← hzW1_1, hW1_1]; exact ⟨heap_lastM _ _⟩
  have D2 := Lib.hid (D1.out.trans (hb.mono D1.out.size))
  have x_2 := Lib.hid (x_1.out.bel hb)
  clear D1 x_1
  clear hb
  have y_2 := Lib.hid hlW1_1
  clear hlW1_1
  rw [← hW1_0]
  rw [← hW1_1]
  simp only [← hB1]
  have HW1_0 := Lib.hid hW1_0
  clear hW1_0 hzW1_0
  have HW1_1 := Lib.hid hW1_1
  clear hW1_1 hzW1_1
  have HB1 := Lib.hid hB1
  clear hB1
  refine (hc.out _).mono ?_
  rintro e v3 ⟨rfl, hb⟩
  have D3 := Lib.hid (D2.out.trans (hb.mono D2.out.size))
  have x_3 := Lib.hid (x_2.out.bel hb)
  have y_3 := Lib.hid (y_2.out.bel hb)
  clear D2 x_2 y_2
  clear hb
  go_wp2_with fail
  go_ret
  exact ⟨by first | rfl | simp, D3.out⟩
set_option maxHeartbeats 2000000 in
theorem pivalid_any (i : Iv) (w : World) : Calls Tryz.prog 14 #[.agg #[.bool i.low.neg, .string i.low.num, .string i.low.den, .bool i.high.neg, .string i.high.num, .string i.high.den]] w (GivesB (okI i) w) := by
  have hl : Hid (∀ w, Calls Tryz.prog 34 #[.agg #[.bool i.low.neg, .string i.low.num, .string i.low.den]] w (GivesB (okR i.low) w)) := Lib.hid (fun w => pratvalid_any i.low w)
  have hh : Hid (∀ w, Calls Tryz.prog 34 #[.agg #[.bool i.high.neg, .string i.high.num, .string i.high.den]] w (GivesB (okR i.high) w)) := Lib.hid (fun w => pratvalid_any i.high w)
  have hc : Hid (∀ w, Calls Tryz.prog 25 #[.agg #[.bool i.high.neg, .string i.high.num, .string i.high.den], .agg #[.bool i.low.neg, .string i.low.num, .string i.low.den]] w (GivesB (lessR i.high i.low) w)) := Lib.hid (fun w => piless_any i.high i.low w)
  rw [okI_less]
  generalize okR i.low = v1 at *
  generalize okR i.high = v2 at *
  generalize lessR i.high i.low = c at *
  have D0 := Lib.hid (Below.refl w.heap.size w)
  cases v1
  ·
    go_enter Tryz.func14, Tryz.ntmps14
    go_wp2_with fail
    obtain ⟨B1, hB1⟩ : ∃ B, B = w.heap.size := ⟨_, rfl⟩
    obtain ⟨W1_0, hW1_0⟩ : ∃ W, W = w.alloc (Obj.cells #[Value.bool i.low.neg, Value.string i.low.num, Value.string i.low.den, Value.bool i.high.neg, Value.string i.high.num, Value.string i.high.den] 26) := ⟨_, rfl⟩
    have hb : Below w.heap.size w W1_0 := by rw [hW1_0]; exact (Below.refl _ _).alloc (Nat.le_refl _) _
    have hzW1_0 : w.heap.size = B1 := by rw [hB1]
    have hlW1_0 : IvAt (B1) i W1_0 := by rw [← hzW1_0, hW1_0]; exact ⟨heap_lastM _ _⟩
    have D1 := Lib.hid (D0.out.trans (hb.mono D0.out.size))
    clear hb
    have i_1 := Lib.hid hlW1_0
    clear hlW1_0
    rw [← hW1_0]
    simp only [← hB1]
    have HW1_0 := Lib.hid hW1_0
    clear hW1_0 hzW1_0
    have HB1 := Lib.hid hB1
    clear hB1
    have ic0 := i_1.out.c0
    have ic1 := i_1.out.c1
    have ic2 := i_1.out.c2
    have ic3 := i_1.out.c3
    have ic4 := i_1.out.c4
    have ic5 := i_1.out.c5
    refine (hl.out _).mono ?_
    rintro e v2 ⟨rfl, hb⟩
    have D2 := Lib.hid (D1.out.trans (hb.mono D1.out.size))
    have i_2 := Lib.hid (i_1.out.bel hb)
    clear D1 i_1
    clear hb
    go_wp2_with fail
    go_ret
    exact ⟨by first | rfl | simp, D2.out⟩
  · cases v2
    ·
      go_enter Tryz.func14, Tryz.ntmps14
      go_wp2_with fail
      obtain ⟨B1, hB1⟩ : ∃ B, B = w.heap.size := ⟨_, rfl⟩
      obtain ⟨W1_0, hW1_0⟩ : ∃ W, W = w.alloc (Obj.cells #[Value.bool i.low.neg, Value.string i.low.num, Value.string i.low.den, Value.bool i.high.neg, Value.string i.high.num, Value.string i.high.den] 26) := ⟨_, rfl⟩
      have hb : Below w.heap.size w W1_0 := by rw [hW1_0]; exact (Below.refl _ _).alloc (Nat.le_refl _) _
      have hzW1_0 : w.heap.size = B1 := by rw [hB1]
      have hlW1_0 : IvAt (B1) i W1_0 := by rw [← hzW1_0, hW1_0]; exact ⟨heap_lastM _ _⟩
      have D1 := Lib.hid (D0.out.trans (hb.mono D0.out.size))
      clear hb
      have i_1 := Lib.hid hlW1_0
      clear hlW1_0
      rw [← hW1_0]
      simp only [← hB1]
      have HW1_0 := Lib.hid hW1_0
      clear hW1_0 hzW1_0
      have HB1 := Lib.hid hB1
      clear hB1
      have ic0 := i_1.out.c0
      have ic1 := i_1.out.c1
      have ic2 := i_1.out.c2
      have ic3 := i_1.out.c3
      have ic4 := i_1.out.c4
      have ic5 := i_1.out.c5
      refine (hl.out _).mono ?_
      rintro e v2 ⟨rfl, hb⟩
      have D2 := Lib.hid (D1.out.trans (hb.mono D1.out.size))
      have i_2 := Lib.hid (i_1.out.bel hb)
      clear D1 i_1
      clear hb
      have ic0 := i_2.out.c0
      have ic1 := i_2.out.c1
      have ic2 := i_2.out.c2
      have ic3 := i_2.out.c3
      have ic4 := i_2.out.c4
      have ic5 := i_2.out.c5
      go_wp2_with fail
      clear ic0 ic1 ic2 ic3 ic4 ic5
      refine (hh.out _).mono ?_
      rintro e v3 ⟨rfl, hb⟩
      have D3 := Lib.hid (D2.out.trans (hb.mono D2.out.size))
      have i_3 := Lib.hid (i_2.out.bel hb)
      clear D2 i_2
      clear hb
      go_wp2_with fail
      go_ret
      exact ⟨by first | rfl | simp, D3.out⟩
    ·
      go_enter Tryz.func14, Tryz.ntmps14
      go_wp2_with fail
      obtain ⟨B1, hB1⟩ : ∃ B, B = w.heap.size := ⟨_, rfl⟩
      obtain ⟨W1_0, hW1_0⟩ : ∃ W, W = w.alloc (Obj.cells #[Value.bool i.low.neg, Value.string i.low.num, Value.string i.low.den, Value.bool i.high.neg, Value.string i.high.num, Value.string i.high.den] 26) := ⟨_, rfl⟩
      have hb : Below w.heap.size w W1_0 := by rw [hW1_0]; exact (Below.refl _ _).alloc (Nat.le_refl _) _
      have hzW1_0 : w.heap.size = B1 := by rw [hB1]
      have hlW1_0 : IvAt (B1) i W1_0 := by rw [← hzW1_0, hW1_0]; exact ⟨heap_lastM _ _⟩
      have D1 := Lib.hid (D0.out.trans (hb.mono D0.out.size))
      clear hb
      have i_1 := Lib.hid hlW1_0
      clear hlW1_0
      rw [← hW1_0]
      simp only [← hB1]
      have HW1_0 := Lib.hid hW1_0
      clear hW1_0 hzW1_0
      have HB1 := Lib.hid hB1
      clear hB1
      have ic0 := i_1.out.c0
      have ic1 := i_1.out.c1
      have ic2 := i_1.out.c2
      have ic3 := i_1.out.c3
      have ic4 := i_1.out.c4
      have ic5 := i_1.out.c5
      refine (hl.out _).mono ?_
      rintro e v2 ⟨rfl, hb⟩
      have D2 := Lib.hid (D1.out.trans (hb.mono D1.out.size))
      have i_2 := Lib.hid (i_1.out.bel hb)
      clear D1 i_1
      clear hb
      have ic0 := i_2.out.c0
      have ic1 := i_2.out.c1
      have ic2 := i_2.out.c2
      have ic3 := i_2.out.c3
      have ic4 := i_2.out.c4
      have ic5 := i_2.out.c5
      go_wp2_with fail
      clear ic0 ic1 ic2 ic3 ic4 ic5
      refine (hh.out _).mono ?_
      rintro e v3 ⟨rfl, hb⟩
      have D3 := Lib.hid (D2.out.trans (hb.mono D2.out.size))
      have i_3 := Lib.hid (i_2.out.bel hb)
      clear D2 i_2
      clear hb
      have ic0 := i_3.out.c0
      have ic1 := i_3.out.c1
      have ic2 := i_3.out.c2
      have ic3 := i_3.out.c3
      have ic4 := i_3.out.c4
      have ic5 := i_3.out.c5
      go_wp2_with fail
      clear ic0 ic1 ic2 ic3 ic4 ic5
      refine (hc.out _).mono ?_
      rintro e v4 ⟨rfl, hb⟩
      have D4 := Lib.hid (D3.out.trans (hb.mono D3.out.size))
      have i_4 := Lib.hid (i_3.out.bel hb)
      clear D3 i_3
      clear hb
      go_wp2_with fail
      go_ret
      exact ⟨by first | rfl | simp, D4.out⟩
set_option maxHeartbeats 2000000 in
theorem picon_any (i : Iv) (r : Raw) (w : World) : Calls Tryz.prog 16 #[.agg #[.bool i.low.neg, .string i.low.num, .string i.low.den, .bool i.high.neg, .string i.high.num, .string i.high.den], .agg #[.bool r.neg, .string r.num, .string r.den]] w (GivesB (hasI i r) w) := by
  have hi : Hid (∀ w, Calls Tryz.prog 14 #[.agg #[.bool i.low.neg, .string i.low.num, .string i.low.den, .bool i.high.neg, .string i.high.num, .string i.high.den]] w (GivesB (okI i) w)) := Lib.hid (fun w => pivalid_any i w)
  have hr : Hid (∀ w, Calls Tryz.prog 34 #[.agg #[.bool r.neg, .string r.num, .string r.den]] w (GivesB (okR r) w)) := Lib.hid (fun w => pratvalid_any r w)
  have hc1 : Hid (∀ w, Calls Tryz.prog 25 #[.agg #[.bool r.neg, .string r.num, .string r.den], .agg #[.bool i.low.neg, .string i.low.num, .string i.low.den]] w (GivesB (lessR r i.low) w)) := Lib.hid (fun w => piless_any r i.low w)
  have hc2 : Hid (∀ w, Calls Tryz.prog 25 #[.agg #[.bool i.high.neg, .string i.high.num, .string i.high.den], .agg #[.bool r.neg, .string r.num, .string r.den]] w (GivesB (lessR i.high r) w)) := Lib.hid (fun w => piless_any i.high r w)
  rw [hasI_less]
  generalize okI i = v1 at *
  generalize okR r = v2 at *
  generalize lessR r i.low = c1 at *
  generalize lessR i.high r = c2 at *
  have D0 := Lib.hid (Below.refl w.heap.size w)
  cases v1
  ·
    go_enter Tryz.func16, Tryz.ntmps16
    go_wp2_with fail
    obtain ⟨B1, hB1⟩ : ∃ B, B = w.heap.size := ⟨_, rfl⟩
    obtain ⟨W1_0, hW1_0⟩ : ∃ W, W = w.alloc (Obj.cells #[Value.bool i.low.neg, Value.string i.low.num, Value.string i.low.den, Value.bool i.high.neg, Value.string i.high.num, Value.string i.high.den] 26) := ⟨_, rfl⟩
    have hb : Below w.heap.size w W1_0 := by rw [hW1_0]; exact (Below.refl _ _).alloc (Nat.le_refl _) _
    have hzW1_0 : w.heap.size = B1 := by rw [hB1]
    have hlW1_0 : IvAt (B1) i W1_0 := by rw [← hzW1_0, hW1_0]; exact ⟨heap_lastM _ _⟩
    have D1 := Lib.hid (D0.out.trans (hb.mono D0.out.size))
    clear hb
    have i_1 := Lib.hid hlW1_0
    clear hlW1_0
    obtain ⟨W1_1, hW1_1⟩ : ∃ W, W = W1_0.alloc (Obj.cells #[Value.bool r.neg, Value.string r.num, Value.string r.den] 24) := ⟨_, rfl⟩
    have hb : Below W1_0.heap.size W1_0 W1_1 := by rw [hW1_1]; exact (Below.refl _ _).alloc (Nat.le_refl _) _
    have hzW1_1 : W1_0.heap.size = B1 + 1 := by rw [hW1_0]; simp [hzW1_0]
    have hlW1_1 : RatAt (B1 + 1) r W1_1 := by rw [← hzW1_1, hW1_1]; exact ⟨heap_lastM _ _⟩
    have D2 := Lib.hid (D1.out.trans (hb.mono D1.out.size))
    have i_2 := Lib.hid (i_1.out.bel hb)
    clear D1 i_1
    clear hb
    have r_2 := Lib.hid hlW1_1
    clear hlW1_1
    rw [← hW1_0]
    rw [← hW1_1]
    simp only [← hB1]
    have HW1_0 := Lib.hid hW1_0
    clear hW1_0 hzW1_0
    have HW1_1 := Lib.hid hW1_1
    clear hW1_1 hzW1_1
    have HB1 := Lib.hid hB1
    clear hB1
    refine (hi.out _).mono ?_
    rintro e v3 ⟨rfl, hb⟩
    have D3 := Lib.hid (D2.out.trans (hb.mono D2.out.size))
    have i_3 := Lib.hid (i_2.out.bel hb)
    have r_3 := Lib.hid (r_2.out.bel hb)
    clear D2 i_2 r_2
    clear hb
    go_wp2_with fail
    go_ret
    exact ⟨by first | rfl | simp, D3.out⟩
  · cases v2
    ·
      go_enter Tryz.func16, Tryz.ntmps16
      go_wp2_with fail
      obtain ⟨B1, hB1⟩ : ∃ B, B = w.heap.size := ⟨_, rfl⟩
      obtain ⟨W1_0, hW1_0⟩ : ∃ W, W = w.alloc (Obj.cells #[Value.bool i.low.neg, Value.string i.low.num, Value.string i.low.den, Value.bool i.high.neg, Value.string i.high.num, Value.string i.high.den] 26) := ⟨_, rfl⟩
      have hb : Below w.heap.size w W1_0 := by rw [hW1_0]; exact (Below.refl _ _).alloc (Nat.le_refl _) _
      have hzW1_0 : w.heap.size = B1 := by rw [hB1]
      have hlW1_0 : IvAt (B1) i W1_0 := by rw [← hzW1_0, hW1_0]; exact ⟨heap_lastM _ _⟩
      have D1 := Lib.hid (D0.out.trans (hb.mono D0.out.size))
      clear hb
      have i_1 := Lib.hid hlW1_0
      clear hlW1_0
      obtain ⟨W1_1, hW1_1⟩ : ∃ W, W = W1_0.alloc (Obj.cells #[Value.bool r.neg, Value.string r.num, Value.string r.den] 24) := ⟨_, rfl⟩
      have hb : Below W1_0.heap.size W1_0 W1_1 := by rw [hW1_1]; exact (Below.refl _ _).alloc (Nat.le_refl _) _
      have hzW1_1 : W1_0.heap.size = B1 + 1 := by rw [hW1_0]; simp [hzW1_0]
      have hlW1_1 : RatAt (B1 + 1) r W1_1 := by rw [← hzW1_1, hW1_1]; exact ⟨heap_lastM _ _⟩
      have D2 := Lib.hid (D1.out.trans (hb.mono D1.out.size))
      have i_2 := Lib.hid (i_1.out.bel hb)
      clear D1 i_1
      clear hb
      have r_2 := Lib.hid hlW1_1
      clear hlW1_1
      rw [← hW1_0]
      rw [← hW1_1]
      simp only [← hB1]
      have HW1_0 := Lib.hid hW1_0
      clear hW1_0 hzW1_0
      have HW1_1 := Lib.hid hW1_1
      clear hW1_1 hzW1_1
      have HB1 := Lib.hid hB1
      clear hB1
      refine (hi.out _).mono ?_
      rintro e v3 ⟨rfl, hb⟩
      have D3 := Lib.hid (D2.out.trans (hb.mono D2.out.size))
      have i_3 := Lib.hid (i_2.out.bel hb)
      have r_3 := Lib.hid (r_2.out.bel hb)
      clear D2 i_2 r_2
      clear hb
      have ic0 := i_3.out.c0
      have ic1 := i_3.out.c1
      have ic2 := i_3.out.c2
      have ic3 := i_3.out.c3
      have ic4 := i_3.out.c4
      have ic5 := i_3.out.c5
      have rc0 := r_3.out.c0
      have rc1 := r_3.out.c1
      have rc2 := r_3.out.c2
      go_wp2_with fail
      clear ic0 ic1 ic2 ic3 ic4 ic5 rc0 rc1 rc2
      refine (hr.out _).mono ?_
      rintro e v4 ⟨rfl, hb⟩
      have D4 := Lib.hid (D3.out.trans (hb.mono D3.out.size))
      have i_4 := Lib.hid (i_3.out.bel hb)
      have r_4 := Lib.hid (r_3.out.bel hb)
      clear D3 i_3 r_3
      clear hb
      go_wp2_with fail
      go_ret
      exact ⟨by first | rfl | simp, D4.out⟩
    · cases c1
      ·
        go_enter Tryz.func16, Tryz.ntmps16
        go_wp2_with fail
        obtain ⟨B1, hB1⟩ : ∃ B, B = w.heap.size := ⟨_, rfl⟩
        obtain ⟨W1_0, hW1_0⟩ : ∃ W, W = w.alloc (Obj.cells #[Value.bool i.low.neg, Value.string i.low.num, Value.string i.low.den, Value.bool i.high.neg, Value.string i.high.num, Value.string i.high.den] 26) := ⟨_, rfl⟩
        have hb : Below w.heap.size w W1_0 := by rw [hW1_0]; exact (Below.refl _ _).alloc (Nat.le_refl _) _
        have hzW1_0 : w.heap.size = B1 := by rw [hB1]
        have hlW1_0 : IvAt (B1) i W1_0 := by rw [← hzW1_0, hW1_0]; exact ⟨heap_lastM _ _⟩
        have D1 := Lib.hid (D0.out.trans (hb.mono D0.out.size))
        clear hb
        have i_1 := Lib.hid hlW1_0
        clear hlW1_0
        obtain ⟨W1_1, hW1_1⟩ : ∃ W, W = W1_0.alloc (Obj.cells #[Value.bool r.neg, Value.string r.num, Value.string r.den] 24) := ⟨_, rfl⟩
        have hb : Below W1_0.heap.size W1_0 W1_1 := by rw [hW1_1]; exact (Below.refl _ _).alloc (Nat.le_refl _) _
        have hzW1_1 : W1_0.heap.size = B1 + 1 := by rw [hW1_0]; simp [hzW1_0]
        have hlW1_1 : RatAt (B1 + 1) r W1_1 := by rw [← hzW1_1, hW1_1]; exact ⟨heap_lastM _ _⟩
        have D2 := Lib.hid (D1.out.trans (hb.mono D1.out.size))
        have i_2 := Lib.hid (i_1.out.bel hb)
        clear D1 i_1
        clear hb
        have r_2 := Lib.hid hlW1_1
        clear hlW1_1
        rw [← hW1_0]
        rw [← hW1_1]
        simp only [← hB1]
        have HW1_0 := Lib.hid hW1_0
        clear hW1_0 hzW1_0
        have HW1_1 := Lib.hid hW1_1
        clear hW1_1 hzW1_1
        have HB1 := Lib.hid hB1
        clear hB1
        refine (hi.out _).mono ?_
        rintro e v3 ⟨rfl, hb⟩
        have D3 := Lib.hid (D2.out.trans (hb.mono D2.out.size))
        have i_3 := Lib.hid (i_2.out.bel hb)
        have r_3 := Lib.hid (r_2.out.bel hb)
        clear D2 i_2 r_2
        clear hb
        have ic0 := i_3.out.c0
        have ic1 := i_3.out.c1
        have ic2 := i_3.out.c2
        have ic3 := i_3.out.c3
        have ic4 := i_3.out.c4
        have ic5 := i_3.out.c5
        have rc0 := r_3.out.c0
        have rc1 := r_3.out.c1
        have rc2 := r_3.out.c2
        go_wp2_with fail
        clear ic0 ic1 ic2 ic3 ic4 ic5 rc0 rc1 rc2
        refine (hr.out _).mono ?_
        rintro e v4 ⟨rfl, hb⟩
        have D4 := Lib.hid (D3.out.trans (hb.mono D3.out.size))
        have i_4 := Lib.hid (i_3.out.bel hb)
        have r_4 := Lib.hid (r_3.out.bel hb)
        clear D3 i_3 r_3
        clear hb
        have ic0 := i_4.out.c0
        have ic1 := i_4.out.c1
        have ic2 := i_4.out.c2
        have ic3 := i_4.out.c3
        have ic4 := i_4.out.c4
        have ic5 := i_4.out.c5
        have rc0 := r_4.out.c0
        have rc1 := r_4.out.c1
        have rc2 := r_4.out.c2
        go_wp2_with fail
        clear ic0 ic1 ic2 ic3 ic4 ic5 rc0 rc1 rc2
        refine (hc1.out _).mono ?_
        rintro e v5 ⟨rfl, hb⟩
        have D5 := Lib.hid (D4.out.trans (hb.mono D4.out.size))
        have i_5 := Lib.hid (i_4.out.bel hb)
        have r_5 := Lib.hid (r_4.out.bel hb)
        clear D4 i_4 r_4
        clear hb
        have ic0 := i_5.out.c0
        have ic1 := i_5.out.c1
        have ic2 := i_5.out.c2
        have ic3 := i_5.out.c3
        have ic4 := i_5.out.c4
        have ic5 := i_5.out.c5
        have rc0 := r_5.out.c0
        have rc1 := r_5.out.c1
        have rc2 := r_5.out.c2
        go_wp2_with fail
        clear ic0 ic1 ic2 ic3 ic4 ic5 rc0 rc1 rc2
        refine (hc2.out _).mono ?_
        rintro e v6 ⟨rfl, hb⟩
        have D6 := Lib.hid (D5.out.trans (hb.mono D5.out.size))
        have i_6 := Lib.hid (i_5.out.bel hb)
        have r_6 := Lib.hid (r_5.out.bel hb)
        clear D5 i_5 r_5
        clear hb
        go_wp2_with fail
        go_ret
        exact ⟨by first | rfl | simp, D6.out⟩
      ·
        go_enter Tryz.func16, Tryz.ntmps16
        go_wp2_with fail
        obtain ⟨B1, hB1⟩ : ∃ B, B = w.heap.size := ⟨_, rfl⟩
        obtain ⟨W1_0, hW1_0⟩ : ∃ W, W = w.alloc (Obj.cells #[Value.bool i.low.neg, Value.string i.low.num, Value.string i.low.den, Value.bool i.high.neg, Value.string i.high.num, Value.string i.high.den] 26) := ⟨_, rfl⟩
        have hb : Below w.heap.size w W1_0 := by rw [hW1_0]; exact (Below.refl _ _).alloc (Nat.le_refl _) _
        have hzW1_0 : w.heap.size = B1 := by rw [hB1]
        have hlW1_0 : IvAt (B1) i W1_0 := by rw [← hzW1_0, hW1_0]; exact ⟨heap_lastM _ _⟩
        have D1 := Lib.hid (D0.out.trans (hb.mono D0.out.size))
        clear hb
        have i_1 := Lib.hid hlW1_0
        clear hlW1_0
        obtain ⟨W1_1, hW1_1⟩ : ∃ W, W = W1_0.alloc (Obj.cells #[Value.bool r.neg, Value.string r.num, Value.string r.den] 24) := ⟨_, rfl⟩
        have hb : Below W1_0.heap.size W1_0 W1_1 := by rw [hW1_1]; exact (Below.refl _ _).alloc (Nat.le_refl _) _
        have hzW1_1 : W1_0.heap.size = B1 + 1 := by rw [hW1_0]; simp [hzW1_0]
        have hlW1_1 : RatAt (B1 + 1) r W1_1 := by rw [← hzW1_1, hW1_1]; exact ⟨heap_lastM _ _⟩
        have D2 := Lib.hid (D1.out.trans (hb.mono D1.out.size))
        have i_2 := Lib.hid (i_1.out.bel hb)
        clear D1 i_1
        clear hb
        have r_2 := Lib.hid hlW1_1
        clear hlW1_1
        rw [← hW1_0]
        rw [← hW1_1]
        simp only [← hB1]
        have HW1_0 := Lib.hid hW1_0
        clear hW1_0 hzW1_0
        have HW1_1 := Lib.hid hW1_1
        clear hW1_1 hzW1_1
        have HB1 := Lib.hid hB1
        clear hB1
        refine (hi.out _).mono ?_
        rintro e v3 ⟨rfl, hb⟩
        have D3 := Lib.hid (D2.out.trans (hb.mono D2.out.size))
        have i_3 := Lib.hid (i_2.out.bel hb)
        have r_3 := Lib.hid (r_2.out.bel hb)
        clear D2 i_2 r_2
        clear hb
        have ic0 := i_3.out.c0
        have ic1 := i_3.out.c1
        have ic2 := i_3.out.c2
        have ic3 := i_3.out.c3
        have ic4 := i_3.out.c4
        have ic5 := i_3.out.c5
        have rc0 := r_3.out.c0
        have rc1 := r_3.out.c1
        have rc2 := r_3.out.c2
        go_wp2_with fail
        clear ic0 ic1 ic2 ic3 ic4 ic5 rc0 rc1 rc2
        refine (hr.out _).mono ?_
        rintro e v4 ⟨rfl, hb⟩
        have D4 := Lib.hid (D3.out.trans (hb.mono D3.out.size))
        have i_4 := Lib.hid (i_3.out.bel hb)
        have r_4 := Lib.hid (r_3.out.bel hb)
        clear D3 i_3 r_3
        clear hb
        have ic0 := i_4.out.c0
        have ic1 := i_4.out.c1
        have ic2 := i_4.out.c2
        have ic3 := i_4.out.c3
        have ic4 := i_4.out.c4
        have ic5 := i_4.out.c5
        have rc0 := r_4.out.c0
        have rc1 := r_4.out.c1
        have rc2 := r_4.out.c2
        go_wp2_with fail
        clear ic0 ic1 ic2 ic3 ic4 ic5 rc0 rc1 rc2
        refine (hc1.out _).mono ?_
        rintro e v5 ⟨rfl, hb⟩
        have D5 := Lib.hid (D4.out.trans (hb.mono D4.out.size))
        have i_5 := Lib.hid (i_4.out.bel hb)
        have r_5 := Lib.hid (r_4.out.bel hb)
        clear D4 i_4 r_4
        clear hb
        go_wp2_with fail
        go_ret
        exact ⟨by first | rfl | simp, D5.out⟩
end Go.Proofs.YtbcoblpnihdhgaaGreatDoor

/-
  The program's interval package: Add.
-/
set_option linter.unusedVariables false
set_option maxRecDepth 100000
namespace Go.Proofs.YtbcoblpnihdhgaaGreatDoor
open Go.RowKit
open Rt
set_option maxHeartbeats 40000000 in
theorem piadd_any (a b : Iv) (w : World) : Calls Tryz.prog 6 #[.agg #[.bool a.low.neg, .string a.low.num, .string a.low.den, .bool a.high.neg, .string a.high.num, .string a.high.den], .agg #[.bool b.low.neg, .string b.low.num, .string b.low.den, .bool b.high.neg, .string b.high.num, .string b.high.den]] w (GivesI (addI a b) w) := by
  obtain ⟨t, ht⟩ : ∃ t, t = addI a b := ⟨_, rfl⟩
  rw [← ht]
  have D0 := Lib.hid (Below.refl w.heap.size w)
  by_cases ha : okI a = true
  case neg =>
    have ha := Bool.eq_false_iff.2 ha
    have hva : Hid (∀ w, Calls Tryz.prog 14 #[.agg #[.bool a.low.neg, .string a.low.num, .string a.low.den, .bool a.high.neg, .string a.high.num, .string a.high.den]] w (GivesB false w)) := Lib.hid (fun w => by have := pivalid_any a w; rwa [ha] at this)
    have HTT : Hid (t = (noI, 1)) := Lib.hid (by rw [ht]; unfold addI; rw [ha]; rfl)
    clear ht ha
    go_enter Tryz.func6, Tryz.ntmps6
    go_wp2_with fail
    obtain ⟨B1, hB1⟩ : ∃ B, B = w.heap.size := ⟨_, rfl⟩
    obtain ⟨W1_0, hW1_0⟩ : ∃ W, W = w.alloc (Obj.cells #[Value.bool a.low.neg, Value.string a.low.num, Value.string a.low.den, Value.bool a.high.neg, Value.string a.high.num, Value.string a.high.den] 26) := ⟨_, rfl⟩
    have hb : Below w.heap.size w W1_0 := by rw [hW1_0]; exact (Below.refl _ _).alloc (Nat.le_refl _) _
    have hzW1_0 : w.heap.size = B1 := by rw [hB1]
    have hlW1_0 : IvAt (B1) a W1_0 := by rw [← hzW1_0, hW1_0]; exact ⟨heap_lastM _ _⟩
    have D1 := Lib.hid (D0.out.trans (hb.mono D0.out.size))
    clear hb
    have a_1 := Lib.hid hlW1_0
    clear hlW1_0
    obtain ⟨W1_1, hW1_1⟩ : ∃ W, W = W1_0.alloc (Obj.cells #[Value.bool b.low.neg, Value.string b.low.num, Value.string b.low.den, Value.bool b.high.neg, Value.string b.high.num, Value.string b.high.den] 26) := ⟨_, rfl⟩
    have hb : Below W1_0.heap.size W1_0 W1_1 := by rw [hW1_1]; exact (Below.refl _ _).alloc (Nat.le_refl _) _
    have hzW1_1 : W1_0.heap.size = B1 + 1 := by rw [hW1_0]; simp [hzW1_0]
    have hlW1_1 : IvAt (B1 + 1) b W1_1 := by rw [← hzW1_1, hW1_1]; exact ⟨heap_lastM _ _⟩
    have D2 := Lib.hid (D1.out.trans (hb.mono D1.out.size))
    have a_2 := Lib.hid (a_1.out.bel hb)
    clear D1 a_1
    clear hb
    have b_2 := Lib.hid hlW1_1
    clear hlW1_1
    obtain ⟨W1_2, hW1_2⟩ : ∃ W, W = W1_1.alloc (Obj.cells #[Value.bool false, Value.string ⟨#[]⟩, Value.string ⟨#[]⟩, Value.bool false, Value.string ⟨#[]⟩, Value.string ⟨#[]⟩] 26) := ⟨_, rfl⟩
    have hb : Below W1_1.heap.size W1_1 W1_2 := by rw [hW1_2]; exact (Below.refl _ _).alloc (Nat.le_refl _) _
    have hzW1_2 : W1_1.heap.size = B1 + 1 + 1 := by rw [hW1_1]; simp [hzW1_1]
    have hlW1_2 : IvAt (B1 + 1 + 1) noI W1_2 := by rw [← hzW1_2, hW1_2]; exact ⟨heap_lastM _ _⟩
    have D3 := Lib.hid (D2.out.trans (hb.mono D2.out.size))
    have a_3 := Lib.hid (a_2.out.bel hb)
    have b_3 := Lib.hid (b_2.out.bel hb)
    clear D2 a_2 b_2
    clear hb
    have z_3 := Lib.hid hlW1_2
    clear hlW1_2
    rw [← hW1_0]
    rw [← hW1_1]
    rw [← hW1_2]
    simp only [← hB1]
    have HW1_0 := Lib.hid hW1_0
    clear hW1_0 hzW1_0
    have HW1_1 := Lib.hid hW1_1
    clear hW1_1 hzW1_1
    have HW1_2 := Lib.hid hW1_2
    clear hW1_2 hzW1_2
    have HB1 := Lib.hid hB1
    clear hB1
    have ac0 := a_3.out.c0
    have ac1 := a_3.out.c1
    have ac2 := a_3.out.c2
    have ac3 := a_3.out.c3
    have ac4 := a_3.out.c4
    have ac5 := a_3.out.c5
    have bc0 := b_3.out.c0
    have bc1 := b_3.out.c1
    have bc2 := b_3.out.c2
    have bc3 := b_3.out.c3
    have bc4 := b_3.out.c4
    have bc5 := b_3.out.c5
    go_wp2_with fail
    clear ac0 ac1 ac2 ac3 ac4 ac5 bc0 bc1 bc2 bc3 bc4 bc5
    refine (hva.out _).mono ?_
    rintro e v4 ⟨rfl, hb⟩
    have D4 := Lib.hid (D3.out.trans (hb.mono D3.out.size))
    have a_4 := Lib.hid (a_3.out.bel hb)
    have b_4 := Lib.hid (b_3.out.bel hb)
    have z_4 := Lib.hid (z_3.out.bel hb)
    clear D3 a_3 b_3 z_3
    clear hb
    have zc0 := z_4.out.c0
    have zf0 := z_4.out.fz 0
    have zc1 := z_4.out.c1
    have zf1 := z_4.out.fz 1
    have zc2 := z_4.out.c2
    have zf2 := z_4.out.fz 2
    have zc3 := z_4.out.c3
    have zf3 := z_4.out.fz 3
    have zc4 := z_4.out.c4
    have zf4 := z_4.out.fz 4
    have zc5 := z_4.out.c5
    have zf5 := z_4.out.fz 5
    go_wp2_with fail
    (try simp only [Exit.inBlock, Exit.then])
    refine bodyPost_ret (results_iv rfl _ _ (B1 + 1 + 1) noI _ rfl rfl (z_4.out.set noI)) rfl ?_; rw [HTT.out]; exact ⟨rfl, ((((((D4.out.setCell (p := ⟨B1 + 1 + 1, 0, none⟩) (by have := HB1.out; show w.heap.size ≤ B1 + 1 + 1; omega) _).setCell (p := ⟨B1 + 1 + 1, 1, none⟩) (by have := HB1.out; show w.heap.size ≤ B1 + 1 + 1; omega) _).setCell (p := ⟨B1 + 1 + 1, 2, none⟩) (by have := HB1.out; show w.heap.size ≤ B1 + 1 + 1; omega) _).setCell (p := ⟨B1 + 1 + 1, 3, none⟩) (by have := HB1.out; show w.heap.size ≤ B1 + 1 + 1; omega) _).setCell (p := ⟨B1 + 1 + 1, 4, none⟩) (by have := HB1.out; show w.heap.size ≤ B1 + 1 + 1; omega) _).setCell (p := ⟨B1 + 1 + 1, 5, none⟩) (by have := HB1.out; show w.heap.size ≤ B1 + 1 + 1; omega) _)⟩
  have hva : Hid (∀ w, Calls Tryz.prog 14 #[.agg #[.bool a.low.neg, .string a.low.num, .string a.low.den, .bool a.high.neg, .string a.high.num, .string a.high.den]] w (GivesB true w)) := Lib.hid (fun w => by have := pivalid_any a w; rwa [ha] at this)
  by_cases hb : okI b = true
  case neg =>
    have hb := Bool.eq_false_iff.2 hb
    have hvb : Hid (∀ w, Calls Tryz.prog 14 #[.agg #[.bool b.low.neg, .string b.low.num, .string b.low.den, .bool b.high.neg, .string b.high.num, .string b.high.den]] w (GivesB false w)) := Lib.hid (fun w => by have := pivalid_any b w; rwa [hb] at this)
    have HTT : Hid (t = (noI, 1)) := Lib.hid (by rw [ht]; unfold addI; rw [ha, hb]; rfl)
    clear ht ha hb
    go_enter Tryz.func6, Tryz.ntmps6
    go_wp2_with fail
    obtain ⟨B1, hB1⟩ : ∃ B, B = w.heap.size := ⟨_, rfl⟩
    obtain ⟨W1_0, hW1_0⟩ : ∃ W, W = w.alloc (Obj.cells #[Value.bool a.low.neg, Value.string a.low.num, Value.string a.low.den, Value.bool a.high.neg, Value.string a.high.num, Value.string a.high.den] 26) := ⟨_, rfl⟩
    have hb : Below w.heap.size w W1_0 := by rw [hW1_0]; exact (Below.refl _ _).alloc (Nat.le_refl _) _
    have hzW1_0 : w.heap.size = B1 := by rw [hB1]
    have hlW1_0 : IvAt (B1) a W1_0 := by rw [← hzW1_0, hW1_0]; exact ⟨heap_lastM _ _⟩
    have D1 := Lib.hid (D0.out.trans (hb.mono D0.out.size))
    clear hb
    have a_1 := Lib.hid hlW1_0
    clear hlW1_0
    obtain ⟨W1_1, hW1_1⟩ : ∃ W, W = W1_0.alloc (Obj.cells #[Value.bool b.low.neg, Value.string b.low.num, Value.string b.low.den, Value.bool b.high.neg, Value.string b.high.num, Value.string b.high.den] 26) := ⟨_, rfl⟩
    have hb : Below W1_0.heap.size W1_0 W1_1 := by rw [hW1_1]; exact (Below.refl _ _).alloc (Nat.le_refl _) _
    have hzW1_1 : W1_0.heap.size = B1 + 1 := by rw [hW1_0]; simp [hzW1_0]
    have hlW1_1 : IvAt (B1 + 1) b W1_1 := by rw [← hzW1_1, hW1_1]; exact ⟨heap_lastM _ _⟩
    have D2 := Lib.hid (D1.out.trans (hb.mono D1.out.size))
    have a_2 := Lib.hid (a_1.out.bel hb)
    clear D1 a_1
    clear hb
    have b_2 := Lib.hid hlW1_1
    clear hlW1_1
    obtain ⟨W1_2, hW1_2⟩ : ∃ W, W = W1_1.alloc (Obj.cells #[Value.bool false, Value.string ⟨#[]⟩, Value.string ⟨#[]⟩, Value.bool false, Value.string ⟨#[]⟩, Value.string ⟨#[]⟩] 26) := ⟨_, rfl⟩
    have hb : Below W1_1.heap.size W1_1 W1_2 := by rw [hW1_2]; exact (Below.refl _ _).alloc (Nat.le_refl _) _
    have hzW1_2 : W1_1.heap.size = B1 + 1 + 1 := by rw [hW1_1]; simp [hzW1_1]
    have hlW1_2 : IvAt (B1 + 1 + 1) noI W1_2 := by rw [← hzW1_2, hW1_2]; exact ⟨heap_lastM _ _⟩
    have D3 := Lib.hid (D2.out.trans (hb.mono D2.out.size))
    have a_3 := Lib.hid (a_2.out.bel hb)
    have b_3 := Lib.hid (b_2.out.bel hb)
    clear D2 a_2 b_2
    clear hb
    have z_3 := Lib.hid hlW1_2
    clear hlW1_2
    rw [← hW1_0]
    rw [← hW1_1]
    rw [← hW1_2]
    simp only [← hB1]
    have HW1_0 := Lib.hid hW1_0
    clear hW1_0 hzW1_0
    have HW1_1 := Lib.hid hW1_1
    clear hW1_1 hzW1_1
    have HW1_2 := Lib.hid hW1_2
    clear hW1_2 hzW1_2
    have HB1 := Lib.hid hB1
    clear hB1
    have ac0 := a_3.out.c0
    have ac1 := a_3.out.c1
    have ac2 := a_3.out.c2
    have ac3 := a_3.out.c3
    have ac4 := a_3.out.c4
    have ac5 := a_3.out.c5
    have bc0 := b_3.out.c0
    have bc1 := b_3.out.c1
    have bc2 := b_3.out.c2
    have bc3 := b_3.out.c3
    have bc4 := b_3.out.c4
    have bc5 := b_3.out.c5
    go_wp2_with fail
    clear ac0 ac1 ac2 ac3 ac4 ac5 bc0 bc1 bc2 bc3 bc4 bc5
    refine (hva.out _).mono ?_
    rintro e v4 ⟨rfl, hb⟩
    have D4 := Lib.hid (D3.out.trans (hb.mono D3.out.size))
    have a_4 := Lib.hid (a_3.out.bel hb)
    have b_4 := Lib.hid (b_3.out.bel hb)
    have z_4 := Lib.hid (z_3.out.bel hb)
    clear D3 a_3 b_3 z_3
    clear hb
    have ac0 := a_4.out.c0
    have ac1 := a_4.out.c1
    have ac2 := a_4.out.c2
    have ac3 := a_4.out.c3
    have ac4 := a_4.out.c4
    have ac5 := a_4.out.c5
    have bc0 := b_4.out.c0
    have bc1 := b_4.out.c1
    have bc2 := b_4.out.c2
    have bc3 := b_4.out.c3
    have bc4 := b_4.out.c4
    have bc5 := b_4.out.c5
    go_wp2_with fail
    clear ac0 ac1 ac2 ac3 ac4 ac5 bc0 bc1 bc2 bc3 bc4 bc5
    refine (hvb.out _).mono ?_
    rintro e v5 ⟨rfl, hb⟩
    have D5 := Lib.hid (D4.out.trans (hb.mono D4.out.size))
    have a_5 := Lib.hid (a_4.out.bel hb)
    have b_5 := Lib.hid (b_4.out.bel hb)
    have z_5 := Lib.hid (z_4.out.bel hb)
    clear D4 a_4 b_4 z_4
    clear hb
    have zc0 := z_5.out.c0
    have zf0 := z_5.out.fz 0
    have zc1 := z_5.out.c1
    have zf1 := z_5.out.fz 1
    have zc2 := z_5.out.c2
    have zf2 := z_5.out.fz 2
    have zc3 := z_5.out.c3
    have zf3 := z_5.out.fz 3
    have zc4 := z_5.out.c4
    have zf4 := z_5.out.fz 4
    have zc5 := z_5.out.c5
    have zf5 := z_5.out.fz 5
    go_wp2_with fail
    (try simp only [Exit.inBlock, Exit.then])
    refine bodyPost_ret (results_iv rfl _ _ (B1 + 1 + 1) noI _ rfl rfl (z_5.out.set noI)) rfl ?_; rw [HTT.out]; exact ⟨rfl, ((((((D5.out.setCell (p := ⟨B1 + 1 + 1, 0, none⟩) (by have := HB1.out; show w.heap.size ≤ B1 + 1 + 1; omega) _).setCell (p := ⟨B1 + 1 + 1, 1, none⟩) (by have := HB1.out; show w.heap.size ≤ B1 + 1 + 1; omega) _).setCell (p := ⟨B1 + 1 + 1, 2, none⟩) (by have := HB1.out; show w.heap.size ≤ B1 + 1 + 1; omega) _).setCell (p := ⟨B1 + 1 + 1, 3, none⟩) (by have := HB1.out; show w.heap.size ≤ B1 + 1 + 1; omega) _).setCell (p := ⟨B1 + 1 + 1, 4, none⟩) (by have := HB1.out; show w.heap.size ≤ B1 + 1 + 1; omega) _).setCell (p := ⟨B1 + 1 + 1, 5, none⟩) (by have := HB1.out; show w.heap.size ≤ B1 + 1 + 1; omega) _)⟩
  have hvb : Hid (∀ w, Calls Tryz.prog 14 #[.agg #[.bool b.low.neg, .string b.low.num, .string b.low.den, .bool b.high.neg, .string b.high.num, .string b.high.den]] w (GivesB true w)) := Lib.hid (fun w => by have := pivalid_any b w; rwa [hb] at this)
  obtain ⟨x, e, hx⟩ : ∃ x e, addE a.low b.low = (x, e) := ⟨_, _, rfl⟩
  obtain ⟨y, f, hy⟩ : ∃ y f, addE a.high b.high = (y, f) := ⟨_, _, rfl⟩
  have hka := addE_kind (okI_iff.1 ha).1 (okI_iff.1 hb).1
  have hkb := addE_kind (okI_iff.1 ha).2.1 (okI_iff.1 hb).2.1
  rw [hx] at hka
  rw [hy] at hkb
  have ht2 : t = if e = 0 ∧ f = 0 then (⟨x, y⟩, 0) else (noI, 2) := by rw [ht]; unfold addI; rw [ha, hb, hx, hy]; rfl
  have hadd1 : Hid (∀ w, Calls Tryz.prog 21 #[.agg #[.bool a.low.neg, .string a.low.num, .string a.low.den], .agg #[.bool b.low.neg, .string b.low.num, .string b.low.den]] w (GivesR (x, e) w)) := Lib.hid (fun w => by have := pratadd_any a.low b.low w; rwa [hx] at this)
  have hadd2 : Hid (∀ w, Calls Tryz.prog 21 #[.agg #[.bool a.high.neg, .string a.high.num, .string a.high.den], .agg #[.bool b.high.neg, .string b.high.num, .string b.high.den]] w (GivesR (y, f) w)) := Lib.hid (fun w => by have := pratadd_any a.high b.high w; rwa [hy] at this)
  clear ht ha hb hx hy
  simp only at hka hkb
  rcases hka with rfl | rfl
  · rcases hkb with rfl | rfl
    · have HTT : Hid (t = (⟨x, y⟩, 0)) := Lib.hid (by rw [ht2, if_pos ⟨rfl, rfl⟩])
      clear ht2
      go_enter Tryz.func6, Tryz.ntmps6
      go_wp2_with fail
      obtain ⟨B1, hB1⟩ : ∃ B, B = w.heap.size := ⟨_, rfl⟩
      obtain ⟨W1_0, hW1_0⟩ : ∃ W, W = w.alloc (Obj.cells #[Value.bool a.low.neg, Value.string a.low.num, Value.string a.low.den, Value.bool a.high.neg, Value.string a.high.num, Value.string a.high.den] 26) := ⟨_, rfl⟩
      have hb : Below w.heap.size w W1_0 := by rw [hW1_0]; exact (Below.refl _ _).alloc (Nat.le_refl _) _
      have hzW1_0 : w.heap.size = B1 := by rw [hB1]
      have hlW1_0 : IvAt (B1) a W1_0 := by rw [← hzW1_0, hW1_0]; exact ⟨heap_lastM _ _⟩
      have D1 := Lib.hid (D0.out.trans (hb.mono D0.out.size))
      clear hb
      have a_1 := Lib.hid hlW1_0
      clear hlW1_0
      obtain ⟨W1_1, hW1_1⟩ : ∃ W, W = W1_0.alloc (Obj.cells #[Value.bool b.low.neg, Value.string b.low.num, Value.string b.low.den, Value.bool b.high.neg, Value.string b.high.num, Value.string b.high.den] 26) := ⟨_, rfl⟩
      have hb : Below W1_0.heap.size W1_0 W1_1 := by rw [hW1_1]; exact (Below.refl _ _).alloc (Nat.le_refl _) _
      have hzW1_1 : W1_0.heap.size = B1 + 1 := by rw [hW1_0]; simp [hzW1_0]
      have hlW1_1 : IvAt (B1 + 1) b W1_1 := by rw [← hzW1_1, hW1_1]; exact ⟨heap_lastM _ _⟩
      have D2 := Lib.hid (D1.out.trans (hb.mono D1.out.size))
      have a_2 := Lib.hid (a_1.out.bel hb)
      clear D1 a_1
      clear hb
      have b_2 := Lib.hid hlW1_1
      clear hlW1_1
      obtain ⟨W1_2, hW1_2⟩ : ∃ W, W = W1_1.alloc (Obj.cells #[Value.bool false, Value.string ⟨#[]⟩, Value.string ⟨#[]⟩, Value.bool false, Value.string ⟨#[]⟩, Value.string ⟨#[]⟩] 26) := ⟨_, rfl⟩
      have hb : Below W1_1.heap.size W1_1 W1_2 := by rw [hW1_2]; exact (Below.refl _ _).alloc (Nat.le_refl _) _
      have hzW1_2 : W1_1.heap.size = B1 + 1 + 1 := by rw [hW1_1]; simp [hzW1_1]
      have hlW1_2 : IvAt (B1 + 1 + 1) noI W1_2 := by rw [← hzW1_2, hW1_2]; exact ⟨heap_lastM _ _⟩
      have D3 := Lib.hid (D2.out.trans (hb.mono D2.out.size))
      have a_3 := Lib.hid (a_2.out.bel hb)
      have b_3 := Lib.hid (b_2.out.bel hb)
      clear D2 a_2 b_2
      clear hb
      have z_3 := Lib.hid hlW1_2
      clear hlW1_2
      rw [← hW1_0]
      rw [← hW1_1]
      rw [← hW1_2]
      simp only [← hB1]
      have HW1_0 := Lib.hid hW1_0
      clear hW1_0 hzW1_0
      have HW1_1 := Lib.hid hW1_1
      clear hW1_1 hzW1_1
      have HW1_2 := Lib.hid hW1_2
      clear hW1_2 hzW1_2
      have HB1 := Lib.hid hB1
      clear hB1
      have ac0 := a_3.out.c0
      have ac1 := a_3.out.c1
      have ac2 := a_3.out.c2
      have ac3 := a_3.out.c3
      have ac4 := a_3.out.c4
      have ac5 := a_3.out.c5
      have bc0 := b_3.out.c0
      have bc1 := b_3.out.c1
      have bc2 := b_3.out.c2
      have bc3 := b_3.out.c3
      have bc4 := b_3.out.c4
      have bc5 := b_3.out.c5
      go_wp2_with fail
      clear ac0 ac1 ac2 ac3 ac4 ac5 bc0 bc1 bc2 bc3 bc4 bc5
      refine (hva.out _).mono ?_
      rintro e v4 ⟨rfl, hb⟩
      have D4 := Lib.hid (D3.out.trans (hb.mono D3.out.size))
      have a_4 := Lib.hid (a_3.out.bel hb)
      have b_4 := Lib.hid (b_3.out.bel hb)
      have z_4 := Lib.hid (z_3.out.bel hb)
      clear D3 a_3 b_3 z_3
      clear hb
      have ac0 := a_4.out.c0
      have ac1 := a_4.out.c1
      have ac2 := a_4.out.c2
      have ac3 := a_4.out.c3
      have ac4 := a_4.out.c4
      have ac5 := a_4.out.c5
      have bc0 := b_4.out.c0
      have bc1 := b_4.out.c1
      have bc2 := b_4.out.c2
      have bc3 := b_4.out.c3
      have bc4 := b_4.out.c4
      have bc5 := b_4.out.c5
      go_wp2_with fail
      clear ac0 ac1 ac2 ac3 ac4 ac5 bc0 bc1 bc2 bc3 bc4 bc5
      refine (hvb.out _).mono ?_
      rintro e v5 ⟨rfl, hb⟩
      have D5 := Lib.hid (D4.out.trans (hb.mono D4.out.size))
      have a_5 := Lib.hid (a_4.out.bel hb)
      have b_5 := Lib.hid (b_4.out.bel hb)
      have z_5 := Lib.hid (z_4.out.bel hb)
      clear D4 a_4 b_4 z_4
      clear hb
      have ac0 := a_5.out.c0
      have ac1 := a_5.out.c1
      have ac2 := a_5.out.c2
      have ac3 := a_5.out.c3
      have ac4 := a_5.out.c4
      have ac5 := a_5.out.c5
      have az := blk_lt a_5.out.cells
      have bc0 := b_5.out.c0
      have bc1 := b_5.out.c1
      have bc2 := b_5.out.c2
      have bc3 := b_5.out.c3
      have bc4 := b_5.out.c4
      have bc5 := b_5.out.c5
      have bz := blk_lt b_5.out.cells
      go_wp2_with fail
      clear ac0 ac1 ac2 ac3 ac4 ac5 az bc0 bc1 bc2 bc3 bc4 bc5 bz
      refine (hadd1.out _).mono ?_
      rintro e v6 ⟨rfl, hb⟩
      have D6 := Lib.hid (D5.out.trans (hb.mono D5.out.size))
      have a_6 := Lib.hid (a_5.out.bel hb)
      have b_6 := Lib.hid (b_5.out.bel hb)
      have z_6 := Lib.hid (z_5.out.bel hb)
      clear D5 a_5 b_5 z_5
      clear hb
      have ac0 := a_6.out.c0
      have ac1 := a_6.out.c1
      have ac2 := a_6.out.c2
      have ac3 := a_6.out.c3
      have ac4 := a_6.out.c4
      have ac5 := a_6.out.c5
      have az := blk_lt a_6.out.cells
      have bc0 := b_6.out.c0
      have bc1 := b_6.out.c1
      have bc2 := b_6.out.c2
      have bc3 := b_6.out.c3
      have bc4 := b_6.out.c4
      have bc5 := b_6.out.c5
      have bz := blk_lt b_6.out.cells
      go_wp2_with fail
      clear ac0 ac1 ac2 ac3 ac4 ac5 az bc0 bc1 bc2 bc3 bc4 bc5 bz
      obtain ⟨B2, hB2⟩ : ∃ B, B = v6.heap.size := ⟨_, rfl⟩
      obtain ⟨W2_0, hW2_0⟩ : ∃ W, W = v6.alloc (Obj.cells #[Value.bool x.neg, Value.string x.num, Value.string x.den] 24) := ⟨_, rfl⟩
      have hb : Below v6.heap.size v6 W2_0 := by rw [hW2_0]; exact (Below.refl _ _).alloc (Nat.le_refl _) _
      have hzW2_0 : v6.heap.size = B2 := by rw [hB2]
      have hlW2_0 : RatAt (B2) x W2_0 := by rw [← hzW2_0, hW2_0]; exact ⟨heap_lastM _ _⟩
      have D7 := Lib.hid (D6.out.trans (hb.mono D6.out.size))
      have a_7 := Lib.hid (a_6.out.bel hb)
      have b_7 := Lib.hid (b_6.out.bel hb)
      have z_7 := Lib.hid (z_6.out.bel hb)
      clear D6 a_6 b_6 z_6
      clear hb
      have x_7 := Lib.hid hlW2_0
      clear hlW2_0
      rw [← hW2_0]
      simp only [← hB2]
      have HW2_0 := Lib.hid hW2_0
      clear hW2_0 hzW2_0
      have HB2 := Lib.hid hB2
      clear hB2
      refine (hadd2.out _).mono ?_
      rintro e v8 ⟨rfl, hb⟩
      have D8 := Lib.hid (D7.out.trans (hb.mono D7.out.size))
      have a_8 := Lib.hid (a_7.out.bel hb)
      have b_8 := Lib.hid (b_7.out.bel hb)
      have z_8 := Lib.hid (z_7.out.bel hb)
      have x_8 := Lib.hid (x_7.out.bel hb)
      clear D7 a_7 b_7 z_7 x_7
      clear hb
      have xc0 := x_8.out.c0
      have xc1 := x_8.out.c1
      have xc2 := x_8.out.c2
      have xz := blk_lt x_8.out.cells
      have zl := blk_lt z_8.out.cells
      have zc0 := z_8.out.c0
      have zf0 := z_8.out.fz 0
      have zc1 := z_8.out.c1
      have zf1 := z_8.out.fz 1
      have zc2 := z_8.out.c2
      have zf2 := z_8.out.fz 2
      have zc3 := z_8.out.c3
      have zf3 := z_8.out.fz 3
      have zc4 := z_8.out.c4
      have zf4 := z_8.out.fz 4
      have zc5 := z_8.out.c5
      have zf5 := z_8.out.fz 5
      have hnz : B1 + 1 + 1 ≠ v8.heap.size := by omega
      go_wp2_with fail
      (try simp only [Exit.inBlock, Exit.then])
      refine bodyPost_ret (results_iv rfl _ _ (B1 + 1 + 1) ⟨x, y⟩ _ rfl rfl ((z_8.out.set ⟨x, y⟩).bel ((Below.refl _ _).alloc (Nat.le_refl _) _))) rfl ?_; rw [HTT.out]; exact ⟨rfl, ((((((D8.out.setCell (p := ⟨B1 + 1 + 1, 0, none⟩) (by have := HB1.out; show w.heap.size ≤ B1 + 1 + 1; omega) _).setCell (p := ⟨B1 + 1 + 1, 1, none⟩) (by have := HB1.out; show w.heap.size ≤ B1 + 1 + 1; omega) _).setCell (p := ⟨B1 + 1 + 1, 2, none⟩) (by have := HB1.out; show w.heap.size ≤ B1 + 1 + 1; omega) _).setCell (p := ⟨B1 + 1 + 1, 3, none⟩) (by have := HB1.out; show w.heap.size ≤ B1 + 1 + 1; omega) _).setCell (p := ⟨B1 + 1 + 1, 4, none⟩) (by have := HB1.out; show w.heap.size ≤ B1 + 1 + 1; omega) _).setCell (p := ⟨B1 + 1 + 1, 5, none⟩) (by have := HB1.out; show w.heap.size ≤ B1 + 1 + 1; omega) _).alloc (by have := D8.out.size; simpa using this) _⟩
    · have HTT : Hid (t = (noI, 2)) := Lib.hid (by rw [ht2, if_neg (by simp)])
      clear ht2
      go_enter Tryz.func6, Tryz.ntmps6
      go_wp2_with fail
      obtain ⟨B1, hB1⟩ : ∃ B, B = w.heap.size := ⟨_, rfl⟩
      obtain ⟨W1_0, hW1_0⟩ : ∃ W, W = w.alloc (Obj.cells #[Value.bool a.low.neg, Value.string a.low.num, Value.string a.low.den, Value.bool a.high.neg, Value.string a.high.num, Value.string a.high.den] 26) := ⟨_, rfl⟩
      have hb : Below w.heap.size w W1_0 := by rw [hW1_0]; exact (Below.refl _ _).alloc (Nat.le_refl _) _
      have hzW1_0 : w.heap.size = B1 := by rw [hB1]
      have hlW1_0 : IvAt (B1) a W1_0 := by rw [← hzW1_0, hW1_0]; exact ⟨heap_lastM _ _⟩
      have D1 := Lib.hid (D0.out.trans (hb.mono D0.out.size))
      clear hb
      have a_1 := Lib.hid hlW1_0
      clear hlW1_0
      obtain ⟨W1_1, hW1_1⟩ : ∃ W, W = W1_0.alloc (Obj.cells #[Value.bool b.low.neg, Value.string b.low.num, Value.string b.low.den, Value.bool b.high.neg, Value.string b.high.num, Value.string b.high.den] 26) := ⟨_, rfl⟩
      have hb : Below W1_0.heap.size W1_0 W1_1 := by rw [hW1_1]; exact (Below.refl _ _).alloc (Nat.le_refl _) _
      have hzW1_1 : W1_0.heap.size = B1 + 1 := by rw [hW1_0]; simp [hzW1_0]
      have hlW1_1 : IvAt (B1 + 1) b W1_1 := by rw [← hzW1_1, hW1_1]; exact ⟨heap_lastM _ _⟩
      have D2 := Lib.hid (D1.out.trans (hb.mono D1.out.size))
      have a_2 := Lib.hid (a_1.out.bel hb)
      clear D1 a_1
      clear hb
      have b_2 := Lib.hid hlW1_1
      clear hlW1_1
      obtain ⟨W1_2, hW1_2⟩ : ∃ W, W = W1_1.alloc (Obj.cells #[Value.bool false, Value.string ⟨#[]⟩, Value.string ⟨#[]⟩, Value.bool false, Value.string ⟨#[]⟩, Value.string ⟨#[]⟩] 26) := ⟨_, rfl⟩
      have hb : Below W1_1.heap.size W1_1 W1_2 := by rw [hW1_2]; exact (Below.refl _ _).alloc (Nat.le_refl _) _
      have hzW1_2 : W1_1.heap.size = B1 + 1 + 1 := by rw [hW1_1]; simp [hzW1_1]
      have hlW1_2 : IvAt (B1 + 1 + 1) noI W1_2 := by rw [← hzW1_2, hW1_2]; exact ⟨heap_lastM _ _⟩
      have D3 := Lib.hid (D2.out.trans (hb.mono D2.out.size))
      have a_3 := Lib.hid (a_2.out.bel hb)
      have b_3 := Lib.hid (b_2.out.bel hb)
      clear D2 a_2 b_2
      clear hb
      have z_3 := Lib.hid hlW1_2
      clear hlW1_2
      rw [← hW1_0]
      rw [← hW1_1]
      rw [← hW1_2]
      simp only [← hB1]
      have HW1_0 := Lib.hid hW1_0
      clear hW1_0 hzW1_0
      have HW1_1 := Lib.hid hW1_1
      clear hW1_1 hzW1_1
      have HW1_2 := Lib.hid hW1_2
      clear hW1_2 hzW1_2
      have HB1 := Lib.hid hB1
      clear hB1
      have ac0 := a_3.out.c0
      have ac1 := a_3.out.c1
      have ac2 := a_3.out.c2
      have ac3 := a_3.out.c3
      have ac4 := a_3.out.c4
      have ac5 := a_3.out.c5
      have bc0 := b_3.out.c0
      have bc1 := b_3.out.c1
      have bc2 := b_3.out.c2
      have bc3 := b_3.out.c3
      have bc4 := b_3.out.c4
      have bc5 := b_3.out.c5
      go_wp2_with fail
      clear ac0 ac1 ac2 ac3 ac4 ac5 bc0 bc1 bc2 bc3 bc4 bc5
      refine (hva.out _).mono ?_
      rintro e v4 ⟨rfl, hb⟩
      have D4 := Lib.hid (D3.out.trans (hb.mono D3.out.size))
      have a_4 := Lib.hid (a_3.out.bel hb)
      have b_4 := Lib.hid (b_3.out.bel hb)
      have z_4 := Lib.hid (z_3.out.bel hb)
      clear D3 a_3 b_3 z_3
      clear hb
      have ac0 := a_4.out.c0
      have ac1 := a_4.out.c1
      have ac2 := a_4.out.c2
      have ac3 := a_4.out.c3
      have ac4 := a_4.out.c4
      have ac5 := a_4.out.c5
      have bc0 := b_4.out.c0
      have bc1 := b_4.out.c1
      have bc2 := b_4.out.c2
      have bc3 := b_4.out.c3
      have bc4 := b_4.out.c4
      have bc5 := b_4.out.c5
      go_wp2_with fail
      clear ac0 ac1 ac2 ac3 ac4 ac5 bc0 bc1 bc2 bc3 bc4 bc5
      refine (hvb.out _).mono ?_
      rintro e v5 ⟨rfl, hb⟩
      have D5 := Lib.hid (D4.out.trans (hb.mono D4.out.size))
      have a_5 := Lib.hid (a_4.out.bel hb)
      have b_5 := Lib.hid (b_4.out.bel hb)
      have z_5 := Lib.hid (z_4.out.bel hb)
      clear D4 a_4 b_4 z_4
      clear hb
      have ac0 := a_5.out.c0
      have ac1 := a_5.out.c1
      have ac2 := a_5.out.c2
      have ac3 := a_5.out.c3
      have ac4 := a_5.out.c4
      have ac5 := a_5.out.c5
      have az := blk_lt a_5.out.cells
      have bc0 := b_5.out.c0
      have bc1 := b_5.out.c1
      have bc2 := b_5.out.c2
      have bc3 := b_5.out.c3
      have bc4 := b_5.out.c4
      have bc5 := b_5.out.c5
      have bz := blk_lt b_5.out.cells
      go_wp2_with fail
      clear ac0 ac1 ac2 ac3 ac4 ac5 az bc0 bc1 bc2 bc3 bc4 bc5 bz
      refine (hadd1.out _).mono ?_
      rintro e v6 ⟨rfl, hb⟩
      have D6 := Lib.hid (D5.out.trans (hb.mono D5.out.size))
      have a_6 := Lib.hid (a_5.out.bel hb)
      have b_6 := Lib.hid (b_5.out.bel hb)
      have z_6 := Lib.hid (z_5.out.bel hb)
      clear D5 a_5 b_5 z_5
      clear hb
      have ac0 := a_6.out.c0
      have ac1 := a_6.out.c1
      have ac2 := a_6.out.c2
      have ac3 := a_6.out.c3
      have ac4 := a_6.out.c4
      have ac5 := a_6.out.c5
      have az := blk_lt a_6.out.cells
      have bc0 := b_6.out.c0
      have bc1 := b_6.out.c1
      have bc2 := b_6.out.c2
      have bc3 := b_6.out.c3
      have bc4 := b_6.out.c4
      have bc5 := b_6.out.c5
      have bz := blk_lt b_6.out.cells
      go_wp2_with fail
      clear ac0 ac1 ac2 ac3 ac4 ac5 az bc0 bc1 bc2 bc3 bc4 bc5 bz
      obtain ⟨B2, hB2⟩ : ∃ B, B = v6.heap.size := ⟨_, rfl⟩
      obtain ⟨W2_0, hW2_0⟩ : ∃ W, W = v6.alloc (Obj.cells #[Value.bool x.neg, Value.string x.num, Value.string x.den] 24) := ⟨_, rfl⟩
      have hb : Below v6.heap.size v6 W2_0 := by rw [hW2_0]; exact (Below.refl _ _).alloc (Nat.le_refl _) _
      have hzW2_0 : v6.heap.size = B2 := by rw [hB2]
      have hlW2_0 : RatAt (B2) x W2_0 := by rw [← hzW2_0, hW2_0]; exact ⟨heap_lastM _ _⟩
      have D7 := Lib.hid (D6.out.trans (hb.mono D6.out.size))
      have a_7 := Lib.hid (a_6.out.bel hb)
      have b_7 := Lib.hid (b_6.out.bel hb)
      have z_7 := Lib.hid (z_6.out.bel hb)
      clear D6 a_6 b_6 z_6
      clear hb
      have x_7 := Lib.hid hlW2_0
      clear hlW2_0
      rw [← hW2_0]
      simp only [← hB2]
      have HW2_0 := Lib.hid hW2_0
      clear hW2_0 hzW2_0
      have HB2 := Lib.hid hB2
      clear hB2
      refine (hadd2.out _).mono ?_
      rintro e v8 ⟨rfl, hb⟩
      have D8 := Lib.hid (D7.out.trans (hb.mono D7.out.size))
      have a_8 := Lib.hid (a_7.out.bel hb)
      have b_8 := Lib.hid (b_7.out.bel hb)
      have z_8 := Lib.hid (z_7.out.bel hb)
      have x_8 := Lib.hid (x_7.out.bel hb)
      clear D7 a_7 b_7 z_7 x_7
      clear hb
      have xc0 := x_8.out.c0
      have xc1 := x_8.out.c1
      have xc2 := x_8.out.c2
      have xz := blk_lt x_8.out.cells
      have zl := blk_lt z_8.out.cells
      have zc0 := z_8.out.c0
      have zf0 := z_8.out.fz 0
      have zc1 := z_8.out.c1
      have zf1 := z_8.out.fz 1
      have zc2 := z_8.out.c2
      have zf2 := z_8.out.fz 2
      have zc3 := z_8.out.c3
      have zf3 := z_8.out.fz 3
      have zc4 := z_8.out.c4
      have zf4 := z_8.out.fz 4
      have zc5 := z_8.out.c5
      have zf5 := z_8.out.fz 5
      have hnz : B1 + 1 + 1 ≠ v8.heap.size := by omega
      go_wp2_with fail
      (try simp only [Exit.inBlock, Exit.then])
      refine bodyPost_ret (results_iv rfl _ _ (B1 + 1 + 1) noI _ rfl rfl ((z_8.out.set noI).bel ((Below.refl _ _).alloc (Nat.le_refl _) _))) rfl ?_; rw [HTT.out]; exact ⟨rfl, ((((((D8.out.setCell (p := ⟨B1 + 1 + 1, 0, none⟩) (by have := HB1.out; show w.heap.size ≤ B1 + 1 + 1; omega) _).setCell (p := ⟨B1 + 1 + 1, 1, none⟩) (by have := HB1.out; show w.heap.size ≤ B1 + 1 + 1; omega) _).setCell (p := ⟨B1 + 1 + 1, 2, none⟩) (by have := HB1.out; show w.heap.size ≤ B1 + 1 + 1; omega) _).setCell (p := ⟨B1 + 1 + 1, 3, none⟩) (by have := HB1.out; show w.heap.size ≤ B1 + 1 + 1; omega) _).setCell (p := ⟨B1 + 1 + 1, 4, none⟩) (by have := HB1.out; show w.heap.size ≤ B1 + 1 + 1; omega) _).setCell (p := ⟨B1 + 1 + 1, 5, none⟩) (by have := HB1.out; show w.heap.size ≤ B1 + 1 + 1; omega) _).alloc (by have := D8.out.size; simpa using this) _⟩
  · have HTT : Hid (t = (noI, 2)) := Lib.hid (by rw [ht2, if_neg (by simp)])
    clear ht2
    go_enter Tryz.func6, Tryz.ntmps6
    go_wp2_with fail
    obtain ⟨B1, hB1⟩ : ∃ B, B = w.heap.size := ⟨_, rfl⟩
    obtain ⟨W1_0, hW1_0⟩ : ∃ W, W = w.alloc (Obj.cells #[Value.bool a.low.neg, Value.string a.low.num, Value.string a.low.den, Value.bool a.high.neg, Value.string a.high.num, Value.string a.high.den] 26) := ⟨_, rfl⟩
    have hb : Below w.heap.size w W1_0 := by rw [hW1_0]; exact (Below.refl _ _).alloc (Nat.le_refl _) _
    have hzW1_0 : w.heap.size = B1 := by rw [hB1]
    have hlW1_0 : IvAt (B1) a W1_0 := by rw [← hzW1_0, hW1_0]; exact ⟨heap_lastM _ _⟩
    have D1 := Lib.hid (D0.out.trans (hb.mono D0.out.size))
    clear hb
    have a_1 := Lib.hid hlW1_0
    clear hlW1_0
    obtain ⟨W1_1, hW1_1⟩ : ∃ W, W = W1_0.alloc (Obj.cells #[Value.bool b.low.neg, Value.string b.low.num, Value.string b.low.den, Value.bool b.high.neg, Value.string b.high.num, Value.string b.high.den] 26) := ⟨_, rfl⟩
    have hb : Below W1_0.heap.size W1_0 W1_1 := by rw [hW1_1]; exact (Below.refl _ _).alloc (Nat.le_refl _) _
    have hzW1_1 : W1_0.heap.size = B1 + 1 := by rw [hW1_0]; simp [hzW1_0]
    have hlW1_1 : IvAt (B1 + 1) b W1_1 := by rw [← hzW1_1, hW1_1]; exact ⟨heap_lastM _ _⟩
    have D2 := Lib.hid (D1.out.trans (hb.mono D1.out.size))
    have a_2 := Lib.hid (a_1.out.bel hb)
    clear D1 a_1
    clear hb
    have b_2 := Lib.hid hlW1_1
    clear hlW1_1
    obtain ⟨W1_2, hW1_2⟩ : ∃ W, W = W1_1.alloc (Obj.cells #[Value.bool false, Value.string ⟨#[]⟩, Value.string ⟨#[]⟩, Value.bool false, Value.string ⟨#[]⟩, Value.string ⟨#[]⟩] 26) := ⟨_, rfl⟩
    have hb : Below W1_1.heap.size W1_1 W1_2 := by rw [hW1_2]; exact (Below.refl _ _).alloc (Nat.le_refl _) _
    have hzW1_2 : W1_1.heap.size = B1 + 1 + 1 := by rw [hW1_1]; simp [hzW1_1]
    have hlW1_2 : IvAt (B1 + 1 + 1) noI W1_2 := by rw [← hzW1_2, hW1_2]; exact ⟨heap_lastM _ _⟩
    have D3 := Lib.hid (D2.out.trans (hb.mono D2.out.size))
    have a_3 := Lib.hid (a_2.out.bel hb)
    have b_3 := Lib.hid (b_2.out.bel hb)
    clear D2 a_2 b_2
    clear hb
    have z_3 := Lib.hid hlW1_2
    clear hlW1_2
    rw [← hW1_0]
    rw [← hW1_1]
    rw [← hW1_2]
    simp only [← hB1]
    have HW1_0 := Lib.hid hW1_0
    clear hW1_0 hzW1_0
    have HW1_1 := Lib.hid hW1_1
    clear hW1_1 hzW1_1
    have HW1_2 := Lib.hid hW1_2
    clear hW1_2 hzW1_2
    have HB1 := Lib.hid hB1
    clear hB1
    have ac0 := a_3.out.c0
    have ac1 := a_3.out.c1
    have ac2 := a_3.out.c2
    have ac3 := a_3.out.c3
    have ac4 := a_3.out.c4
    have ac5 := a_3.out.c5
    have bc0 := b_3.out.c0
    have bc1 := b_3.out.c1
    have bc2 := b_3.out.c2
    have bc3 := b_3.out.c3
    have bc4 := b_3.out.c4
    have bc5 := b_3.out.c5
    go_wp2_with fail
    clear ac0 ac1 ac2 ac3 ac4 ac5 bc0 bc1 bc2 bc3 bc4 bc5
    refine (hva.out _).mono ?_
    rintro e v4 ⟨rfl, hb⟩
    have D4 := Lib.hid (D3.out.trans (hb.mono D3.out.size))
    have a_4 := Lib.hid (a_3.out.bel hb)
    have b_4 := Lib.hid (b_3.out.bel hb)
    have z_4 := Lib.hid (z_3.out.bel hb)
    clear D3 a_3 b_3 z_3
    clear hb
    have ac0 := a_4.out.c0
    have ac1 := a_4.out.c1
    have ac2 := a_4.out.c2
    have ac3 := a_4.out.c3
    have ac4 := a_4.out.c4
    have ac5 := a_4.out.c5
    have bc0 := b_4.out.c0
    have bc1 := b_4.out.c1
    have bc2 := b_4.out.c2
    have bc3 := b_4.out.c3
    have bc4 := b_4.out.c4
    have bc5 := b_4.out.c5
    go_wp2_with fail
    clear ac0 ac1 ac2 ac3 ac4 ac5 bc0 bc1 bc2 bc3 bc4 bc5
    refine (hvb.out _).mono ?_
    rintro e v5 ⟨rfl, hb⟩
    have D5 := Lib.hid (D4.out.trans (hb.mono D4.out.size))
    have a_5 := Lib.hid (a_4.out.bel hb)
    have b_5 := Lib.hid (b_4.out.bel hb)
    have z_5 := Lib.hid (z_4.out.bel hb)
    clear D4 a_4 b_4 z_4
    clear hb
    have ac0 := a_5.out.c0
    have ac1 := a_5.out.c1
    have ac2 := a_5.out.c2
    have ac3 := a_5.out.c3
    have ac4 := a_5.out.c4
    have ac5 := a_5.out.c5
    have az := blk_lt a_5.out.cells
    have bc0 := b_5.out.c0
    have bc1 := b_5.out.c1
    have bc2 := b_5.out.c2
    have bc3 := b_5.out.c3
    have bc4 := b_5.out.c4
    have bc5 := b_5.out.c5
    have bz := blk_lt b_5.out.cells
    go_wp2_with fail
    clear ac0 ac1 ac2 ac3 ac4 ac5 az bc0 bc1 bc2 bc3 bc4 bc5 bz
    refine (hadd1.out _).mono ?_
    rintro e v6 ⟨rfl, hb⟩
    have D6 := Lib.hid (D5.out.trans (hb.mono D5.out.size))
    have a_6 := Lib.hid (a_5.out.bel hb)
    have b_6 := Lib.hid (b_5.out.bel hb)
    have z_6 := Lib.hid (z_5.out.bel hb)
    clear D5 a_5 b_5 z_5
    clear hb
    have zl := blk_lt z_6.out.cells
    have zc0 := z_6.out.c0
    have zf0 := z_6.out.fz 0
    have zc1 := z_6.out.c1
    have zf1 := z_6.out.fz 1
    have zc2 := z_6.out.c2
    have zf2 := z_6.out.fz 2
    have zc3 := z_6.out.c3
    have zf3 := z_6.out.fz 3
    have zc4 := z_6.out.c4
    have zf4 := z_6.out.fz 4
    have zc5 := z_6.out.c5
    have zf5 := z_6.out.fz 5
    have hnz : B1 + 1 + 1 ≠ v6.heap.size := by omega
    go_wp2_with fail
    (try simp only [Exit.inBlock, Exit.then])
    refine bodyPost_ret (results_iv rfl _ _ (B1 + 1 + 1) noI _ rfl rfl ((z_6.out.set noI).bel ((Below.refl _ _).alloc (Nat.le_refl _) _))) rfl ?_; rw [HTT.out]; exact ⟨rfl, ((((((D6.out.setCell (p := ⟨B1 + 1 + 1, 0, none⟩) (by have := HB1.out; show w.heap.size ≤ B1 + 1 + 1; omega) _).setCell (p := ⟨B1 + 1 + 1, 1, none⟩) (by have := HB1.out; show w.heap.size ≤ B1 + 1 + 1; omega) _).setCell (p := ⟨B1 + 1 + 1, 2, none⟩) (by have := HB1.out; show w.heap.size ≤ B1 + 1 + 1; omega) _).setCell (p := ⟨B1 + 1 + 1, 3, none⟩) (by have := HB1.out; show w.heap.size ≤ B1 + 1 + 1; omega) _).setCell (p := ⟨B1 + 1 + 1, 4, none⟩) (by have := HB1.out; show w.heap.size ≤ B1 + 1 + 1; omega) _).setCell (p := ⟨B1 + 1 + 1, 5, none⟩) (by have := HB1.out; show w.heap.size ≤ B1 + 1 + 1; omega) _).alloc (by have := D6.out.size; simpa using this) _⟩
end Go.Proofs.YtbcoblpnihdhgaaGreatDoor

/-
  The program's interval package: the element of a list that no other one comes before.
-/
set_option linter.unusedVariables false
set_option maxRecDepth 100000
namespace Go.Proofs.YtbcoblpnihdhgaaGreatDoor
open Go.RowKit
open Rt
/-- the call answers with a number -/
def GivesN (r : Raw) (w : World) (e : Ending) (w' : World) : Prop := e = .returned (.agg #[.bool r.neg, .string r.num, .string r.den]) ∧ Below w.heap.size w w'
/-- numbers that lie one after the other, whole -/
def RowR (w : World) (b : Nat) (l : List Raw) : Prop := ∀ j (hj : j < l.length), w.cell? ⟨b, j * 3, none⟩ = some (.bool l[j].neg) ∧ w.cell? ⟨b, j * 3 + 1, none⟩ = some (.string l[j].num) ∧ w.cell? ⟨b, j * 3 + 2, none⟩ = some (.string l[j].den)
theorem cell_lt5 {w : World} {a : Addr} {x : Value} (h : w.cell? a = some x) : a.block < w.heap.size := by
  rcases Nat.lt_or_ge a.block w.heap.size with h' | h'
  · exact h'
  · simp [World.cell?, Array.getElem?_eq_none h'] at h
theorem cell_bel {w w' : World} (hb : Below w.heap.size w w') {a : Addr} {x : Value} (hc : w.cell? a = some x) : w'.cell? a = some x := (hb.cell (p := a) (cell_lt5 hc)).trans hc
theorem RowR.bel {w w' : World} {b : Nat} {l : List Raw} (h : RowR w b l) (hb : Below w.heap.size w w') : RowR w' b l := fun j hj => by
  obtain ⟨h0, h1, h2⟩ := h j hj
  exact ⟨cell_bel hb h0, cell_bel hb h1, cell_bel hb h2⟩
theorem ivsCell5 {w : World} {b off : Nat} {l : List Iv} (h : IvsIn w b off l) (j : Nat) (hj : j < l.length) :
    w.cell? ⟨b, off + j * 6, none⟩ = some (.bool l[j].low.neg) ∧ w.cell? ⟨b, off + j * 6 + 1, none⟩ = some (.string l[j].low.num) ∧ w.cell? ⟨b, off + j * 6 + 2, none⟩ = some (.string l[j].low.den) ∧
    w.cell? ⟨b, off + j * 6 + 3, none⟩ = some (.bool l[j].high.neg) ∧ w.cell? ⟨b, off + j * 6 + 4, none⟩ = some (.string l[j].high.num) ∧ w.cell? ⟨b, off + j * 6 + 5, none⟩ = some (.string l[j].high.den) :=
  ⟨h j hj 0 (by omega), h j hj 1 (by omega), h j hj 2 (by omega), h j hj 3 (by omega), h j hj 4 (by omega), h j hj 5 (by omega)⟩
theorem sel_next {α : Type} (d : α) (bf : α → α → Bool) (l : List α) (k : Nat) (h : k < l.length) (el fd : α) (he : el = l[k]) (hf : fd = sel d bf (l.take k)) :
    sel d bf (l.take (k + 1)) = if decide (k = 0) || bf el fd then el else fd := by
  rw [List.take_succ_eq_append_getElem h, sel_snoc, ← he, ← hf]
  congr 3
  cases k with
  | zero => simp
  | succ k =>
    rw [decide_eq_false (by omega)]
    cases l with
    | nil => simp at h
    | cons x t => simp
structure CallR (F : Nat) (bf : Raw → Raw → Bool) : Prop where
  enter : ∀ (x y : Raw) (w : World), (callFunc F #[.agg #[.bool x.neg, .string x.num, .string x.den], .agg #[.bool y.neg, .string y.num, .string y.den]]).run Tryz.prog w = .ok (.enter F #[.agg #[.bool x.neg, .string x.num, .string x.den], .agg #[.bool y.neg, .string y.num, .string y.den]]) w
  calls : ∀ (x y : Raw) (w : World), Calls Tryz.prog F #[.agg #[.bool x.neg, .string x.num, .string x.den], .agg #[.bool y.neg, .string y.num, .string y.den]] w (GivesB (bf x y) w)
structure CallI (F : Nat) (bf : Iv → Iv → Bool) : Prop where
  enter : ∀ (x y : Iv) (w : World), (callFunc F #[.agg #[.bool x.low.neg, .string x.low.num, .string x.low.den, .bool x.high.neg, .string x.high.num, .string x.high.den], .agg #[.bool y.low.neg, .string y.low.num, .string y.low.den, .bool y.high.neg, .string y.high.num, .string y.high.den]]).run Tryz.prog w = .ok (.enter F #[.agg #[.bool x.low.neg, .string x.low.num, .string x.low.den, .bool x.high.neg, .string x.high.num, .string x.high.den], .agg #[.bool y.low.neg, .string y.low.num, .string y.low.den, .bool y.high.neg, .string y.high.num, .string y.high.den]]) w
  calls : ∀ (x y : Iv) (w : World), Calls Tryz.prog F #[.agg #[.bool x.low.neg, .string x.low.num, .string x.low.den, .bool x.high.neg, .string x.high.num, .string x.high.den], .agg #[.bool y.low.neg, .string y.low.num, .string y.low.den, .bool y.high.neg, .string y.high.num, .string y.high.den]] w (GivesB (bf x y) w)
theorem results_rat5 {fn : Func} {p : Tmp} (h : fn.results = #[.cell p 24]) (tmps : Array Value) (w : World) (g : Nat) (r : Raw)
    (hp : tmps.getD p undef = .pointer (some ⟨g, 0, none⟩)) (hg : RatAt g r w) :
    (results fn tmps).run Tryz.prog w = .ok (.agg #[.bool r.neg, .string r.num, .string r.den]) w := by
  have hp' : tmps[p]?.getD undef = .pointer (some ⟨g, 0, none⟩) := by simpa using hp
  simp [results, h, hp', asAddr, run_loadVar_row w g 24 24 _ (0, 0) _ hg.cells Tryz.underlying24 rfl (by kernel_rfl)]
set_option maxHeartbeats 4000000 in
theorem pfirstR_any (F : Nat) (bf : Raw → Raw → Bool) (b cap : Nat) (l : List Raw) (w : World) (hF : CallR F bf) (h0l : 0 < l.length) (hl : l.length ≤ cap) (hcap : cap ≤ maxLen) (hc : RowR w b l) :
    Calls Tryz.prog 24 #[.slice (some ⟨b, 0, none⟩) l.length cap, .func (.func F) #[] #[]] w (GivesN (sel noRaw bf l) w) := by
  have HF := Lib.hid hF
  have HC := Lib.hid hc
  clear hF hc
  unfold maxLen at hcap
  have D0 := Lib.hid (Below.refl w.heap.size w)
  go_enter Tryz.func24, Tryz.ntmps24
  go_wp2_with fail
  obtain ⟨B1, hB1⟩ : ∃ B, B = w.heap.size := ⟨_, rfl⟩
  obtain ⟨W1_0, hW1_0⟩ : ∃ W, W = w.alloc (Obj.cells #[Value.bool false, Value.string ⟨#[]⟩, Value.string ⟨#[]⟩] 24) := ⟨_, rfl⟩
  have hb : Below w.heap.size w W1_0 := by rw [hW1_0]; exact (Below.refl _ _).alloc (Nat.le_refl _) _
  have hzW1_0 : w.heap.size = B1 := by rw [hB1]
  have hlW1_0 : RatAt (B1) noRaw W1_0 := by rw [← hzW1_0, hW1_0]; exact ⟨heap_lastM _ _⟩
  have D1 := Lib.hid (D0.out.trans (hb.mono D0.out.size))
  clear hb
  have z_1 := Lib.hid hlW1_0
  clear hlW1_0
  obtain ⟨W1_1, hW1_1⟩ : ∃ W, W = W1_0.alloc (Obj.cells #[Value.bool false, Value.string ⟨#[]⟩, Value.string ⟨#[]⟩] 24) := ⟨_, rfl⟩
  have hb : Below W1_0.heap.size W1_0 W1_1 := by rw [hW1_1]; exact (Below.refl _ _).alloc (Nat.le_refl _) _
  have hzW1_1 : W1_0.heap.size = B1 + 1 := by rw [hW1_0]; simp [hzW1_0]
  have hlW1_1 : RatAt (B1 + 1) noRaw W1_1 := by rw [← hzW1_1, hW1_1]; exact ⟨heap_lastM _ _⟩
  have D2 := Lib.hid (D1.out.trans (hb.mono D1.out.size))
  have z_2 := Lib.hid (z_1.out.bel hb)
  clear D1 z_1
  clear hb
  have f_2 := Lib.hid hlW1_1
  clear hlW1_1
  rw [← hW1_0]
  rw [← hW1_1]
  simp only [← hB1]
  have HW1_0 := Lib.hid hW1_0
  clear hW1_0 hzW1_0
  have HW1_1 := Lib.hid hW1_1
  clear hW1_1 hzW1_1
  have HB1 := Lib.hid hB1
  clear hB1
  have hle : w.heap.size ≤ B1 + 1 := by have := HB1.out; omega
  have HLE := Lib.hid hle; clear hle
  go_loopw [10] (fun i wr => ∃ k : Nat, k ≤ l.length ∧ i = .int .i64 k ∧ Hid (Below w.heap.size w wr) ∧ Hid (RatAt (B1) noRaw wr) ∧ Hid (RatAt (B1 + 1) (sel noRaw bf (l.take k)) wr)) (fun i _ => l.length - (intOf i).toNat)
  case atStart => exact ⟨0, by omega, rfl, D2, z_2, f_2⟩
  case round =>
    obtain ⟨k, hk, rfl, hB, hz, hf⟩ := hrel
    clear D2 z_2 f_2
    obtain ⟨fd, hfd⟩ : ∃ x, x = sel noRaw bf (l.take k) := ⟨_, rfl⟩
    rw [← hfd] at hf
    by_cases hlt : k < l.length
    ·
      obtain ⟨el, hel⟩ : ∃ x, x = l[k] := ⟨_, rfl⟩
      have hs := sel_next noRaw bf l k hlt el fd hel hfd
      have HS := Lib.hid hs; clear hs
      obtain ⟨e0, e1, e2⟩ := (HC.out.bel hB.out) k hlt
      rw [← hel] at e0 e1 e2
      have HEL := Lib.hid hel; have HFD := Lib.hid hfd; clear hel hfd
      by_cases h0 : k = 0
      ·
        have q0 : ((k : Int) == 0) = true := by subst h0; rfl
        have H0 := Lib.hid h0; clear h0
        go_upto_region 6 with fail
        have HN1 := Lib.hid (blk_lt hz.out.cells); have HN2 := Lib.hid (blk_lt hf.out.cells)
        obtain ⟨B6, hB6⟩ : ∃ B, B = wr.heap.size := ⟨_, rfl⟩
        obtain ⟨W6_0, hW6_0⟩ : ∃ W, W = wr.alloc (Obj.cells #[Value.bool el.neg, Value.string el.num, Value.string el.den] 24) := ⟨_, rfl⟩
        have hb : Below wr.heap.size wr W6_0 := by rw [hW6_0]; exact (Below.refl _ _).alloc (Nat.le_refl _) _
        have hzW6_0 : wr.heap.size = B6 := by rw [hB6]
        have hlW6_0 : RatAt (B6) el W6_0 := by rw [← hzW6_0, hW6_0]; exact ⟨heap_lastM _ _⟩
        have D51 := Lib.hid (hB.out.trans (hb.mono hB.out.size))
        have z_51 := Lib.hid (hz.out.bel hb)
        have f_51 := Lib.hid (hf.out.bel hb)
        clear hB hz hf
        clear hb
        have e_51 := Lib.hid hlW6_0
        clear hlW6_0
        rw [← hW6_0]
        simp only [← hB6]
        have HW6_0 := Lib.hid hW6_0
        clear hW6_0 hzW6_0
        have HB6 := Lib.hid hB6
        clear hB6
        have hN : Hid (B1 < B6 ∧ B1 + 1 < B6) := Lib.hid (by have h1 := HN1.out; have h2 := HN2.out; have h3 := HB6.out; exact ⟨by omega, by omega⟩)
        have hle := HLE.out
        have fc0 := f_51.out.c0
        have ff0 := f_51.out.fz 0
        have fc1 := f_51.out.c1
        have ff1 := f_51.out.fz 1
        have fc2 := f_51.out.c2
        have ff2 := f_51.out.fz 2
        have fz := blk_lt f_51.out.cells
        have ec0 := e_51.out.c0
        have ef0 := e_51.out.fz 0
        have ec1 := e_51.out.c1
        have ef1 := e_51.out.fz 1
        have ec2 := e_51.out.c2
        have ef2 := e_51.out.fz 2
        have ez := blk_lt e_51.out.cells
        go_upto_region 7 with fail
        obtain ⟨X52, hX52⟩ : ∃ W, W = ((((((W6_0).setCell ⟨B1 + 1, 0, none⟩ (.bool el.neg))).setCell ⟨B1 + 1, 1, none⟩ (.string el.num))).setCell ⟨B1 + 1, 2, none⟩ (.string el.den)) := ⟨_, rfl⟩
        have hbes : Bes (B1 + 1) W6_0 X52 := by rw [hX52]; exact (((Bes.set _ (B1 + 1) 0 _).trans (Bes.set _ (B1 + 1) 1 _)).trans (Bes.set _ (B1 + 1) 2 _))
        have D52 : Hid (Below w.heap.size w X52) := Lib.hid (by rw [hX52]; exact (((D51.out.setCell (p := ⟨B1 + 1, 0, none⟩) hle _).setCell (p := ⟨B1 + 1, 1, none⟩) hle _).setCell (p := ⟨B1 + 1, 2, none⟩) hle _))
        have z_52 := Lib.hid (z_51.out.bes hbes (by have := hN.out; omega))
        have f_52 : Hid (RatAt (B1 + 1) el X52) := Lib.hid (by rw [hX52]; exact f_51.out.set el)
        have e_52 := Lib.hid (e_51.out.bes hbes (by have := hN.out; omega))
        clear hbes D51 z_51 f_51 e_51
        rw [← hX52]
        have HX52 := Lib.hid hX52; clear hX52
        clear fc0 ff0 fc1 ff1 fc2 ff2 fz ec0 ef0 ec1 ef1 ec2 ef2 ez
        clear hle
        go_wp2_with fail
        go_roundw
        case rel => exact ⟨k + 1, by omega, by go_num, D52, z_52, Lib.hid (by rw [show sel noRaw bf (l.take (k + 1)) = el by rw [HS.out, decide_eq_true H0.out]; rfl]; exact f_52.out)⟩
        case measure => simp [intOf]; omega
      ·
        have q0 : ((k : Int) == 0) = false := by rw [beq_eq_false_iff_ne]; omega
        have H0 := Lib.hid h0; clear h0
        go_upto_region 5 with fail
        have HN1 := Lib.hid (blk_lt hz.out.cells); have HN2 := Lib.hid (blk_lt hf.out.cells)
        obtain ⟨B6, hB6⟩ : ∃ B, B = wr.heap.size := ⟨_, rfl⟩
        obtain ⟨W6_0, hW6_0⟩ : ∃ W, W = wr.alloc (Obj.cells #[Value.bool el.neg, Value.string el.num, Value.string el.den] 24) := ⟨_, rfl⟩
        have hb : Below wr.heap.size wr W6_0 := by rw [hW6_0]; exact (Below.refl _ _).alloc (Nat.le_refl _) _
        have hzW6_0 : wr.heap.size = B6 := by rw [hB6]
        have hlW6_0 : RatAt (B6) el W6_0 := by rw [← hzW6_0, hW6_0]; exact ⟨heap_lastM _ _⟩
        have D51 := Lib.hid (hB.out.trans (hb.mono hB.out.size))
        have z_51 := Lib.hid (hz.out.bel hb)
        have f_51 := Lib.hid (hf.out.bel hb)
        clear hB hz hf
        clear hb
        have e_51 := Lib.hid hlW6_0
        clear hlW6_0
        rw [← hW6_0]
        simp only [← hB6]
        have HW6_0 := Lib.hid hW6_0
        clear hW6_0 hzW6_0
        have HB6 := Lib.hid hB6
        clear hB6
        have hN : Hid (B1 < B6 ∧ B1 + 1 < B6) := Lib.hid (by have h1 := HN1.out; have h2 := HN2.out; have h3 := HB6.out; exact ⟨by omega, by omega⟩)
        have fc0 := f_51.out.c0
        have fc1 := f_51.out.c1
        have fc2 := f_51.out.c2
        have ec0 := e_51.out.c0
        have ec1 := e_51.out.c1
        have ec2 := e_51.out.c2
        have hcf := HF.out.enter el fd
        go_wp2_with fail
        clear fc0 fc1 fc2 ec0 ec1 ec2 hcf
        refine (HF.out.calls el fd _).mono ?_
        rintro e v52 ⟨rfl, hb⟩
        have D52 := Lib.hid (D51.out.trans (hb.mono D51.out.size))
        have z_52 := Lib.hid (z_51.out.bel hb)
        have f_52 := Lib.hid (f_51.out.bel hb)
        have e_52 := Lib.hid (e_51.out.bel hb)
        clear D51 z_51 f_51 e_51
        clear hb
        rcases Bool.eq_false_or_eq_true (bf el fd) with hbf | hbf
        ·
          rw [hbf]; have HBF := Lib.hid hbf; clear hbf
          have hle := HLE.out
          have fc0 := f_52.out.c0
          have ff0 := f_52.out.fz 0
          have fc1 := f_52.out.c1
          have ff1 := f_52.out.fz 1
          have fc2 := f_52.out.c2
          have ff2 := f_52.out.fz 2
          have fz := blk_lt f_52.out.cells
          have ec0 := e_52.out.c0
          have ef0 := e_52.out.fz 0
          have ec1 := e_52.out.c1
          have ef1 := e_52.out.fz 1
          have ec2 := e_52.out.c2
          have ef2 := e_52.out.fz 2
          have ez := blk_lt e_52.out.cells
          go_upto_region 7 with fail
          obtain ⟨X53, hX53⟩ : ∃ W, W = ((((((v52).setCell ⟨B1 + 1, 0, none⟩ (.bool el.neg))).setCell ⟨B1 + 1, 1, none⟩ (.string el.num))).setCell ⟨B1 + 1, 2, none⟩ (.string el.den)) := ⟨_, rfl⟩
          have hbes : Bes (B1 + 1) v52 X53 := by rw [hX53]; exact (((Bes.set _ (B1 + 1) 0 _).trans (Bes.set _ (B1 + 1) 1 _)).trans (Bes.set _ (B1 + 1) 2 _))
          have D53 : Hid (Below w.heap.size w X53) := Lib.hid (by rw [hX53]; exact (((D52.out.setCell (p := ⟨B1 + 1, 0, none⟩) hle _).setCell (p := ⟨B1 + 1, 1, none⟩) hle _).setCell (p := ⟨B1 + 1, 2, none⟩) hle _))
          have z_53 := Lib.hid (z_52.out.bes hbes (by have := hN.out; omega))
          have f_53 : Hid (RatAt (B1 + 1) el X53) := Lib.hid (by rw [hX53]; exact f_52.out.set el)
          have e_53 := Lib.hid (e_52.out.bes hbes (by have := hN.out; omega))
          clear hbes D52 z_52 f_52 e_52
          rw [← hX53]
          have HX53 := Lib.hid hX53; clear hX53
          clear fc0 ff0 fc1 ff1 fc2 ff2 fz ec0 ef0 ec1 ef1 ec2 ef2 ez
          clear hle
          go_wp2_with fail
          go_roundw
          case rel => exact ⟨k + 1, by omega, by go_num, D53, z_53, Lib.hid (by rw [show sel noRaw bf (l.take (k + 1)) = el by rw [HS.out, decide_eq_false H0.out, HBF.out]; rfl]; exact f_53.out)⟩
          case measure => simp [intOf]; omega
        ·
          rw [hbf]; have HBF := Lib.hid hbf; clear hbf
          go_wp2_with fail
          go_roundw
          case rel => exact ⟨k + 1, by omega, by go_num, D52, z_52, Lib.hid (by rw [show sel noRaw bf (l.take (k + 1)) = fd by rw [HS.out, decide_eq_false H0.out, HBF.out]; rfl]; exact f_52.out)⟩
          case measure => simp [intOf]; omega
    ·
      have hfe : fd = sel noRaw bf l := by rw [hfd, List.take_of_length_le (by omega)]
      have HFE := Lib.hid hfe; clear hfe hfd
      have hle : w.heap.size ≤ B1 := by have := HB1.out; omega
      have fc0 := hf.out.c0
      have fc1 := hf.out.c1
      have fc2 := hf.out.c2
      have zc0 := hz.out.c0
      have zf0 := hz.out.fz 0
      have zc1 := hz.out.c1
      have zf1 := hz.out.fz 1
      have zc2 := hz.out.c2
      have zf2 := hz.out.fz 2
      go_wp2_with fail
      (try simp only [Exit.inBlock, Exit.then])
      refine bodyPost_ret (results_rat5 rfl _ _ B1 fd rfl (hz.out.set fd)) rfl ?_; rw [← HFE.out]; exact ⟨rfl, (((hB.out.setCell (p := ⟨B1, 0, none⟩) hle _).setCell (p := ⟨B1, 1, none⟩) hle _).setCell (p := ⟨B1, 2, none⟩) hle _)⟩
set_option maxHeartbeats 4000000 in
theorem pfirstI_any (F : Nat) (bf : Iv → Iv → Bool) (b off cap : Nat) (l : List Iv) (w : World) (hF : CallI F bf) (h0l : 0 < l.length) (hl : l.length ≤ cap) (hcap : cap ≤ maxLen) (hc : IvsIn w b off l) :
    Calls Tryz.prog 29 #[.slice (some ⟨b, off, none⟩) l.length cap, .func (.func F) #[] #[]] w (GivesV (sel noI bf l) w) := by
  have HF := Lib.hid hF
  have HC := Lib.hid hc
  clear hF hc
  unfold maxLen at hcap
  have D0 := Lib.hid (Below.refl w.heap.size w)
  go_enter Tryz.func29, Tryz.ntmps29
  go_wp2_with fail
  obtain ⟨B1, hB1⟩ : ∃ B, B = w.heap.size := ⟨_, rfl⟩
  obtain ⟨W1_0, hW1_0⟩ : ∃ W, W = w.alloc (Obj.cells #[Value.bool false, Value.string ⟨#[]⟩, Value.string ⟨#[]⟩, Value.bool false, Value.string ⟨#[]⟩, Value.string ⟨#[]⟩] 26) := ⟨_, rfl⟩
  have hb : Below w.heap.size w W1_0 := by rw [hW1_0]; exact (Below.refl _ _).alloc (Nat.le_refl _) _
  have hzW1_0 : w.heap.size = B1 := by rw [hB1]
  have hlW1_0 : IvAt (B1) noI W1_0 := by rw [← hzW1_0, hW1_0]; exact ⟨heap_lastM _ _⟩
  have D1 := Lib.hid (D0.out.trans (hb.mono D0.out.size))
  clear hb
  have z_1 := Lib.hid hlW1_0
  clear hlW1_0
  obtain ⟨W1_1, hW1_1⟩ : ∃ W, W = W1_0.alloc (Obj.cells #[Value.bool false, Value.string ⟨#[]⟩, Value.string ⟨#[]⟩, Value.bool false, Value.string ⟨#[]⟩, Value.string ⟨#[]⟩] 26) := ⟨_, rfl⟩
  have hb : Below W1_0.heap.size W1_0 W1_1 := by rw [hW1_1]; exact (Below.refl _ _).alloc (Nat.le_refl _) _
  have hzW1_1 : W1_0.heap.size = B1 + 1 := by rw [hW1_0]; simp [hzW1_0]
  have hlW1_1 : IvAt (B1 + 1) noI W1_1 := by rw [← hzW1_1, hW1_1]; exact ⟨heap_lastM _ _⟩
  have D2 := Lib.hid (D1.out.trans (hb.mono D1.out.size))
  have z_2 := Lib.hid (z_1.out.bel hb)
  clear D1 z_1
  clear hb
  have f_2 := Lib.hid hlW1_1
  clear hlW1_1
  rw [← hW1_0]
  rw [← hW1_1]
  simp only [← hB1]
  have HW1_0 := Lib.hid hW1_0
  clear hW1_0 hzW1_0
  have HW1_1 := Lib.hid hW1_1
  clear hW1_1 hzW1_1
  have HB1 := Lib.hid hB1
  clear hB1
  have hle : w.heap.size ≤ B1 + 1 := by have := HB1.out; omega
  have HLE := Lib.hid hle; clear hle
  go_loopw [10] (fun i wr => ∃ k : Nat, k ≤ l.length ∧ i = .int .i64 k ∧ Hid (Below w.heap.size w wr) ∧ Hid (IvAt (B1) noI wr) ∧ Hid (IvAt (B1 + 1) (sel noI bf (l.take k)) wr)) (fun i _ => l.length - (intOf i).toNat)
  case atStart => exact ⟨0, by omega, rfl, D2, z_2, f_2⟩
  case round =>
    obtain ⟨k, hk, rfl, hB, hz, hf⟩ := hrel
    clear D2 z_2 f_2
    obtain ⟨fd, hfd⟩ : ∃ x, x = sel noI bf (l.take k) := ⟨_, rfl⟩
    rw [← hfd] at hf
    by_cases hlt : k < l.length
    ·
      obtain ⟨el, hel⟩ : ∃ x, x = l[k] := ⟨_, rfl⟩
      have hs := sel_next noI bf l k hlt el fd hel hfd
      have HS := Lib.hid hs; clear hs
      obtain ⟨e0, e1, e2, e3, e4, e5⟩ := ivsCell5 (HC.out.bel hB.out) k hlt
      rw [← hel] at e0 e1 e2 e3 e4 e5
      have HEL := Lib.hid hel; have HFD := Lib.hid hfd; clear hel hfd
      by_cases h0 : k = 0
      ·
        have q0 : ((k : Int) == 0) = true := by subst h0; rfl
        have H0 := Lib.hid h0; clear h0
        go_upto_region 6 with fail
        have HN1 := Lib.hid (blk_lt hz.out.cells); have HN2 := Lib.hid (blk_lt hf.out.cells)
        obtain ⟨B6, hB6⟩ : ∃ B, B = wr.heap.size := ⟨_, rfl⟩
        obtain ⟨W6_0, hW6_0⟩ : ∃ W, W = wr.alloc (Obj.cells #[Value.bool el.low.neg, Value.string el.low.num, Value.string el.low.den, Value.bool el.high.neg, Value.string el.high.num, Value.string el.high.den] 26) := ⟨_, rfl⟩
        have hb : Below wr.heap.size wr W6_0 := by rw [hW6_0]; exact (Below.refl _ _).alloc (Nat.le_refl _) _
        have hzW6_0 : wr.heap.size = B6 := by rw [hB6]
        have hlW6_0 : IvAt (B6) el W6_0 := by rw [← hzW6_0, hW6_0]; exact ⟨heap_lastM _ _⟩
        have D51 := Lib.hid (hB.out.trans (hb.mono hB.out.size))
        have z_51 := Lib.hid (hz.out.bel hb)
        have f_51 := Lib.hid (hf.out.bel hb)
        clear hB hz hf
        clear hb
        have e_51 := Lib.hid hlW6_0
        clear hlW6_0
        rw [← hW6_0]
        simp only [← hB6]
        have HW6_0 := Lib.hid hW6_0
        clear hW6_0 hzW6_0
        have HB6 := Lib.hid hB6
        clear hB6
        have hN : Hid (B1 < B6 ∧ B1 + 1 < B6) := Lib.hid (by have h1 := HN1.out; have h2 := HN2.out; have h3 := HB6.out; exact ⟨by omega, by omega⟩)
        have hle := HLE.out
        have fc0 := f_51.out.c0
        have ff0 := f_51.out.fz 0
        have fc1 := f_51.out.c1
        have ff1 := f_51.out.fz 1
        have fc2 := f_51.out.c2
        have ff2 := f_51.out.fz 2
        have fc3 := f_51.out.c3
        have ff3 := f_51.out.fz 3
        have fc4 := f_51.out.c4
        have ff4 := f_51.out.fz 4
        have fc5 := f_51.out.c5
        have ff5 := f_51.out.fz 5
        have fz := blk_lt f_51.out.cells
        have ec0 := e_51.out.c0
        have ef0 := e_51.out.fz 0
        have ec1 := e_51.out.c1
        have ef1 := e_51.out.fz 1
        have ec2 := e_51.out.c2
        have ef2 := e_51.out.fz 2
        have ec3 := e_51.out.c3
        have ef3 := e_51.out.fz 3
        have ec4 := e_51.out.c4
        have ef4 := e_51.out.fz 4
        have ec5 := e_51.out.c5
        have ef5 := e_51.out.fz 5
        have ez := blk_lt e_51.out.cells
        go_upto_region 7 with fail
        obtain ⟨X52, hX52⟩ : ∃ W, W = ((((((((((((W6_0).setCell ⟨B1 + 1, 0, none⟩ (.bool el.low.neg))).setCell ⟨B1 + 1, 1, none⟩ (.string el.low.num))).setCell ⟨B1 + 1, 2, none⟩ (.string el.low.den))).setCell ⟨B1 + 1, 3, none⟩ (.bool el.high.neg))).setCell ⟨B1 + 1, 4, none⟩ (.string el.high.num))).setCell ⟨B1 + 1, 5, none⟩ (.string el.high.den)) := ⟨_, rfl⟩
        have hbes : Bes (B1 + 1) W6_0 X52 := by rw [hX52]; exact ((((((Bes.set _ (B1 + 1) 0 _).trans (Bes.set _ (B1 + 1) 1 _)).trans (Bes.set _ (B1 + 1) 2 _)).trans (Bes.set _ (B1 + 1) 3 _)).trans (Bes.set _ (B1 + 1) 4 _)).trans (Bes.set _ (B1 + 1) 5 _))
        have D52 : Hid (Below w.heap.size w X52) := Lib.hid (by rw [hX52]; exact ((((((D51.out.setCell (p := ⟨B1 + 1, 0, none⟩) hle _).setCell (p := ⟨B1 + 1, 1, none⟩) hle _).setCell (p := ⟨B1 + 1, 2, none⟩) hle _).setCell (p := ⟨B1 + 1, 3, none⟩) hle _).setCell (p := ⟨B1 + 1, 4, none⟩) hle _).setCell (p := ⟨B1 + 1, 5, none⟩) hle _))
        have z_52 := Lib.hid (z_51.out.bes hbes (by have := hN.out; omega))
        have f_52 : Hid (IvAt (B1 + 1) el X52) := Lib.hid (by rw [hX52]; exact f_51.out.set el)
        have e_52 := Lib.hid (e_51.out.bes hbes (by have := hN.out; omega))
        clear hbes D51 z_51 f_51 e_51
        rw [← hX52]
        have HX52 := Lib.hid hX52; clear hX52
        clear fc0 ff0 fc1 ff1 fc2 ff2 fc3 ff3 fc4 ff4 fc5 ff5 fz ec0 ef0 ec1 ef1 ec2 ef2 ec3 ef3 ec4 ef4 ec5 ef5 ez
        clear hle
        go_wp2_with fail
        go_roundw
        case rel => exact ⟨k + 1, by omega, by go_num, D52, z_52, Lib.hid (by rw [show sel noI bf (l.take (k + 1)) = el by rw [HS.out, decide_eq_true H0.out]; rfl]; exact f_52.out)⟩
        case measure => simp [intOf]; omega
      ·
        have q0 : ((k : Int) == 0) = false := by rw [beq_eq_false_iff_ne]; omega
        have H0 := Lib.hid h0; clear h0
        go_upto_region 5 with fail
        have HN1 := Lib.hid (blk_lt hz.out.cells); have HN2 := Lib.hid (blk_lt hf.out.cells)
        obtain ⟨B6, hB6⟩ : ∃ B, B = wr.heap.size := ⟨_, rfl⟩
        obtain ⟨W6_0, hW6_0⟩ : ∃ W, W = wr.alloc (Obj.cells #[Value.bool el.low.neg, Value.string el.low.num, Value.string el.low.den, Value.bool el.high.neg, Value.string el.high.num, Value.string el.high.den] 26) := ⟨_, rfl⟩
        have hb : Below wr.heap.size wr W6_0 := by rw [hW6_0]; exact (Below.refl _ _).alloc (Nat.le_refl _) _
        have hzW6_0 : wr.heap.size = B6 := by rw [hB6]
        have hlW6_0 : IvAt (B6) el W6_0 := by rw [← hzW6_0, hW6_0]; exact ⟨heap_lastM _ _⟩
        have D51 := Lib.hid (hB.out.trans (hb.mono hB.out.size))
        have z_51 := Lib.hid (hz.out.bel hb)
        have f_51 := Lib.hid (hf.out.bel hb)
        clear hB hz hf
        clear hb
        have e_51 := Lib.hid hlW6_0
        clear hlW6_0
        rw [← hW6_0]
        simp only [← hB6]
        have HW6_0 := Lib.hid hW6_0
        clear hW6_0 hzW6_0
        have HB6 := Lib.hid hB6
        clear hB6
        have hN : Hid (B1 < B6 ∧ B1 + 1 < B6) := Lib.hid (by have h1 := HN1.out; have h2 := HN2.out; have h3 := HB6.out; exact ⟨by omega, by omega⟩)
        have fc0 := f_51.out.c0
        have fc1 := f_51.out.c1
        have fc2 := f_51.out.c2
        have fc3 := f_51.out.c3
        have fc4 := f_51.out.c4
        have fc5 := f_51.out.c5
        have ec0 := e_51.out.c0
        have ec1 := e_51.out.c1
        have ec2 := e_51.out.c2
        have ec3 := e_51.out.c3
        have ec4 := e_51.out.c4
        have ec5 := e_51.out.c5
        have hcf := HF.out.enter el fd
        go_wp2_with fail
        clear fc0 fc1 fc2 fc3 fc4 fc5 ec0 ec1 ec2 ec3 ec4 ec5 hcf
        refine (HF.out.calls el fd _).mono ?_
        rintro e v52 ⟨rfl, hb⟩
        have D52 := Lib.hid (D51.out.trans (hb.mono D51.out.size))
        have z_52 := Lib.hid (z_51.out.bel hb)
        have f_52 := Lib.hid (f_51.out.bel hb)
        have e_52 := Lib.hid (e_51.out.bel hb)
        clear D51 z_51 f_51 e_51
        clear hb
        rcases Bool.eq_false_or_eq_true (bf el fd) with hbf | hbf
        ·
          rw [hbf]; have HBF := Lib.hid hbf; clear hbf
          have hle := HLE.out
          have fc0 := f_52.out.c0
          have ff0 := f_52.out.fz 0
          have fc1 := f_52.out.c1
          have ff1 := f_52.out.fz 1
          have fc2 := f_52.out.c2
          have ff2 := f_52.out.fz 2
          have fc3 := f_52.out.c3
          have ff3 := f_52.out.fz 3
          have fc4 := f_52.out.c4
          have ff4 := f_52.out.fz 4
          have fc5 := f_52.out.c5
          have ff5 := f_52.out.fz 5
          have fz := blk_lt f_52.out.cells
          have ec0 := e_52.out.c0
          have ef0 := e_52.out.fz 0
          have ec1 := e_52.out.c1
          have ef1 := e_52.out.fz 1
          have ec2 := e_52.out.c2
          have ef2 := e_52.out.fz 2
          have ec3 := e_52.out.c3
          have ef3 := e_52.out.fz 3
          have ec4 := e_52.out.c4
          have ef4 := e_52.out.fz 4
          have ec5 := e_52.out.c5
          have ef5 := e_52.out.fz 5
          have ez := blk_lt e_52.out.cells
          go_upto_region 7 with fail
          obtain ⟨X53, hX53⟩ : ∃ W, W = ((((((((((((v52).setCell ⟨B1 + 1, 0, none⟩ (.bool el.low.neg))).setCell ⟨B1 + 1, 1, none⟩ (.string el.low.num))).setCell ⟨B1 + 1, 2, none⟩ (.string el.low.den))).setCell ⟨B1 + 1, 3, none⟩ (.bool el.high.neg))).setCell ⟨B1 + 1, 4, none⟩ (.string el.high.num))).setCell ⟨B1 + 1, 5, none⟩ (.string el.high.den)) := ⟨_, rfl⟩
          have hbes : Bes (B1 + 1) v52 X53 := by rw [hX53]; exact ((((((Bes.set _ (B1 + 1) 0 _).trans (Bes.set _ (B1 + 1) 1 _)).trans (Bes.set _ (B1 + 1) 2 _)).trans (Bes.set _ (B1 + 1) 3 _)).trans (Bes.set _ (B1 + 1) 4 _)).trans (Bes.set _ (B1 + 1) 5 _))
          have D53 : Hid (Below w.heap.size w X53) := Lib.hid (by rw [hX53]; exact ((((((D52.out.setCell (p := ⟨B1 + 1, 0, none⟩) hle _).setCell (p := ⟨B1 + 1, 1, none⟩) hle _).setCell (p := ⟨B1 + 1, 2, none⟩) hle _).setCell (p := ⟨B1 + 1, 3, none⟩) hle _).setCell (p := ⟨B1 + 1, 4, none⟩) hle _).setCell (p := ⟨B1 + 1, 5, none⟩) hle _))
          have z_53 := Lib.hid (z_52.out.bes hbes (by have := hN.out; omega))
          have f_53 : Hid (IvAt (B1 + 1) el X53) := Lib.hid (by rw [hX53]; exact f_52.out.set el)
          have e_53 := Lib.hid (e_52.out.bes hbes (by have := hN.out; omega))
          clear hbes D52 z_52 f_52 e_52
          rw [← hX53]
          have HX53 := Lib.hid hX53; clear hX53
          clear fc0 ff0 fc1 ff1 fc2 ff2 fc3 ff3 fc4 ff4 fc5 ff5 fz ec0 ef0 ec1 ef1 ec2 ef2 ec3 ef3 ec4 ef4 ec5 ef5 ez
          clear hle
          go_wp2_with fail
          go_roundw
          case rel => exact ⟨k + 1, by omega, by go_num, D53, z_53, Lib.hid (by rw [show sel noI bf (l.take (k + 1)) = el by rw [HS.out, decide_eq_false H0.out, HBF.out]; rfl]; exact f_53.out)⟩
          case measure => simp [intOf]; omega
        ·
          rw [hbf]; have HBF := Lib.hid hbf; clear hbf
          go_wp2_with fail
          go_roundw
          case rel => exact ⟨k + 1, by omega, by go_num, D52, z_52, Lib.hid (by rw [show sel noI bf (l.take (k + 1)) = fd by rw [HS.out, decide_eq_false H0.out, HBF.out]; rfl]; exact f_52.out)⟩
          case measure => simp [intOf]; omega
    ·
      have hfe : fd = sel noI bf l := by rw [hfd, List.take_of_length_le (by omega)]
      have HFE := Lib.hid hfe; clear hfe hfd
      have hle : w.heap.size ≤ B1 := by have := HB1.out; omega
      have fc0 := hf.out.c0
      have fc1 := hf.out.c1
      have fc2 := hf.out.c2
      have fc3 := hf.out.c3
      have fc4 := hf.out.c4
      have fc5 := hf.out.c5
      have zc0 := hz.out.c0
      have zf0 := hz.out.fz 0
      have zc1 := hz.out.c1
      have zf1 := hz.out.fz 1
      have zc2 := hz.out.c2
      have zf2 := hz.out.fz 2
      have zc3 := hz.out.c3
      have zf3 := hz.out.fz 3
      have zc4 := hz.out.c4
      have zf4 := hz.out.fz 4
      have zc5 := hz.out.c5
      have zf5 := hz.out.fz 5
      go_wp2_with fail
      (try simp only [Exit.inBlock, Exit.then])
      refine bodyPost_ret (results_iv1 rfl _ _ B1 fd rfl (hz.out.set fd)) rfl ?_; rw [← HFE.out]; exact ⟨rfl, ((((((hB.out.setCell (p := ⟨B1, 0, none⟩) hle _).setCell (p := ⟨B1, 1, none⟩) hle _).setCell (p := ⟨B1, 2, none⟩) hle _).setCell (p := ⟨B1, 3, none⟩) hle _).setCell (p := ⟨B1, 4, none⟩) hle _).setCell (p := ⟨B1, 5, none⟩) hle _)⟩
end Go.Proofs.YtbcoblpnihdhgaaGreatDoor

/-
  The program's interval package: Meet and Hull.
-/
set_option linter.unusedVariables false
set_option maxRecDepth 100000
namespace Go.Proofs.YtbcoblpnihdhgaaGreatDoor
open Go.RowKit
open Rt
theorem callMoreL : CallI 32 moreL := ⟨fun _ _ _ => Tryz.call32 _ _, fun x y w => pmeet1_any x y w⟩
theorem callLessH : CallI 33 lessH := ⟨fun _ _ _ => Tryz.call33 _ _, fun x y w => pmeet2_any x y w⟩
theorem callLessL : CallI 30 lessL := ⟨fun _ _ _ => Tryz.call30 _ _, fun x y w => phull1_any x y w⟩
theorem callMoreH : CallI 31 moreH := ⟨fun _ _ _ => Tryz.call31 _ _, fun x y w => phull2_any x y w⟩
theorem run_low5 (i : Iv) (w : World) : (Instr.field 26 (.agg #[.bool i.low.neg, .string i.low.num, .string i.low.den, .bool i.high.neg, .string i.high.num, .string i.high.den]) 0).run Tryz.prog w = .ok (.agg #[.bool i.low.neg, .string i.low.num, .string i.low.den]) w := by
  first | kernel_rfl | rfl
theorem run_high5 (i : Iv) (w : World) : (Instr.field 26 (.agg #[.bool i.low.neg, .string i.low.num, .string i.low.den, .bool i.high.neg, .string i.high.num, .string i.high.den]) 1).run Tryz.prog w = .ok (.agg #[.bool i.high.neg, .string i.high.num, .string i.high.den]) w := by
  first | kernel_rfl | rfl
theorem all_next {l : List Iv} {k : Nat} (hx : ∀ j (hj : j < l.length), j < k → okI l[j] = true) (hlt : k < l.length) (h : okI l[k] = true) : ∀ j (hj : j < l.length), j < k + 1 → okI l[j] = true := by
  intro j hj h'
  by_cases e : j = k
  · subst e; exact h
  · exact hx j hj (by omega)
theorem pair_in (a b : Iv) (w : World) : IvsIn (w.alloc (Obj.cells #[Value.bool a.low.neg, Value.string a.low.num, Value.string a.low.den, Value.bool a.high.neg, Value.string a.high.num, Value.string a.high.den, Value.bool b.low.neg, Value.string b.low.num, Value.string b.low.den, Value.bool b.high.neg, Value.string b.high.num, Value.string b.high.den] 26)) w.heap.size 0 [a, b] := by
  intro j hj k hk
  match j, hj with
  | 0, _ => match k, hk with
    | 0, _ => simp [ivCells]
    | 1, _ => simp [ivCells]
    | 2, _ => simp [ivCells]
    | 3, _ => simp [ivCells]
    | 4, _ => simp [ivCells]
    | 5, _ => simp [ivCells]
  | 1, _ => match k, hk with
    | 0, _ => simp [ivCells]
    | 1, _ => simp [ivCells]
    | 2, _ => simp [ivCells]
    | 3, _ => simp [ivCells]
    | 4, _ => simp [ivCells]
    | 5, _ => simp [ivCells]
theorem pfirst2_any (F : Nat) (bf : Iv → Iv → Bool) (B : Nat) (a b : Iv) (w : World) (hF : CallI F bf) (hc : IvsIn w B 0 [a, b]) :
    Calls Tryz.prog 29 #[.slice (some ⟨B, 0, none⟩) 2 2, .func (.func F) #[] #[]] w (GivesV (sel noI bf [a, b]) w) :=
  pfirstI_any F bf B 0 2 [a, b] w hF (show 0 < 2 by decide) (show 2 ≤ 2 by decide) (show 2 ≤ maxLen by decide) hc
set_option maxHeartbeats 40000000 in
theorem pimeet_any (a b : Iv) (w : World) : Calls Tryz.prog 12 #[.agg #[.bool a.low.neg, .string a.low.num, .string a.low.den, .bool a.high.neg, .string a.high.num, .string a.high.den], .agg #[.bool b.low.neg, .string b.low.num, .string b.low.den, .bool b.high.neg, .string b.high.num, .string b.high.den]] w (GivesM (meetI a b) w) := by
  obtain ⟨t, ht⟩ : ∃ t, t = meetI a b := ⟨_, rfl⟩
  rw [← ht]
  have D0 := Lib.hid (Below.refl w.heap.size w)
  by_cases ha : okI a = true
  case neg =>
    have ha := Bool.eq_false_iff.2 ha
    have hva : Hid (∀ w, Calls Tryz.prog 14 #[.agg #[.bool a.low.neg, .string a.low.num, .string a.low.den, .bool a.high.neg, .string a.high.num, .string a.high.den]] w (GivesB false w)) := Lib.hid (fun w => by have := pivalid_any a w; rwa [ha] at this)
    have HTT : Hid (t = (noI, false)) := Lib.hid (by rw [ht]; unfold meetI; rw [ha]; rfl)
    clear ht ha
    go_enter Tryz.func12, Tryz.ntmps12
    go_wp2_with fail
    obtain ⟨B1, hB1⟩ : ∃ B, B = w.heap.size := ⟨_, rfl⟩
    obtain ⟨W1_0, hW1_0⟩ : ∃ W, W = w.alloc (Obj.cells #[Value.bool a.low.neg, Value.string a.low.num, Value.string a.low.den, Value.bool a.high.neg, Value.string a.high.num, Value.string a.high.den] 26) := ⟨_, rfl⟩
    have hb : Below w.heap.size w W1_0 := by rw [hW1_0]; exact (Below.refl _ _).alloc (Nat.le_refl _) _
    have hzW1_0 : w.heap.size = B1 := by rw [hB1]
    have hlW1_0 : IvAt (B1) a W1_0 := by rw [← hzW1_0, hW1_0]; exact ⟨heap_lastM _ _⟩
    have D1 := Lib.hid (D0.out.trans (hb.mono D0.out.size))
    clear hb
    have a_1 := Lib.hid hlW1_0
    clear hlW1_0
    obtain ⟨W1_1, hW1_1⟩ : ∃ W, W = W1_0.alloc (Obj.cells #[Value.bool b.low.neg, Value.string b.low.num, Value.string b.low.den, Value.bool b.high.neg, Value.string b.high.num, Value.string b.high.den] 26) := ⟨_, rfl⟩
    have hb : Below W1_0.heap.size W1_0 W1_1 := by rw [hW1_1]; exact (Below.refl _ _).alloc (Nat.le_refl _) _
    have hzW1_1 : W1_0.heap.size = B1 + 1 := by rw [hW1_0]; simp [hzW1_0]
    have hlW1_1 : IvAt (B1 + 1) b W1_1 := by rw [← hzW1_1, hW1_1]; exact ⟨heap_lastM _ _⟩
    have D2 := Lib.hid (D1.out.trans (hb.mono D1.out.size))
    have a_2 := Lib.hid (a_1.out.bel hb)
    clear D1 a_1
    clear hb
    have b_2 := Lib.hid hlW1_1
    clear hlW1_1
    obtain ⟨W1_2, hW1_2⟩ : ∃ W, W = W1_1.alloc (Obj.cells #[Value.bool false, Value.string ⟨#[]⟩, Value.string ⟨#[]⟩, Value.bool false, Value.string ⟨#[]⟩, Value.string ⟨#[]⟩] 26) := ⟨_, rfl⟩
    have hb : Below W1_1.heap.size W1_1 W1_2 := by rw [hW1_2]; exact (Below.refl _ _).alloc (Nat.le_refl _) _
    have hzW1_2 : W1_1.heap.size = B1 + 1 + 1 := by rw [hW1_1]; simp [hzW1_1]
    have hlW1_2 : IvAt (B1 + 1 + 1) noI W1_2 := by rw [← hzW1_2, hW1_2]; exact ⟨heap_lastM _ _⟩
    have D3 := Lib.hid (D2.out.trans (hb.mono D2.out.size))
    have a_3 := Lib.hid (a_2.out.bel hb)
    have b_3 := Lib.hid (b_2.out.bel hb)
    clear D2 a_2 b_2
    clear hb
    have z_3 := Lib.hid hlW1_2
    clear hlW1_2
    rw [← hW1_0]
    rw [← hW1_1]
    rw [← hW1_2]
    simp only [← hB1]
    have HW1_0 := Lib.hid hW1_0
    clear hW1_0 hzW1_0
    have HW1_1 := Lib.hid hW1_1
    clear hW1_1 hzW1_1
    have HW1_2 := Lib.hid hW1_2
    clear hW1_2 hzW1_2
    have HB1 := Lib.hid hB1
    clear hB1
    have ac0 := a_3.out.c0
    have ac1 := a_3.out.c1
    have ac2 := a_3.out.c2
    have ac3 := a_3.out.c3
    have ac4 := a_3.out.c4
    have ac5 := a_3.out.c5
    have bc0 := b_3.out.c0
    have bc1 := b_3.out.c1
    have bc2 := b_3.out.c2
    have bc3 := b_3.out.c3
    have bc4 := b_3.out.c4
    have bc5 := b_3.out.c5
    go_wp2_with fail
    clear ac0 ac1 ac2 ac3 ac4 ac5 bc0 bc1 bc2 bc3 bc4 bc5
    refine (hva.out _).mono ?_
    rintro e v4 ⟨rfl, hb⟩
    have D4 := Lib.hid (D3.out.trans (hb.mono D3.out.size))
    have a_4 := Lib.hid (a_3.out.bel hb)
    have b_4 := Lib.hid (b_3.out.bel hb)
    have z_4 := Lib.hid (z_3.out.bel hb)
    clear D3 a_3 b_3 z_3
    clear hb
    have zc0 := z_4.out.c0
    have zf0 := z_4.out.fz 0
    have zc1 := z_4.out.c1
    have zf1 := z_4.out.fz 1
    have zc2 := z_4.out.c2
    have zf2 := z_4.out.fz 2
    have zc3 := z_4.out.c3
    have zf3 := z_4.out.fz 3
    have zc4 := z_4.out.c4
    have zf4 := z_4.out.fz 4
    have zc5 := z_4.out.c5
    have zf5 := z_4.out.fz 5
    go_wp2_with fail
    (try simp only [Exit.inBlock, Exit.then])
    refine bodyPost_ret (results_iv rfl _ _ (B1 + 1 + 1) noI _ rfl rfl (z_4.out.set noI)) rfl ?_; rw [HTT.out]; exact ⟨rfl, ((((((D4.out.setCell (p := ⟨B1 + 1 + 1, 0, none⟩) (by have := HB1.out; show w.heap.size ≤ B1 + 1 + 1; omega) _).setCell (p := ⟨B1 + 1 + 1, 1, none⟩) (by have := HB1.out; show w.heap.size ≤ B1 + 1 + 1; omega) _).setCell (p := ⟨B1 + 1 + 1, 2, none⟩) (by have := HB1.out; show w.heap.size ≤ B1 + 1 + 1; omega) _).setCell (p := ⟨B1 + 1 + 1, 3, none⟩) (by have := HB1.out; show w.heap.size ≤ B1 + 1 + 1; omega) _).setCell (p := ⟨B1 + 1 + 1, 4, none⟩) (by have := HB1.out; show w.heap.size ≤ B1 + 1 + 1; omega) _).setCell (p := ⟨B1 + 1 + 1, 5, none⟩) (by have := HB1.out; show w.heap.size ≤ B1 + 1 + 1; omega) _)⟩
  have hva : Hid (∀ w, Calls Tryz.prog 14 #[.agg #[.bool a.low.neg, .string a.low.num, .string a.low.den, .bool a.high.neg, .string a.high.num, .string a.high.den]] w (GivesB true w)) := Lib.hid (fun w => by have := pivalid_any a w; rwa [ha] at this)
  by_cases hb : okI b = true
  case neg =>
    have hb := Bool.eq_false_iff.2 hb
    have hvb : Hid (∀ w, Calls Tryz.prog 14 #[.agg #[.bool b.low.neg, .string b.low.num, .string b.low.den, .bool b.high.neg, .string b.high.num, .string b.high.den]] w (GivesB false w)) := Lib.hid (fun w => by have := pivalid_any b w; rwa [hb] at this)
    have HTT : Hid (t = (noI, false)) := Lib.hid (by rw [ht]; unfold meetI; rw [ha, hb]; rfl)
    clear ht ha hb
    go_enter Tryz.func12, Tryz.ntmps12
    go_wp2_with fail
    obtain ⟨B1, hB1⟩ : ∃ B, B = w.heap.size := ⟨_, rfl⟩
    obtain ⟨W1_0, hW1_0⟩ : ∃ W, W = w.alloc (Obj.cells #[Value.bool a.low.neg, Value.string a.low.num, Value.string a.low.den, Value.bool a.high.neg, Value.string a.high.num, Value.string a.high.den] 26) := ⟨_, rfl⟩
    have hb : Below w.heap.size w W1_0 := by rw [hW1_0]; exact (Below.refl _ _).alloc (Nat.le_refl _) _
    have hzW1_0 : w.heap.size = B1 := by rw [hB1]
    have hlW1_0 : IvAt (B1) a W1_0 := by rw [← hzW1_0, hW1_0]; exact ⟨heap_lastM _ _⟩
    have D1 := Lib.hid (D0.out.trans (hb.mono D0.out.size))
    clear hb
    have a_1 := Lib.hid hlW1_0
    clear hlW1_0
    obtain ⟨W1_1, hW1_1⟩ : ∃ W, W = W1_0.alloc (Obj.cells #[Value.bool b.low.neg, Value.string b.low.num, Value.string b.low.den, Value.bool b.high.neg, Value.string b.high.num, Value.string b.high.den] 26) := ⟨_, rfl⟩
    have hb : Below W1_0.heap.size W1_0 W1_1 := by rw [hW1_1]; exact (Below.refl _ _).alloc (Nat.le_refl _) _
    have hzW1_1 : W1_0.heap.size = B1 + 1 := by rw [hW1_0]; simp [hzW1_0]
    have hlW1_1 : IvAt (B1 + 1) b W1_1 := by rw [← hzW1_1, hW1_1]; exact ⟨heap_lastM _ _⟩
    have D2 := Lib.hid (D1.out.trans (hb.mono D1.out.size))
    have a_2 := Lib.hid (a_1.out.bel hb)
    clear D1 a_1
    clear hb
    have b_2 := Lib.hid hlW1_1
    clear hlW1_1
    obtain ⟨W1_2, hW1_2⟩ : ∃ W, W = W1_1.alloc (Obj.cells #[Value.bool false, Value.string ⟨#[]⟩, Value.string ⟨#[]⟩, Value.bool false, Value.string ⟨#[]⟩, Value.string ⟨#[]⟩] 26) := ⟨_, rfl⟩
    have hb : Below W1_1.heap.size W1_1 W1_2 := by rw [hW1_2]; exact (Below.refl _ _).alloc (Nat.le_refl _) _
    have hzW1_2 : W1_1.heap.size = B1 + 1 + 1 := by rw [hW1_1]; simp [hzW1_1]
    have hlW1_2 : IvAt (B1 + 1 + 1) noI W1_2 := by rw [← hzW1_2, hW1_2]; exact ⟨heap_lastM _ _⟩
    have D3 := Lib.hid (D2.out.trans (hb.mono D2.out.size))
    have a_3 := Lib.hid (a_2.out.bel hb)
    have b_3 := Lib.hid (b_2.out.bel hb)
    clear D2 a_2 b_2
    clear hb
    have z_3 := Lib.hid hlW1_2
    clear hlW1_2
    rw [← hW1_0]
    rw [← hW1_1]
    rw [← hW1_2]
    simp only [← hB1]
    have HW1_0 := Lib.hid hW1_0
    clear hW1_0 hzW1_0
    have HW1_1 := Lib.hid hW1_1
    clear hW1_1 hzW1_1
    have HW1_2 := Lib.hid hW1_2
    clear hW1_2 hzW1_2
    have HB1 := Lib.hid hB1
    clear hB1
    have ac0 := a_3.out.c0
    have ac1 := a_3.out.c1
    have ac2 := a_3.out.c2
    have ac3 := a_3.out.c3
    have ac4 := a_3.out.c4
    have ac5 := a_3.out.c5
    have bc0 := b_3.out.c0
    have bc1 := b_3.out.c1
    have bc2 := b_3.out.c2
    have bc3 := b_3.out.c3
    have bc4 := b_3.out.c4
    have bc5 := b_3.out.c5
    go_wp2_with fail
    clear ac0 ac1 ac2 ac3 ac4 ac5 bc0 bc1 bc2 bc3 bc4 bc5
    refine (hva.out _).mono ?_
    rintro e v4 ⟨rfl, hb⟩
    have D4 := Lib.hid (D3.out.trans (hb.mono D3.out.size))
    have a_4 := Lib.hid (a_3.out.bel hb)
    have b_4 := Lib.hid (b_3.out.bel hb)
    have z_4 := Lib.hid (z_3.out.bel hb)
    clear D3 a_3 b_3 z_3
    clear hb
    have ac0 := a_4.out.c0
    have ac1 := a_4.out.c1
    have ac2 := a_4.out.c2
    have ac3 := a_4.out.c3
    have ac4 := a_4.out.c4
    have ac5 := a_4.out.c5
    have bc0 := b_4.out.c0
    have bc1 := b_4.out.c1
    have bc2 := b_4.out.c2
    have bc3 := b_4.out.c3
    have bc4 := b_4.out.c4
    have bc5 := b_4.out.c5
    go_wp2_with fail
    clear ac0 ac1 ac2 ac3 ac4 ac5 bc0 bc1 bc2 bc3 bc4 bc5
    refine (hvb.out _).mono ?_
    rintro e v5 ⟨rfl, hb⟩
    have D5 := Lib.hid (D4.out.trans (hb.mono D4.out.size))
    have a_5 := Lib.hid (a_4.out.bel hb)
    have b_5 := Lib.hid (b_4.out.bel hb)
    have z_5 := Lib.hid (z_4.out.bel hb)
    clear D4 a_4 b_4 z_4
    clear hb
    have zc0 := z_5.out.c0
    have zf0 := z_5.out.fz 0
    have zc1 := z_5.out.c1
    have zf1 := z_5.out.fz 1
    have zc2 := z_5.out.c2
    have zf2 := z_5.out.fz 2
    have zc3 := z_5.out.c3
    have zf3 := z_5.out.fz 3
    have zc4 := z_5.out.c4
    have zf4 := z_5.out.fz 4
    have zc5 := z_5.out.c5
    have zf5 := z_5.out.fz 5
    go_wp2_with fail
    (try simp only [Exit.inBlock, Exit.then])
    refine bodyPost_ret (results_iv rfl _ _ (B1 + 1 + 1) noI _ rfl rfl (z_5.out.set noI)) rfl ?_; rw [HTT.out]; exact ⟨rfl, ((((((D5.out.setCell (p := ⟨B1 + 1 + 1, 0, none⟩) (by have := HB1.out; show w.heap.size ≤ B1 + 1 + 1; omega) _).setCell (p := ⟨B1 + 1 + 1, 1, none⟩) (by have := HB1.out; show w.heap.size ≤ B1 + 1 + 1; omega) _).setCell (p := ⟨B1 + 1 + 1, 2, none⟩) (by have := HB1.out; show w.heap.size ≤ B1 + 1 + 1; omega) _).setCell (p := ⟨B1 + 1 + 1, 3, none⟩) (by have := HB1.out; show w.heap.size ≤ B1 + 1 + 1; omega) _).setCell (p := ⟨B1 + 1 + 1, 4, none⟩) (by have := HB1.out; show w.heap.size ≤ B1 + 1 + 1; omega) _).setCell (p := ⟨B1 + 1 + 1, 5, none⟩) (by have := HB1.out; show w.heap.size ≤ B1 + 1 + 1; omega) _)⟩
  have hvb : Hid (∀ w, Calls Tryz.prog 14 #[.agg #[.bool b.low.neg, .string b.low.num, .string b.low.den, .bool b.high.neg, .string b.high.num, .string b.high.den]] w (GivesB true w)) := Lib.hid (fun w => by have := pivalid_any b w; rwa [hb] at this)
  obtain ⟨s1, hs1⟩ : ∃ s, s = sel noI moreL [a, b] := ⟨_, rfl⟩
  obtain ⟨s2, hs2⟩ : ∃ s, s = sel noI lessH [a, b] := ⟨_, rfl⟩
  have hcut : cutI a b = ⟨s1.low, s2.high⟩ := by rw [hs1, hs2]; exact (cutI_sel a b).symm
  have ht2 : t = if okI ⟨s1.low, s2.high⟩ then (⟨s1.low, s2.high⟩, true) else (noI, false) := by rw [ht, ← hcut]; unfold meetI; rw [ha, hb]; rfl
  have HS1 := Lib.hid hs1
  have HS2 := Lib.hid hs2
  clear ht ha hb hcut hs1 hs2
  have hvm : Hid (∀ w, Calls Tryz.prog 14 #[.agg #[.bool s1.low.neg, .string s1.low.num, .string s1.low.den, .bool s2.high.neg, .string s2.high.num, .string s2.high.den]] w (GivesB (okI ⟨s1.low, s2.high⟩) w)) := Lib.hid (fun w => pivalid_any ⟨s1.low, s2.high⟩ w)
  rcases Bool.eq_false_or_eq_true (okI ⟨s1.low, s2.high⟩) with ho | ho
  ·
    rw [ho] at hvm
    have HTT : Hid (t = (⟨s1.low, s2.high⟩, true)) := Lib.hid (by rw [ht2, ho]; rfl)
    clear ht2 ho
    go_enter Tryz.func12, Tryz.ntmps12
    go_wp2_with fail
    obtain ⟨B1, hB1⟩ : ∃ B, B = w.heap.size := ⟨_, rfl⟩
    obtain ⟨W1_0, hW1_0⟩ : ∃ W, W = w.alloc (Obj.cells #[Value.bool a.low.neg, Value.string a.low.num, Value.string a.low.den, Value.bool a.high.neg, Value.string a.high.num, Value.string a.high.den] 26) := ⟨_, rfl⟩
    have hb : Below w.heap.size w W1_0 := by rw [hW1_0]; exact (Below.refl _ _).alloc (Nat.le_refl _) _
    have hzW1_0 : w.heap.size = B1 := by rw [hB1]
    have hlW1_0 : IvAt (B1) a W1_0 := by rw [← hzW1_0, hW1_0]; exact ⟨heap_lastM _ _⟩
    have D1 := Lib.hid (D0.out.trans (hb.mono D0.out.size))
    clear hb
    have a_1 := Lib.hid hlW1_0
    clear hlW1_0
    obtain ⟨W1_1, hW1_1⟩ : ∃ W, W = W1_0.alloc (Obj.cells #[Value.bool b.low.neg, Value.string b.low.num, Value.string b.low.den, Value.bool b.high.neg, Value.string b.high.num, Value.string b.high.den] 26) := ⟨_, rfl⟩
    have hb : Below W1_0.heap.size W1_0 W1_1 := by rw [hW1_1]; exact (Below.refl _ _).alloc (Nat.le_refl _) _
    have hzW1_1 : W1_0.heap.size = B1 + 1 := by rw [hW1_0]; simp [hzW1_0]
    have hlW1_1 : IvAt (B1 + 1) b W1_1 := by rw [← hzW1_1, hW1_1]; exact ⟨heap_lastM _ _⟩
    have D2 := Lib.hid (D1.out.trans (hb.mono D1.out.size))
    have a_2 := Lib.hid (a_1.out.bel hb)
    clear D1 a_1
    clear hb
    have b_2 := Lib.hid hlW1_1
    clear hlW1_1
    obtain ⟨W1_2, hW1_2⟩ : ∃ W, W = W1_1.alloc (Obj.cells #[Value.bool false, Value.string ⟨#[]⟩, Value.string ⟨#[]⟩, Value.bool false, Value.string ⟨#[]⟩, Value.string ⟨#[]⟩] 26) := ⟨_, rfl⟩
    have hb : Below W1_1.heap.size W1_1 W1_2 := by rw [hW1_2]; exact (Below.refl _ _).alloc (Nat.le_refl _) _
    have hzW1_2 : W1_1.heap.size = B1 + 1 + 1 := by rw [hW1_1]; simp [hzW1_1]
    have hlW1_2 : IvAt (B1 + 1 + 1) noI W1_2 := by rw [← hzW1_2, hW1_2]; exact ⟨heap_lastM _ _⟩
    have D3 := Lib.hid (D2.out.trans (hb.mono D2.out.size))
    have a_3 := Lib.hid (a_2.out.bel hb)
    have b_3 := Lib.hid (b_2.out.bel hb)
    clear D2 a_2 b_2
    clear hb
    have z_3 := Lib.hid hlW1_2
    clear hlW1_2
    rw [← hW1_0]
    rw [← hW1_1]
    rw [← hW1_2]
    simp only [← hB1]
    have HW1_0 := Lib.hid hW1_0
    clear hW1_0 hzW1_0
    have HW1_1 := Lib.hid hW1_1
    clear hW1_1 hzW1_1
    have HW1_2 := Lib.hid hW1_2
    clear hW1_2 hzW1_2
    have HB1 := Lib.hid hB1
    clear hB1
    have ac0 := a_3.out.c0
    have ac1 := a_3.out.c1
    have ac2 := a_3.out.c2
    have ac3 := a_3.out.c3
    have ac4 := a_3.out.c4
    have ac5 := a_3.out.c5
    have bc0 := b_3.out.c0
    have bc1 := b_3.out.c1
    have bc2 := b_3.out.c2
    have bc3 := b_3.out.c3
    have bc4 := b_3.out.c4
    have bc5 := b_3.out.c5
    go_wp2_with fail
    clear ac0 ac1 ac2 ac3 ac4 ac5 bc0 bc1 bc2 bc3 bc4 bc5
    refine (hva.out _).mono ?_
    rintro e v4 ⟨rfl, hb⟩
    have D4 := Lib.hid (D3.out.trans (hb.mono D3.out.size))
    have a_4 := Lib.hid (a_3.out.bel hb)
    have b_4 := Lib.hid (b_3.out.bel hb)
    have z_4 := Lib.hid (z_3.out.bel hb)
    clear D3 a_3 b_3 z_3
    clear hb
    have ac0 := a_4.out.c0
    have ac1 := a_4.out.c1
    have ac2 := a_4.out.c2
    have ac3 := a_4.out.c3
    have ac4 := a_4.out.c4
    have ac5 := a_4.out.c5
    have bc0 := b_4.out.c0
    have bc1 := b_4.out.c1
    have bc2 := b_4.out.c2
    have bc3 := b_4.out.c3
    have bc4 := b_4.out.c4
    have bc5 := b_4.out.c5
    go_wp2_with fail
    clear ac0 ac1 ac2 ac3 ac4 ac5 bc0 bc1 bc2 bc3 bc4 bc5
    refine (hvb.out _).mono ?_
    rintro e v5 ⟨rfl, hb⟩
    have D5 := Lib.hid (D4.out.trans (hb.mono D4.out.size))
    have a_5 := Lib.hid (a_4.out.bel hb)
    have b_5 := Lib.hid (b_4.out.bel hb)
    have z_5 := Lib.hid (z_4.out.bel hb)
    clear D4 a_4 b_4 z_4
    clear hb
    have ac0 := a_5.out.c0
    have ac1 := a_5.out.c1
    have ac2 := a_5.out.c2
    have ac3 := a_5.out.c3
    have ac4 := a_5.out.c4
    have ac5 := a_5.out.c5
    have az := blk_lt a_5.out.cells
    have bc0 := b_5.out.c0
    have bc1 := b_5.out.c1
    have bc2 := b_5.out.c2
    have bc3 := b_5.out.c3
    have bc4 := b_5.out.c4
    have bc5 := b_5.out.c5
    have bz := blk_lt b_5.out.cells
    go_wp2_with fail
    clear ac0 ac1 ac2 ac3 ac4 ac5 az bc0 bc1 bc2 bc3 bc4 bc5 bz
    obtain ⟨B2, hB2⟩ : ∃ B, B = v5.heap.size := ⟨_, rfl⟩
    obtain ⟨W2_0, hW2_0⟩ : ∃ W, W = v5.alloc (Obj.cells #[Value.bool a.low.neg, Value.string a.low.num, Value.string a.low.den, Value.bool a.high.neg, Value.string a.high.num, Value.string a.high.den, Value.bool b.low.neg, Value.string b.low.num, Value.string b.low.den, Value.bool b.high.neg, Value.string b.high.num, Value.string b.high.den] 26) := ⟨_, rfl⟩
    have hb : Below v5.heap.size v5 W2_0 := by rw [hW2_0]; exact (Below.refl _ _).alloc (Nat.le_refl _) _
    have hzW2_0 : v5.heap.size = B2 := by rw [hB2]
    have D6 := Lib.hid (D5.out.trans (hb.mono D5.out.size))
    have a_6 := Lib.hid (a_5.out.bel hb)
    have b_6 := Lib.hid (b_5.out.bel hb)
    have z_6 := Lib.hid (z_5.out.bel hb)
    clear D5 a_5 b_5 z_5
    clear hb
    rw [← hW2_0]
    simp only [← hB2]
    have HW2_0 := Lib.hid hW2_0
    clear hW2_0 hzW2_0
    have HB2 := Lib.hid hB2
    clear hB2
    have hrow : IvsIn W2_0 B2 0 [a, b] := by rw [HW2_0.out, HB2.out]; exact pair_in a b _
    have HROW := Lib.hid hrow; clear hrow
    refine (pfirst2_any _ moreL B2 a b _ callMoreL HROW.out).mono ?_
    rintro e v7 ⟨rfl, hb⟩
    have HROWB : Hid (IvsIn v7 B2 0 [a, b]) := Lib.hid (HROW.out.bel hb)
    have D7 := Lib.hid (D6.out.trans (hb.mono D6.out.size))
    have a_7 := Lib.hid (a_6.out.bel hb)
    have b_7 := Lib.hid (b_6.out.bel hb)
    have z_7 := Lib.hid (z_6.out.bel hb)
    clear D6 a_6 b_6 z_6
    clear hb
    simp only [← HS1.out]
    have zl := run_low5 s1
    go_wp2_with fail
    clear zl
    have hrow2 : IvsIn v7 B2 0 [a, b] := HROWB.out
    refine (pfirst2_any _ lessH B2 a b _ callLessH hrow2).mono ?_
    rintro e v8 ⟨rfl, hb⟩
    have D8 := Lib.hid (D7.out.trans (hb.mono D7.out.size))
    have a_8 := Lib.hid (a_7.out.bel hb)
    have b_8 := Lib.hid (b_7.out.bel hb)
    have z_8 := Lib.hid (z_7.out.bel hb)
    clear D7 a_7 b_7 z_7
    clear hb
    simp only [← HS2.out]
    clear hrow2; have zh := run_high5 s2
    go_wp2_with fail
    clear zh
    obtain ⟨B3, hB3⟩ : ∃ B, B = v8.heap.size := ⟨_, rfl⟩
    obtain ⟨W3_0, hW3_0⟩ : ∃ W, W = v8.alloc (Obj.cells #[Value.bool s1.low.neg, Value.string s1.low.num, Value.string s1.low.den, Value.bool s2.high.neg, Value.string s2.high.num, Value.string s2.high.den] 26) := ⟨_, rfl⟩
    have hb : Below v8.heap.size v8 W3_0 := by rw [hW3_0]; exact (Below.refl _ _).alloc (Nat.le_refl _) _
    have hzW3_0 : v8.heap.size = B3 := by rw [hB3]
    have hlW3_0 : IvAt (B3) (⟨s1.low, s2.high⟩ : Iv) W3_0 := by rw [← hzW3_0, hW3_0]; exact ⟨heap_lastM _ _⟩
    have D9 := Lib.hid (D8.out.trans (hb.mono D8.out.size))
    have a_9 := Lib.hid (a_8.out.bel hb)
    have b_9 := Lib.hid (b_8.out.bel hb)
    have z_9 := Lib.hid (z_8.out.bel hb)
    clear D8 a_8 b_8 z_8
    clear hb
    have m_9 := Lib.hid hlW3_0
    clear hlW3_0
    rw [← hW3_0]
    simp only [← hB3]
    have HW3_0 := Lib.hid hW3_0
    clear hW3_0 hzW3_0
    have HB3 := Lib.hid hB3
    clear hB3
    refine (hvm.out _).mono ?_
    rintro e v10 ⟨rfl, hb⟩
    have D10 := Lib.hid (D9.out.trans (hb.mono D9.out.size))
    have a_10 := Lib.hid (a_9.out.bel hb)
    have b_10 := Lib.hid (b_9.out.bel hb)
    have z_10 := Lib.hid (z_9.out.bel hb)
    have m_10 := Lib.hid (m_9.out.bel hb)
    clear D9 a_9 b_9 z_9 m_9
    clear hb
    have mc0 := m_10.out.c0
    have mc1 := m_10.out.c1
    have mc2 := m_10.out.c2
    have mc3 := m_10.out.c3
    have mc4 := m_10.out.c4
    have mc5 := m_10.out.c5
    have zc0 := z_10.out.c0
    have zf0 := z_10.out.fz 0
    have zc1 := z_10.out.c1
    have zf1 := z_10.out.fz 1
    have zc2 := z_10.out.c2
    have zf2 := z_10.out.fz 2
    have zc3 := z_10.out.c3
    have zf3 := z_10.out.fz 3
    have zc4 := z_10.out.c4
    have zf4 := z_10.out.fz 4
    have zc5 := z_10.out.c5
    have zf5 := z_10.out.fz 5
    go_wp2_with fail
    (try simp only [Exit.inBlock, Exit.then])
    refine bodyPost_ret (results_iv rfl _ _ (B1 + 1 + 1) ⟨s1.low, s2.high⟩ _ rfl rfl (z_10.out.set ⟨s1.low, s2.high⟩)) rfl ?_; rw [HTT.out]; exact ⟨rfl, ((((((D10.out.setCell (p := ⟨B1 + 1 + 1, 0, none⟩) (by have := HB1.out; show w.heap.size ≤ B1 + 1 + 1; omega) _).setCell (p := ⟨B1 + 1 + 1, 1, none⟩) (by have := HB1.out; show w.heap.size ≤ B1 + 1 + 1; omega) _).setCell (p := ⟨B1 + 1 + 1, 2, none⟩) (by have := HB1.out; show w.heap.size ≤ B1 + 1 + 1; omega) _).setCell (p := ⟨B1 + 1 + 1, 3, none⟩) (by have := HB1.out; show w.heap.size ≤ B1 + 1 + 1; omega) _).setCell (p := ⟨B1 + 1 + 1, 4, none⟩) (by have := HB1.out; show w.heap.size ≤ B1 + 1 + 1; omega) _).setCell (p := ⟨B1 + 1 + 1, 5, none⟩) (by have := HB1.out; show w.heap.size ≤ B1 + 1 + 1; omega) _)⟩
  ·
    rw [ho] at hvm
    have HTT : Hid (t = (noI, false)) := Lib.hid (by rw [ht2, ho]; rfl)
    clear ht2 ho
    go_enter Tryz.func12, Tryz.ntmps12
    go_wp2_with fail
    obtain ⟨B1, hB1⟩ : ∃ B, B = w.heap.size := ⟨_, rfl⟩
    obtain ⟨W1_0, hW1_0⟩ : ∃ W, W = w.alloc (Obj.cells #[Value.bool a.low.neg, Value.string a.low.num, Value.string a.low.den, Value.bool a.high.neg, Value.string a.high.num, Value.string a.high.den] 26) := ⟨_, rfl⟩
    have hb : Below w.heap.size w W1_0 := by rw [hW1_0]; exact (Below.refl _ _).alloc (Nat.le_refl _) _
    have hzW1_0 : w.heap.size = B1 := by rw [hB1]
    have hlW1_0 : IvAt (B1) a W1_0 := by rw [← hzW1_0, hW1_0]; exact ⟨heap_lastM _ _⟩
    have D1 := Lib.hid (D0.out.trans (hb.mono D0.out.size))
    clear hb
    have a_1 := Lib.hid hlW1_0
    clear hlW1_0
    obtain ⟨W1_1, hW1_1⟩ : ∃ W, W = W1_0.alloc (Obj.cells #[Value.bool b.low.neg, Value.string b.low.num, Value.string b.low.den, Value.bool b.high.neg, Value.string b.high.num, Value.string b.high.den] 26) := ⟨_, rfl⟩
    have hb : Below W1_0.heap.size W1_0 W1_1 := by rw [hW1_1]; exact (Below.refl _ _).alloc (Nat.le_refl _) _
    have hzW1_1 : W1_0.heap.size = B1 + 1 := by rw [hW1_0]; simp [hzW1_0]
    have hlW1_1 : IvAt (B1 + 1) b W1_1 := by rw [← hzW1_1, hW1_1]; exact ⟨heap_lastM _ _⟩
    have D2 := Lib.hid (D1.out.trans (hb.mono D1.out.size))
    have a_2 := Lib.hid (a_1.out.bel hb)
    clear D1 a_1
    clear hb
    have b_2 := Lib.hid hlW1_1
    clear hlW1_1
    obtain ⟨W1_2, hW1_2⟩ : ∃ W, W = W1_1.alloc (Obj.cells #[Value.bool false, Value.string ⟨#[]⟩, Value.string ⟨#[]⟩, Value.bool false, Value.string ⟨#[]⟩, Value.string ⟨#[]⟩] 26) := ⟨_, rfl⟩
    have hb : Below W1_1.heap.size W1_1 W1_2 := by rw [hW1_2]; exact (Below.refl _ _).alloc (Nat.le_refl _) _
    have hzW1_2 : W1_1.heap.size = B1 + 1 + 1 := by rw [hW1_1]; simp [hzW1_1]
    have hlW1_2 : IvAt (B1 + 1 + 1) noI W1_2 := by rw [← hzW1_2, hW1_2]; exact ⟨heap_lastM _ _⟩
    have D3 := Lib.hid (D2.out.trans (hb.mono D2.out.size))
    have a_3 := Lib.hid (a_2.out.bel hb)
    have b_3 := Lib.hid (b_2.out.bel hb)
    clear D2 a_2 b_2
    clear hb
    have z_3 := Lib.hid hlW1_2
    clear hlW1_2
    rw [← hW1_0]
    rw [← hW1_1]
    rw [← hW1_2]
    simp only [← hB1]
    have HW1_0 := Lib.hid hW1_0
    clear hW1_0 hzW1_0
    have HW1_1 := Lib.hid hW1_1
    clear hW1_1 hzW1_1
    have HW1_2 := Lib.hid hW1_2
    clear hW1_2 hzW1_2
    have HB1 := Lib.hid hB1
    clear hB1
    have ac0 := a_3.out.c0
    have ac1 := a_3.out.c1
    have ac2 := a_3.out.c2
    have ac3 := a_3.out.c3
    have ac4 := a_3.out.c4
    have ac5 := a_3.out.c5
    have bc0 := b_3.out.c0
    have bc1 := b_3.out.c1
    have bc2 := b_3.out.c2
    have bc3 := b_3.out.c3
    have bc4 := b_3.out.c4
    have bc5 := b_3.out.c5
    go_wp2_with fail
    clear ac0 ac1 ac2 ac3 ac4 ac5 bc0 bc1 bc2 bc3 bc4 bc5
    refine (hva.out _).mono ?_
    rintro e v4 ⟨rfl, hb⟩
    have D4 := Lib.hid (D3.out.trans (hb.mono D3.out.size))
    have a_4 := Lib.hid (a_3.out.bel hb)
    have b_4 := Lib.hid (b_3.out.bel hb)
    have z_4 := Lib.hid (z_3.out.bel hb)
    clear D3 a_3 b_3 z_3
    clear hb
    have ac0 := a_4.out.c0
    have ac1 := a_4.out.c1
    have ac2 := a_4.out.c2
    have ac3 := a_4.out.c3
    have ac4 := a_4.out.c4
    have ac5 := a_4.out.c5
    have bc0 := b_4.out.c0
    have bc1 := b_4.out.c1
    have bc2 := b_4.out.c2
    have bc3 := b_4.out.c3
    have bc4 := b_4.out.c4
    have bc5 := b_4.out.c5
    go_wp2_with fail
    clear ac0 ac1 ac2 ac3 ac4 ac5 bc0 bc1 bc2 bc3 bc4 bc5
    refine (hvb.out _).mono ?_
    rintro e v5 ⟨rfl, hb⟩
    have D5 := Lib.hid (D4.out.trans (hb.mono D4.out.size))
    have a_5 := Lib.hid (a_4.out.bel hb)
    have b_5 := Lib.hid (b_4.out.bel hb)
    have z_5 := Lib.hid (z_4.out.bel hb)
    clear D4 a_4 b_4 z_4
    clear hb
    have ac0 := a_5.out.c0
    have ac1 := a_5.out.c1
    have ac2 := a_5.out.c2
    have ac3 := a_5.out.c3
    have ac4 := a_5.out.c4
    have ac5 := a_5.out.c5
    have az := blk_lt a_5.out.cells
    have bc0 := b_5.out.c0
    have bc1 := b_5.out.c1
    have bc2 := b_5.out.c2
    have bc3 := b_5.out.c3
    have bc4 := b_5.out.c4
    have bc5 := b_5.out.c5
    have bz := blk_lt b_5.out.cells
    go_wp2_with fail
    clear ac0 ac1 ac2 ac3 ac4 ac5 az bc0 bc1 bc2 bc3 bc4 bc5 bz
    obtain ⟨B2, hB2⟩ : ∃ B, B = v5.heap.size := ⟨_, rfl⟩
    obtain ⟨W2_0, hW2_0⟩ : ∃ W, W = v5.alloc (Obj.cells #[Value.bool a.low.neg, Value.string a.low.num, Value.string a.low.den, Value.bool a.high.neg, Value.string a.high.num, Value.string a.high.den, Value.bool b.low.neg, Value.string b.low.num, Value.string b.low.den, Value.bool b.high.neg, Value.string b.high.num, Value.string b.high.den] 26) := ⟨_, rfl⟩
    have hb : Below v5.heap.size v5 W2_0 := by rw [hW2_0]; exact (Below.refl _ _).alloc (Nat.le_refl _) _
    have hzW2_0 : v5.heap.size = B2 := by rw [hB2]
    have D6 := Lib.hid (D5.out.trans (hb.mono D5.out.size))
    have a_6 := Lib.hid (a_5.out.bel hb)
    have b_6 := Lib.hid (b_5.out.bel hb)
    have z_6 := Lib.hid (z_5.out.bel hb)
    clear D5 a_5 b_5 z_5
    clear hb
    rw [← hW2_0]
    simp only [← hB2]
    have HW2_0 := Lib.hid hW2_0
    clear hW2_0 hzW2_0
    have HB2 := Lib.hid hB2
    clear hB2
    have hrow : IvsIn W2_0 B2 0 [a, b] := by rw [HW2_0.out, HB2.out]; exact pair_in a b _
    have HROW := Lib.hid hrow; clear hrow
    refine (pfirst2_any _ moreL B2 a b _ callMoreL HROW.out).mono ?_
    rintro e v7 ⟨rfl, hb⟩
    have HROWB : Hid (IvsIn v7 B2 0 [a, b]) := Lib.hid (HROW.out.bel hb)
    have D7 := Lib.hid (D6.out.trans (hb.mono D6.out.size))
    have a_7 := Lib.hid (a_6.out.bel hb)
    have b_7 := Lib.hid (b_6.out.bel hb)
    have z_7 := Lib.hid (z_6.out.bel hb)
    clear D6 a_6 b_6 z_6
    clear hb
    simp only [← HS1.out]
    have zl := run_low5 s1
    go_wp2_with fail
    clear zl
    have hrow2 : IvsIn v7 B2 0 [a, b] := HROWB.out
    refine (pfirst2_any _ lessH B2 a b _ callLessH hrow2).mono ?_
    rintro e v8 ⟨rfl, hb⟩
    have D8 := Lib.hid (D7.out.trans (hb.mono D7.out.size))
    have a_8 := Lib.hid (a_7.out.bel hb)
    have b_8 := Lib.hid (b_7.out.bel hb)
    have z_8 := Lib.hid (z_7.out.bel hb)
    clear D7 a_7 b_7 z_7
    clear hb
    simp only [← HS2.out]
    clear hrow2; have zh := run_high5 s2
    go_wp2_with fail
    clear zh
    obtain ⟨B3, hB3⟩ : ∃ B, B = v8.heap.size := ⟨_, rfl⟩
    obtain ⟨W3_0, hW3_0⟩ : ∃ W, W = v8.alloc (Obj.cells #[Value.bool s1.low.neg, Value.string s1.low.num, Value.string s1.low.den, Value.bool s2.high.neg, Value.string s2.high.num, Value.string s2.high.den] 26) := ⟨_, rfl⟩
    have hb : Below v8.heap.size v8 W3_0 := by rw [hW3_0]; exact (Below.refl _ _).alloc (Nat.le_refl _) _
    have hzW3_0 : v8.heap.size = B3 := by rw [hB3]
    have hlW3_0 : IvAt (B3) (⟨s1.low, s2.high⟩ : Iv) W3_0 := by rw [← hzW3_0, hW3_0]; exact ⟨heap_lastM _ _⟩
    have D9 := Lib.hid (D8.out.trans (hb.mono D8.out.size))
    have a_9 := Lib.hid (a_8.out.bel hb)
    have b_9 := Lib.hid (b_8.out.bel hb)
    have z_9 := Lib.hid (z_8.out.bel hb)
    clear D8 a_8 b_8 z_8
    clear hb
    have m_9 := Lib.hid hlW3_0
    clear hlW3_0
    rw [← hW3_0]
    simp only [← hB3]
    have HW3_0 := Lib.hid hW3_0
    clear hW3_0 hzW3_0
    have HB3 := Lib.hid hB3
    clear hB3
    refine (hvm.out _).mono ?_
    rintro e v10 ⟨rfl, hb⟩
    have D10 := Lib.hid (D9.out.trans (hb.mono D9.out.size))
    have a_10 := Lib.hid (a_9.out.bel hb)
    have b_10 := Lib.hid (b_9.out.bel hb)
    have z_10 := Lib.hid (z_9.out.bel hb)
    have m_10 := Lib.hid (m_9.out.bel hb)
    clear D9 a_9 b_9 z_9 m_9
    clear hb
    have mc0 := m_10.out.c0
    have mc1 := m_10.out.c1
    have mc2 := m_10.out.c2
    have mc3 := m_10.out.c3
    have mc4 := m_10.out.c4
    have mc5 := m_10.out.c5
    have zc0 := z_10.out.c0
    have zf0 := z_10.out.fz 0
    have zc1 := z_10.out.c1
    have zf1 := z_10.out.fz 1
    have zc2 := z_10.out.c2
    have zf2 := z_10.out.fz 2
    have zc3 := z_10.out.c3
    have zf3 := z_10.out.fz 3
    have zc4 := z_10.out.c4
    have zf4 := z_10.out.fz 4
    have zc5 := z_10.out.c5
    have zf5 := z_10.out.fz 5
    go_wp2_with fail
    (try simp only [Exit.inBlock, Exit.then])
    refine bodyPost_ret (results_iv rfl _ _ (B1 + 1 + 1) noI _ rfl rfl (z_10.out.set noI)) rfl ?_; rw [HTT.out]; exact ⟨rfl, ((((((D10.out.setCell (p := ⟨B1 + 1 + 1, 0, none⟩) (by have := HB1.out; show w.heap.size ≤ B1 + 1 + 1; omega) _).setCell (p := ⟨B1 + 1 + 1, 1, none⟩) (by have := HB1.out; show w.heap.size ≤ B1 + 1 + 1; omega) _).setCell (p := ⟨B1 + 1 + 1, 2, none⟩) (by have := HB1.out; show w.heap.size ≤ B1 + 1 + 1; omega) _).setCell (p := ⟨B1 + 1 + 1, 3, none⟩) (by have := HB1.out; show w.heap.size ≤ B1 + 1 + 1; omega) _).setCell (p := ⟨B1 + 1 + 1, 4, none⟩) (by have := HB1.out; show w.heap.size ≤ B1 + 1 + 1; omega) _).setCell (p := ⟨B1 + 1 + 1, 5, none⟩) (by have := HB1.out; show w.heap.size ≤ B1 + 1 + 1; omega) _)⟩
set_option maxHeartbeats 4000000 in
theorem phull_none (a : Option Addr) (cap : Nat) (w : World) : Calls Tryz.prog 10 #[.slice a 0 cap] w (GivesI (noI, 10) w) := by
  have D0 := Lib.hid (Below.refl w.heap.size w)
  go_enter Tryz.func10, Tryz.ntmps10
  go_wp2_with fail
  obtain ⟨B1, hB1⟩ : ∃ B, B = w.heap.size := ⟨_, rfl⟩
  obtain ⟨W1_0, hW1_0⟩ : ∃ W, W = w.alloc (Obj.cells #[Value.bool false, Value.string ⟨#[]⟩, Value.string ⟨#[]⟩, Value.bool false, Value.string ⟨#[]⟩, Value.string ⟨#[]⟩] 26) := ⟨_, rfl⟩
  have hb : Below w.heap.size w W1_0 := by rw [hW1_0]; exact (Below.refl _ _).alloc (Nat.le_refl _) _
  have hzW1_0 : w.heap.size = B1 := by rw [hB1]
  have hlW1_0 : IvAt (B1) noI W1_0 := by rw [← hzW1_0, hW1_0]; exact ⟨heap_lastM _ _⟩
  have D1 := Lib.hid (D0.out.trans (hb.mono D0.out.size))
  clear hb
  have z_1 := Lib.hid hlW1_0
  clear hlW1_0
  rw [← hW1_0]
  simp only [← hB1]
  have HW1_0 := Lib.hid hW1_0
  clear hW1_0 hzW1_0
  have HB1 := Lib.hid hB1
  clear hB1
  go_loopw [12] (fun i wr => i = .int .i64 0 ∧ Hid (Below w.heap.size w wr) ∧ Hid (IvAt B1 noI wr)) (fun _ _ => 0)
  case atStart => exact ⟨rfl, D1, z_1⟩
  case round =>
    obtain ⟨rfl, hB, hz⟩ := hrel
    clear D1 z_1
    have zc0 := hz.out.c0
    have zf0 := hz.out.fz 0
    have zc1 := hz.out.c1
    have zf1 := hz.out.fz 1
    have zc2 := hz.out.c2
    have zf2 := hz.out.fz 2
    have zc3 := hz.out.c3
    have zf3 := hz.out.fz 3
    have zc4 := hz.out.c4
    have zf4 := hz.out.fz 4
    have zc5 := hz.out.c5
    have zf5 := hz.out.fz 5
    go_wp2_with fail
    (try simp only [Exit.inBlock, Exit.then])
    refine bodyPost_ret (results_iv rfl _ _ (B1) noI _ rfl rfl (hz.out.set noI)) rfl ?_; skip; exact ⟨rfl, ((((((hB.out.setCell (p := ⟨B1, 0, none⟩) (by have := HB1.out; show w.heap.size ≤ B1; omega) _).setCell (p := ⟨B1, 1, none⟩) (by have := HB1.out; show w.heap.size ≤ B1; omega) _).setCell (p := ⟨B1, 2, none⟩) (by have := HB1.out; show w.heap.size ≤ B1; omega) _).setCell (p := ⟨B1, 3, none⟩) (by have := HB1.out; show w.heap.size ≤ B1; omega) _).setCell (p := ⟨B1, 4, none⟩) (by have := HB1.out; show w.heap.size ≤ B1; omega) _).setCell (p := ⟨B1, 5, none⟩) (by have := HB1.out; show w.heap.size ≤ B1; omega) _)⟩
set_option maxHeartbeats 4000000 in
theorem phull_long (b off cap : Nat) (l : List Iv) (w : World) (h : 1000 < l.length) : Calls Tryz.prog 10 #[.slice (some ⟨b, off, none⟩) l.length cap] w (GivesI (noI, 2) w) := by
  have D0 := Lib.hid (Below.refl w.heap.size w)
  have hn : decide ((1000 : Int) < (l.length : Int)) = true := decide_eq_true (by omega)
  have HN := Lib.hid h
  clear h
  go_enter Tryz.func10, Tryz.ntmps10
  go_wp2_with fail
  (try simp only [Exit.inBlock, Exit.then])
  refine bodyPost_ret (results_iv rfl _ _ w.heap.size noI _ rfl rfl ⟨heap_lastM _ _⟩) rfl ?_; exact ⟨rfl, (Below.refl _ _).alloc (Nat.le_refl _) _⟩
set_option maxHeartbeats 8000000 in
theorem phull_some (b off cap : Nat) (l : List Iv) (w : World) (h0 : 0 < l.length) (h1000 : l.length ≤ 1000) (hl : l.length ≤ cap) (hcap : cap ≤ maxLen) (hc : IvsIn w b off l) :
    Calls Tryz.prog 10 #[.slice (some ⟨b, off, none⟩) l.length cap] w (GivesI (hullI l) w) := by
  have D0 := Lib.hid (Below.refl w.heap.size w)
  obtain ⟨t, ht⟩ : ∃ t, t = hullI l := ⟨_, rfl⟩
  rw [← ht]
  have HT := Lib.hid ht
  have HC := Lib.hid hc
  have HCAP := Lib.hid hcap
  have hn : decide ((1000 : Int) < (l.length : Int)) = false := decide_eq_false (by omega)
  have hq : ((l.length : Int) == 0) = false := by rw [beq_eq_false_iff_ne]; omega
  have HQ := Lib.hid hq
  unfold maxLen at hcap
  clear ht hc hq
  go_enter Tryz.func10, Tryz.ntmps10
  go_wp2_with fail
  obtain ⟨B1, hB1⟩ : ∃ B, B = w.heap.size := ⟨_, rfl⟩
  obtain ⟨W1_0, hW1_0⟩ : ∃ W, W = w.alloc (Obj.cells #[Value.bool false, Value.string ⟨#[]⟩, Value.string ⟨#[]⟩, Value.bool false, Value.string ⟨#[]⟩, Value.string ⟨#[]⟩] 26) := ⟨_, rfl⟩
  have hb : Below w.heap.size w W1_0 := by rw [hW1_0]; exact (Below.refl _ _).alloc (Nat.le_refl _) _
  have hzW1_0 : w.heap.size = B1 := by rw [hB1]
  have hlW1_0 : IvAt (B1) noI W1_0 := by rw [← hzW1_0, hW1_0]; exact ⟨heap_lastM _ _⟩
  have D1 := Lib.hid (D0.out.trans (hb.mono D0.out.size))
  clear hb
  have z_1 := Lib.hid hlW1_0
  clear hlW1_0
  rw [← hW1_0]
  simp only [← hB1]
  have HW1_0 := Lib.hid hW1_0
  clear hW1_0 hzW1_0
  have HB1 := Lib.hid hB1
  clear hB1
  clear hn
  go_loopw [12] (fun i wr => ∃ k : Nat, k ≤ l.length ∧ i = .int .i64 k ∧ Hid (Below w.heap.size w wr) ∧ Hid (IvAt B1 noI wr) ∧ Hid (∀ j (hj : j < l.length), j < k → okI l[j] = true)) (fun i _ => l.length - (intOf i).toNat)
  case atStart => exact ⟨0, by omega, rfl, D1, z_1, Lib.hid (fun j _ h => absurd h (by omega))⟩
  case round =>
    obtain ⟨k, hk, rfl, hB, hz, hx⟩ := hrel
    clear D1 z_1
    by_cases hlt : k < l.length
    ·
      obtain ⟨el, hel⟩ : ∃ x, x = l[k] := ⟨_, rfl⟩
      obtain ⟨e0, e1, e2, e3, e4, e5⟩ := ivsCell5 (HC.out.bel hB.out) k hlt
      rw [← hel] at e0 e1 e2 e3 e4 e5
      have HEL := Lib.hid hel; clear hel
      go_wp2_with fail
      obtain ⟨B6, hB6⟩ : ∃ B, B = wr.heap.size := ⟨_, rfl⟩
      obtain ⟨W6_0, hW6_0⟩ : ∃ W, W = wr.alloc (Obj.cells #[Value.bool el.low.neg, Value.string el.low.num, Value.string el.low.den, Value.bool el.high.neg, Value.string el.high.num, Value.string el.high.den] 26) := ⟨_, rfl⟩
      have hb : Below wr.heap.size wr W6_0 := by rw [hW6_0]; exact (Below.refl _ _).alloc (Nat.le_refl _) _
      have hzW6_0 : wr.heap.size = B6 := by rw [hB6]
      have hlW6_0 : IvAt (B6) el W6_0 := by rw [← hzW6_0, hW6_0]; exact ⟨heap_lastM _ _⟩
      have D51 := Lib.hid (hB.out.trans (hb.mono hB.out.size))
      have z_51 := Lib.hid (hz.out.bel hb)
      clear hB hz
      clear hb
      have e_51 := Lib.hid hlW6_0
      clear hlW6_0
      rw [← hW6_0]
      simp only [← hB6]
      have HW6_0 := Lib.hid hW6_0
      clear hW6_0 hzW6_0
      have HB6 := Lib.hid hB6
      clear hB6
      clear e0 e1 e2 e3 e4 e5
      refine (pivalid_any el _).mono ?_
      rintro e v52 ⟨rfl, hb⟩
      have D52 := Lib.hid (D51.out.trans (hb.mono D51.out.size))
      have z_52 := Lib.hid (z_51.out.bel hb)
      have e_52 := Lib.hid (e_51.out.bel hb)
      clear D51 z_51 e_51
      clear hb
      rcases Bool.eq_false_or_eq_true (okI el) with hbf | hbf
      ·
        rw [hbf]; have HBF := Lib.hid hbf; clear hbf
        go_wp2_with fail
        go_roundw
        case rel => exact ⟨k + 1, by omega, by go_num, D52, z_52, Lib.hid (all_next hx.out hlt (by rw [← HEL.out]; exact HBF.out))⟩
        case measure => simp [intOf]; omega
      ·
        rw [hbf]; have HBF := Lib.hid hbf; clear hbf
        have HTT : Hid (t = (noI, 1)) := Lib.hid (by rw [HT.out]; unfold hullI; rw [if_neg (by omega), if_neg]; rw [List.all_eq_true]; intro h; have := h l[k] (List.getElem_mem hlt); rw [← HEL.out, HBF.out] at this; cases this)
        have zc0 := z_52.out.c0
        have zf0 := z_52.out.fz 0
        have zc1 := z_52.out.c1
        have zf1 := z_52.out.fz 1
        have zc2 := z_52.out.c2
        have zf2 := z_52.out.fz 2
        have zc3 := z_52.out.c3
        have zf3 := z_52.out.fz 3
        have zc4 := z_52.out.c4
        have zf4 := z_52.out.fz 4
        have zc5 := z_52.out.c5
        have zf5 := z_52.out.fz 5
        go_wp2_with fail
        (try simp only [Exit.inBlock, Exit.then])
        refine bodyPost_ret (results_iv rfl _ _ (B1) noI _ rfl rfl (z_52.out.set noI)) rfl ?_; rw [HTT.out]; exact ⟨rfl, ((((((D52.out.setCell (p := ⟨B1, 0, none⟩) (by have := HB1.out; show w.heap.size ≤ B1; omega) _).setCell (p := ⟨B1, 1, none⟩) (by have := HB1.out; show w.heap.size ≤ B1; omega) _).setCell (p := ⟨B1, 2, none⟩) (by have := HB1.out; show w.heap.size ≤ B1; omega) _).setCell (p := ⟨B1, 3, none⟩) (by have := HB1.out; show w.heap.size ≤ B1; omega) _).setCell (p := ⟨B1, 4, none⟩) (by have := HB1.out; show w.heap.size ≤ B1; omega) _).setCell (p := ⟨B1, 5, none⟩) (by have := HB1.out; show w.heap.size ≤ B1; omega) _)⟩
    ·
      have HTT : Hid (t = (⟨(sel noI lessL l).low, (sel noI moreH l).high⟩, 0)) := Lib.hid (by rw [HT.out]; refine hullI_sel (fun e => by subst e; simp at h0) h1000 ?_; rw [List.all_eq_true]; intro i hi; obtain ⟨j, hj, rfl⟩ := List.getElem_of_mem hi; exact hx.out j hj (by omega))
      obtain ⟨s1, hs1⟩ : ∃ s, s = sel noI lessL l := ⟨_, rfl⟩
      obtain ⟨s2, hs2⟩ : ∃ s, s = sel noI moreH l := ⟨_, rfl⟩
      rw [← hs1, ← hs2] at HTT
      have HS1 := Lib.hid hs1; have HS2 := Lib.hid hs2; clear hs1 hs2
      have HROW : Hid (IvsIn wr b off l) := Lib.hid (HC.out.bel hB.out)
      have hq := HQ.out
      go_wp2_with fail
      clear hq
      refine (pfirstI_any _ lessL b off cap l _ callLessL h0 hl HCAP.out HROW.out).mono ?_
      rintro e v71 ⟨rfl, hb⟩
      have HROWB := Lib.hid (HROW.out.bel hb); clear HROW
      have D71 := Lib.hid (hB.out.trans (hb.mono hB.out.size))
      have z_71 := Lib.hid (hz.out.bel hb)
      clear hB hz
      clear hb
      simp only [← HS1.out]
      have zl := run_low5 s1
      go_wp2_with fail
      clear zl
      refine (pfirstI_any _ moreH b off cap l _ callMoreH h0 hl HCAP.out HROWB.out).mono ?_
      rintro e v72 ⟨rfl, hb⟩
      have D72 := Lib.hid (D71.out.trans (hb.mono D71.out.size))
      have z_72 := Lib.hid (z_71.out.bel hb)
      clear D71 z_71
      clear hb
      simp only [← HS2.out]
      have zh := run_high5 s2
      have zc0 := z_72.out.c0
      have zf0 := z_72.out.fz 0
      have zc1 := z_72.out.c1
      have zf1 := z_72.out.fz 1
      have zc2 := z_72.out.c2
      have zf2 := z_72.out.fz 2
      have zc3 := z_72.out.c3
      have zf3 := z_72.out.fz 3
      have zc4 := z_72.out.c4
      have zf4 := z_72.out.fz 4
      have zc5 := z_72.out.c5
      have zf5 := z_72.out.fz 5
      go_wp2_with fail
      (try simp only [Exit.inBlock, Exit.then])
      refine bodyPost_ret (results_iv rfl _ _ (B1) ⟨s1.low, s2.high⟩ _ rfl rfl (z_72.out.set ⟨s1.low, s2.high⟩)) rfl ?_; rw [HTT.out]; exact ⟨rfl, ((((((D72.out.setCell (p := ⟨B1, 0, none⟩) (by have := HB1.out; show w.heap.size ≤ B1; omega) _).setCell (p := ⟨B1, 1, none⟩) (by have := HB1.out; show w.heap.size ≤ B1; omega) _).setCell (p := ⟨B1, 2, none⟩) (by have := HB1.out; show w.heap.size ≤ B1; omega) _).setCell (p := ⟨B1, 3, none⟩) (by have := HB1.out; show w.heap.size ≤ B1; omega) _).setCell (p := ⟨B1, 4, none⟩) (by have := HB1.out; show w.heap.size ≤ B1; omega) _).setCell (p := ⟨B1, 5, none⟩) (by have := HB1.out; show w.heap.size ≤ B1; omega) _)⟩
theorem pihull_any (v : Value) (l : List Iv) (w : World) (h : IvsOk w v l) : Calls Tryz.prog 10 #[v] w (GivesI (hullI l) w) := by
  rcases h.form with ⟨rfl, a, cap, rfl⟩ | ⟨h0, b, off, cap, rfl, h1, h2, hc⟩
  · exact phull_none a cap w
  · by_cases h1000 : l.length ≤ 1000
    · exact phull_some b off cap l w h0 h1000 h1 h2 hc
    · have e : hullI l = (noI, 2) := by unfold hullI; rw [if_pos (by omega)]
      rw [e]; exact phull_long b off cap l w (by omega)
end Go.Proofs.YtbcoblpnihdhgaaGreatDoor
