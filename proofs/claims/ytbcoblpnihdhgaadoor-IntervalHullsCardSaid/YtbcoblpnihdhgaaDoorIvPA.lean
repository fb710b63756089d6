/-
  The program's interval package: less, the closures, Valid, Contains.
-/
import Derived.Test.YtbcoblpnihdhgaaDoorRmE
import Derived.Test.YtbcoblpnihdhgaaDoorRmI
import Derived.Test.YtbcoblpnihdhgaaDoorIvAt
import Derived.Test.YtbcoblpnihdhgaaDoorIvSel
set_option linter.unusedVariables false
set_option maxRecDepth 100000
namespace Go.Proofs.YtbcoblpnihdhgaaDoor
open Go.RowKit
open Rt
set_option maxHeartbeats 1000000 in
theorem piless_any (x y : Raw) (w : World) : Calls Tryd.prog 22 #[.agg #[.bool x.neg, .string x.num, .string x.den], .agg #[.bool y.neg, .string y.num, .string y.den]] w (GivesB (lessR x y) w) := by
  have hc : Hid (∀ w, Calls Tryd.prog 36 #[.agg #[.bool x.neg, .string x.num, .string x.den], .agg #[.bool y.neg, .string y.num, .string y.den]] w fun e w' => e = .returned (.int .i64 (cmpE x y)) ∧ Below w.heap.size w w') := Lib.hid (fun w => pratcmp_any x y w)
  unfold lessR
  generalize cmpE x y = c at *
  have D0 := Lib.hid (Below.refl w.heap.size w)
  go_enter Tryd.func22, Tryd.ntmps22
  go_wp2_with fail
  obtain ⟨B1, hB1⟩ : ∃ B, B = w.heap.size := ⟨_, rfl⟩
  obtain ⟨W1_0, hW1_0⟩ : ∃ W, W = w.alloc (Obj.cells #[Value.bool x.neg, Value.string x.num, Value.string x.den] 24) := ⟨_, rfl⟩
  have hb : Below w.heap.size w W1_0 := by rw [hW1_0]; exact (Below.refl _ _).alloc (Nat.le_refl _) _
  have hzW1_0 : w.heap.size = B1 := by rw [hB1]
  have hlW1_0 : RatAt (B1) x W1_0 := by rw [← hzW1_0, hW1_0]; exact ⟨heap_lastM _ _⟩
  have D1 := Lib.hid (D0.out.trans (hb.mono D0.out.size))
  clear hb
  have x_1 := Lib.hid hlW1_0
  clear hlW1_0
  obtain ⟨W1_1, hW1_1⟩ : ∃ W, W = W1_0.alloc (Obj.cells #[Value.bool y.neg, Value.string y.num, Value.string y.den] 24) := ⟨_, rfl⟩
  have hb : Below W1_0.heap.size W1_0 W1_1 := by rw [hW1_1]; exact (Below.refl _ _).alloc (Nat.le_refl _) _
  have hzW1_1 : W1_0.heap.size = B1 + 1 := by rw [hW1_0]; simp [hzW1_0]
  have hlW1_1 : RatAt (B1 + 1) y W1_1 := by rw [← hzW1_1, hW1_1]; exact ⟨heap_lastM _ _⟩
  have D2 := Lib.hid (D1.out.trans (hb.mono D1.out.size))
  have x_2 := Lib.hid (x_1.out.bel hb)
  clear D1 x_1
  clear hb
  have y_2 := Lib.hid hlW1_1
  clear hlW1_1
  rw [← hW1_0]
  rw [← hW1_1]
  simp only [← hB1]
  have HW1_0 := Lib.hid hW1_0
  clear hW1_0 hzW1_0
  have HW1_1 := Lib.hid hW1_1
  clear hW1_1 hzW1_1
  have HB1 := Lib.hid hB1
  clear hB1
  refine (hc.out _).mono ?_
  rintro e v3 ⟨rfl, hb⟩
  have D3 := Lib.hid (D2.out.trans (hb.mono D2.out.size))
  have x_3 := Lib.hid (x_2.out.bel hb)
  have y_3 := Lib.hid (y_2.out.bel hb)
  clear D2 x_2 y_2
  clear hb
  go_wp2_with fail
  go_ret
  exact ⟨by first | rfl | simp, D3.out⟩
set_option maxHeartbeats 1000000 in
theorem pmul1_any (x y : Raw) (w : World) : Calls Tryd.prog 25 #[.agg #[.bool x.neg, .string x.num, .string x.den], .agg #[.bool y.neg, .string y.num, .string y.den]] w (GivesB (moreR x y) w) := by
  have hc : Hid (∀ w, Calls Tryd.prog 22 #[.agg #[.bool y.neg, .string y.num, .string y.den], .agg #[.bool x.neg, .string x.num, .string x.den]] w (GivesB (moreR x y) w)) := Lib.hid (fun w => piless_any y x w)
  generalize moreR x y = c at *
  have D0 := Lib.hid (Below.refl w.heap.size w)
  go_enter Tryd.func25, Tryd.ntmps25
  go_wp2_with fail
  obtain ⟨B1, hB1⟩ : ∃ B, B = w.heap.size := ⟨_, rfl⟩
  obtain ⟨W1_0, hW1_0⟩ : ∃ W, W = w.alloc (Obj.cells #[Value.bool x.neg, Value.string x.num, Value.string x.den] 24) := ⟨_, rfl⟩
  have hb : Below w.heap.size w W1_0 := by rw [hW1_0]; exact (Below.refl _ _).alloc (Nat.le_refl _) _
  have hzW1_0 : w.heap.size = B1 := by rw [hB1]
  have hlW1_0 : RatAt (B1) x W1_0 := by rw [← hzW1_0, hW1_0]; exact ⟨heap_lastM _ _⟩
  have D1 := Lib.hid (D0.out.trans (hb.mono D0.out.size))
  clear hb
  have x_1 := Lib.hid hlW1_0
  clear hlW1_0
  obtain ⟨W1_1, hW1_1⟩ : ∃ W, W = W1_0.alloc (Obj.cells #[Value.bool y.neg, Value.string y.num, Value.string y.den] 24) := ⟨_, rfl⟩
  have hb : Below W1_0.heap.size W1_0 W1_1 := by rw [hW1_1]; exact (Below.refl _ _).alloc (Nat.le_refl _) _
  have hzW1_1 : W1_0.heap.size = B1 + 1 := by rw [hW1_0]; simp [hzW1_0]
  have hlW1_1 : RatAt (B1 + 1) y W1_1 := by rw [← hzW1_1, hW1_1]; exact ⟨heap_lastM _ _⟩
  have D2 := Lib.hid (D1.out.trans (hb.mono D1.out.size))
  have x_2 := Lib.hid (x_1.out.bel hb)
  clear D1 x_1
  clear hb
  have y_2 := Lib.hid hlW1_1
  clear hlW1_1
  rw [← hW1_0]
  rw [← hW1_1]
  simp only [← hB1]
  have HW1_0 := Lib.hid hW1_0
  clear hW1_0 hzW1_0
  have HW1_1 := Lib.hid hW1_1
  clear hW1_1 hzW1_1
  have HB1 := Lib.hid hB1
  clear hB1
  refine (hc.out _).mono ?_
  rintro e v3 ⟨rfl, hb⟩
  have D3 := Lib.hid (D2.out.trans (hb.mono D2.out.size))
  have x_3 := Lib.hid (x_2.out.bel hb)
  have y_3 := Lib.hid (y_2.out.bel hb)
  clear D2 x_2 y_2
  clear hb
  go_wp2_with fail
  go_ret
  exact ⟨by first | rfl | simp, D3.out⟩
set_option maxHeartbeats 1000000 in
theorem phull1_any (x y : Iv) (w : World) : Calls Tryd.prog 30 #[.agg #[.bool x.low.neg, .string x.low.num, .string x.low.den, .bool x.high.neg, .string x.high.num, .string x.high.den], .agg #[.bool y.low.neg, .string y.low.num, .string y.low.den, .bool y.high.neg, .string y.high.num, .string y.high.den]] w (GivesB (lessL x y) w) := by
  have hc : Hid (∀ w, Calls Tryd.prog 22 #[.agg #[.bool x.low.neg, .string x.low.num, .string x.low.den], .agg #[.bool y.low.neg, .string y.low.num, .string y.low.den]] w (GivesB (lessL x y) w)) := Lib.hid (fun w => piless_any x.low y.low w)
  generalize lessL x y = c at *
  have D0 := Lib.hid (Below.refl w.heap.size w)
  go_enter Tryd.func30, Tryd.ntmps30
  go_wp2_with fail
  obtain ⟨B1, hB1⟩ : ∃ B, B = w.heap.size := ⟨_, rfl⟩
  obtain ⟨W1_0, hW1_0⟩ : ∃ W, W = w.alloc (Obj.cells #[Value.bool x.low.neg, Value.string x.low.num, Value.string x.low.den, Value.bool x.high.neg, Value.string x.high.num, Value.string x.high.den] 26) := ⟨_, rfl⟩
  have hb : Below w.heap.size w W1_0 := by rw [hW1_0]; exact (Below.refl _ _).alloc (Nat.le_refl _) _
  have hzW1_0 : w.heap.size = B1 := by rw [hB1]
  have hlW1_0 : IvAt (B1) x W1_0 := by rw [← hzW1_0, hW1_0]; exact ⟨heap_lastM _ _⟩
  have D1 := Lib.hid (D0.out.trans (hb.mono D0.out.size))
  clear hb
  have x_1 := Lib.hid hlW1_0
  clear hlW1_0
  obtain ⟨W1_1, hW1_1⟩ : ∃ W, W = W1_0.alloc (Obj.cells #[Value.bool y.low.neg, Value.string y.low.num, Value.string y.low.den, Value.bool y.high.neg, Value.string y.high.num, Value.string y.high.den] 26) := ⟨_, rfl⟩
  have hb : Below W1_0.heap.size W1_0 W1_1 := by rw [hW1_1]; exact (Below.refl _ _).alloc (Nat.le_refl _) _
  have hzW1_1 : W1_0.heap.size = B1 + 1 := by rw [hW1_0]; simp [hzW1_0]
  have hlW1_1 : IvAt (B1 + 1) y W1_1 := by rw [← hzW1_1, hW1_1]; exact ⟨heap_lastM _ _⟩
  have D2 := Lib.hid (D1.out.trans (hb.mono D1.out.size))
  have x_2 := Lib.hid (x_1.out.bel hb)
  clear D1 x_1
  clear hb
  have y_2 := Lib.hid hlW1_1
  clear hlW1_1
  rw [← hW1_0]
  rw [← hW1_1]
  simp only [← hB1]
  have HW1_0 := Lib.hid hW1_0
  clear hW1_0 hzW1_0
  have HW1_1 := Lib.hid hW1_1
  clear hW1_1 hzW1_1
  have HB1 := Lib.hid hB1
  clear hB1
  refine (hc.out _).mono ?_
  rintro e v3 ⟨rfl, hb⟩
  have D3 := Lib.hid (D2.out.trans (hb.mono D2.out.size))
  have x_3 := Lib.hid (x_2.out.bel hb)
  have y_3 := Lib.hid (y_2.out.bel hb)
  clear D2 x_2 y_2
  clear hb
  go_wp2_with fail
  go_ret
  exact ⟨by first | rfl | simp, D3.out⟩
set_option maxHeartbeats 1000000 in
theorem phull2_any (x y : Iv) (w : World) : Calls Tryd.prog 31 #[.agg #[.bool x.low.neg, .string x.low.num, .string x.low.den, .bool x.high.neg, .string x.high.num, .string x.high.den], .agg #[.bool y.low.neg, .string y.low.num, .string y.low.den, .bool y.high.neg, .string y.high.num, .string y.high.den]] w (GivesB (moreH x y) w) := by
  have hc : Hid (∀ w, Calls Tryd.prog 22 #[.agg #[.bool y.high.neg, .string y.high.num, .string y.high.den], .agg #[.bool x.high.neg, .string x.high.num, .string x.high.den]] w (GivesB (moreH x y) w)) := Lib.hid (fun w => piless_any y.high x.high w)
  generalize moreH x y = c at *
  have D0 := Lib.hid (Below.refl w.heap.size w)
  go_enter Tryd.func31, Tryd.ntmps31
  go_wp2_with fail
  obtain ⟨B1, hB1⟩ : ∃ B, B = w.heap.size := ⟨_, rfl⟩
  obtain ⟨W1_0, hW1_0⟩ : ∃ W, W = w.alloc (Obj.cells #[Value.bool x.low.neg, Value.string x.low.num, Value.string x.low.den, Value.bool x.high.neg, Value.string x.high.num, Value.string x.high.den] 26) := ⟨_, rfl⟩
  have hb : Below w.heap.size w W1_0 := by rw [hW1_0]; exact (Below.refl _ _).alloc (Nat.le_refl _) _
  have hzW1_0 : w.heap.size = B1 := by rw [hB1]
  have hlW1_0 : IvAt (B1) x W1_0 := by rw [← hzW1_0, hW1_0]; exact ⟨heap_lastM _ _⟩
  have D1 := Lib.hid (D0.out.trans (hb.mono D0.out.size))
  clear hb
  have x_1 := Lib.hid hlW1_0
  clear hlW1_0
  obtain ⟨W1_1, hW1_1⟩ : ∃ W, W = W1_0.alloc (Obj.cells #[Value.bool y.low.neg, Value.string y.low.num, Value.string y.low.den, Value.bool y.high.neg, Value.string y.high.num, Value.string y.high.den] 26) := ⟨_, rfl⟩
  have hb : Below W1_0.heap.size W1_0 W1_1 := by rw [hW1_1]; exact (Below.refl _ _).alloc (Nat.le_refl _) _
  have hzW1_1 : W1_0.heap.size = B1 + 1 := by rw [hW1_0]; simp [hzW1_0]
  have hlW1_1 : IvAt (B1 + 1) y W1_1 := by rw [← hzW1_1, hW1_1]; exact ⟨heap_lastM _ _⟩
  have D2 := Lib.hid (D1.out.trans (hb.mono D1.out.size))
  have x_2 := Lib.hid (x_1.out.bel hb)
  clear D1 x_1
  clear hb
  have y_2 := Lib.hid hlW1_1
  clear hlW1_1
  rw [← hW1_0]
  rw [← hW1_1]
  simp only [← hB1]
  have HW1_0 := Lib.hid hW1_0
  clear hW1_0 hzW1_0
  have HW1_1 := Lib.hid hW1_1
  clear hW1_1 hzW1_1
  have HB1 := Lib.hid hB1
  clear hB1
  refine (hc.out _).mono ?_
  rintro e v3 ⟨rfl, hb⟩
  have D3 := Lib.hid (D2.out.trans (hb.mono D2.out.size))
  have x_3 := Lib.hid (x_2.out.bel hb)
  have y_3 := Lib.hid (y_2.out.bel hb)
  clear D2 x_2 y_2
  clear hb
  go_wp2_with fail
  go_ret
  exact ⟨by first | rfl | simp, D3.out⟩
set_option maxHeartbeats 1000000 in
theorem pmeet1_any (x y : Iv) (w : World) : Calls Tryd.prog 32 #[.agg #[.bool x.low.neg, .string x.low.num, .string x.low.den, .bool x.high.neg, .string x.high.num, .string x.high.den], .agg #[.bool y.low.neg, .string y.low.num, .string y.low.den, .bool y.high.neg, .string y.high.num, .string y.high.den]] w (GivesB (moreL x y) w) := by
  have hc : Hid (∀ w, Calls Tryd.prog 22 #[.agg #[.bool y.low.neg, .string y.low.num, .string y.low.den], .agg #[.bool x.low.neg, .string x.low.num, .string x.low.den]] w (GivesB (moreL x y) w)) := Lib.hid (fun w => piless_any y.low x.low w)
  generalize moreL x y = c at *
  have D0 := Lib.hid (Below.refl w.heap.size w)
  go_enter Tryd.func32, Tryd.ntmps32
  go_wp2_with fail
  obtain ⟨B1, hB1⟩ : ∃ B, B = w.heap.size := ⟨_, rfl⟩
  obtain ⟨W1_0, hW1_0⟩ : ∃ W, W = w.alloc (Obj.cells #[Value.bool x.low.neg, Value.string x.low.num, Value.string x.low.den, Value.bool x.high.neg, Value.string x.high.num, Value.string x.high.den] 26) := ⟨_, rfl⟩
  have hb : Below w.heap.size w W1_0 := by rw [hW1_0]; exact (Below.refl _ _).alloc (Nat.le_refl _) _
  have hzW1_0 : w.heap.size = B1 := by rw [hB1]
  have hlW1_0 : IvAt (B1) x W1_0 := by rw [← hzW1_0, hW1_0]; exact ⟨heap_lastM _ _⟩
  have D1 := Lib.hid (D0.out.trans (hb.mono D0.out.size))
  clear hb
  have x_1 := Lib.hid hlW1_0
  clear hlW1_0
  obtain ⟨W1_1, hW1_1⟩ : ∃ W, W = W1_0.alloc (Obj.cells #[Value.bool y.low.neg, Value.string y.low.num, Value.string y.low.den, Value.bool y.high.neg, Value.string y.high.num, Value.string y.high.den] 26) := ⟨_, rfl⟩
  have hb : Below W1_0.heap.size W1_0 W1_1 := by rw [hW1_1]; exact (Below.refl _ _).alloc (Nat.le_refl _) _
  have hzW1_1 : W1_0.heap.size = B1 + 1 := by rw [hW1_0]; simp [hzW1_0]
  have hlW1_1 : IvAt (B1 + 1) y W1_1 := by rw [← hzW1_1, hW1_1]; exact ⟨heap_lastM _ _⟩
  have D2 := Lib.hid (D1.out.trans (hb.mono D1.out.size))
  have x_2 := Lib.hid (x_1.out.bel hb)
  clear D1 x_1
  clear hb
  have y_2 := Lib.hid hlW1_1
  clear hlW1_1
  rw [← hW1_0]
  rw [← hW1_1]
  simp only [← hB1]
  have HW1_0 := Lib.hid hW1_0
  clear hW1_0 hzW1_0
  have HW1_1 := Lib.hid hW1_1
  clear hW1_1 hzW1_1
  have HB1 := Lib.hid hB1
  clear hB1
  refine (hc.out _).mono ?_
  rintro e v3 ⟨rfl, hb⟩
  have D3 := Lib.hid (D2.out.trans (hb.mono D2.out.size))
  have x_3 := Lib.hid (x_2.out.bel hb)
  have y_3 := Lib.hid (y_2.out.bel hb)
  clear D2 x_2 y_2
  clear hb
  go_wp2_with fail
  go_ret
  exact ⟨by first | rfl | simp, D3.out⟩
set_option maxHeartbeats 1000000 in
theorem pmeet2_any (x y : Iv) (w : World) : Calls Tryd.prog 33 #[.agg #[.bool x.low.neg, .string x.low.num, .string x.low.den, .bool x.high.neg, .string x.high.num, .string x.high.den], .agg #[.bool y.low.neg, .string y.low.num, .string y.low.den, .bool y.high.neg, .string y.high.num, .string y.high.den]] w (GivesB (lessH x y) w) := by
  have hc : Hid (∀ w, Calls Tryd.prog 22 #[.agg #[.bool x.high.neg, .string x.high.num, .string x.high.den], .agg #[.bool y.high.neg, .string y.high.num, .string y.high.den]] w (GivesB (lessH x y) w)) := Lib.hid (fun w => piless_any x.high y.high w)
  generalize lessH x y = c at *
  have D0 := Lib.hid (Below.refl w.heap.size w)
  go_enter Tryd.func33, Tryd.ntmps33
  go_wp2_with fail
  obtain ⟨B1, hB1⟩ : ∃ B, B = w.heap.size := ⟨_, rfl⟩
  obtain ⟨W1_0, hW1_0⟩ : ∃ W, W = w.alloc (Obj.cells #[Value.bool x.low.neg, Value.string x.low.num, Value.string x.low.den, Value.bool x.high.neg, Value.string x.high.num, Value.string x.high.den] 26) := ⟨_, rfl⟩
  have hb : Below w.heap.size w W1_0 := by rw [hW1_0]; exact (Below.refl _ _).alloc (Nat.le_refl _) _
  have hzW1_0 : w.heap.size = B1 := by rw [hB1]
  have hlW1_0 : IvAt (B1) x W1_0 := by rw [← hzW1_0, hW1_0]; exact ⟨heap_lastM _ _⟩
  have D1 := Lib.hid (D0.out.trans (hb.mono D0.out.size))
  clear hb
  have x_1 := Lib.hid hlW1_0
  clear hlW1_0
  obtain ⟨W1_1, hW1_1⟩ : ∃ W, W = W1_0.alloc (Obj.cells #[Value.bool y.low.neg, Value.string y.low.num, Value.string y.low.den, Value.bool y.high.neg, Value.string y.high.num, Value.string y.high.den] 26) := ⟨_, rfl⟩
  have hb : Below W1_0.heap.size W1_0 W1_1 := by rw [hW1_1]; exact (Below.refl _ _).alloc (Nat.le_refl _) _
  have hzW1_1 : W1_0.heap.size = B1 + 1 := by rw [hW1_0]; simp [hzW1_0]
  have hlW1_1 : IvAt (B1 + 1) y W1_1 := by rw [← hzW1_1, hW1_1]; exact ⟨heap_lastM _ _⟩
  have D2 := Lib.hid (D1.out.trans (hb.mono D1.out.size))
  have x_2 := Lib.hid (x_1.out.bel hb)
  clear D1 x_1
  clear hb
  have y_2 := Lib.hid hlW1_1
  clear hlW1_1
  rw [← hW1_0]
  rw [← hW1_1]
  simp only [← hB1]
  have HW1_0 := Lib.hid hW1_0
  clear hW1_0 hzW1_0
  have HW1_1 := Lib.hid hW1_1
  clear hW1_1 hzW1_1
  have HB1 := Lib.hid hB1
  clear hB1
  refine (hc.out _).mono ?_
  rintro e v3 ⟨rfl, hb⟩
  have D3 := Lib.hid (D2.out.trans (hb.mono D2.out.size))
  have x_3 := Lib.hid (x_2.out.bel hb)
  have y_3 := Lib.hid (y_2.out.bel hb)
  clear D2 x_2 y_2
  clear hb
  go_wp2_with fail
  go_ret
  exact ⟨by first | rfl | simp, D3.out⟩
set_option maxHeartbeats 2000000 in
theorem pivalid_any (i : Iv) (w : World) : Calls Tryd.prog 15 #[.agg #[.bool i.low.neg, .string i.low.num, .string i.low.den, .bool i.high.neg, .string i.high.num, .string i.high.den]] w (GivesB (okI i) w) := by
  have hl : Hid (∀ w, Calls Tryd.prog 21 #[.agg #[.bool i.low.neg, .string i.low.num, .string i.low.den]] w (GivesB (okR i.low) w)) := Lib.hid (fun w => pratvalid_any i.low w)
  have hh : Hid (∀ w, Calls Tryd.prog 21 #[.agg #[.bool i.high.neg, .string i.high.num, .string i.high.den]] w (GivesB (okR i.high) w)) := Lib.hid (fun w => pratvalid_any i.high w)
  have hc : Hid (∀ w, Calls Tryd.prog 22 #[.agg #[.bool i.high.neg, .string i.high.num, .string i.high.den], .agg #[.bool i.low.neg, .string i.low.num, .string i.low.den]] w (GivesB (lessR i.high i.low) w)) := Lib.hid (fun w => piless_any i.high i.low w)
  rw [okI_less]
  generalize okR i.low = v1 at *
  generalize okR i.high = v2 at *
  generalize lessR i.high i.low = c at *
  have D0 := Lib.hid (Below.refl w.heap.size w)
  cases v1
  ·
    go_enter Tryd.func15, Tryd.ntmps15
    go_wp2_with fail
    obtain ⟨B1, hB1⟩ : ∃ B, B = w.heap.size := ⟨_, rfl⟩
    obtain ⟨W1_0, hW1_0⟩ : ∃ W, W = w.alloc (Obj.cells #[Value.bool i.low.neg, Value.string i.low.num, Value.string i.low.den, Value.bool i.high.neg, Value.string i.high.num, Value.string i.high.den] 26) := ⟨_, rfl⟩
    have hb : Below w.heap.size w W1_0 := by rw [hW1_0]; exact (Below.refl _ _).alloc (Nat.le_refl _) _
    have hzW1_0 : w.heap.size = B1 := by rw [hB1]
    have hlW1_0 : IvAt (B1) i W1_0 := by rw [← hzW1_0, hW1_0]; exact ⟨heap_lastM _ _⟩
    have D1 := Lib.hid (D0.out.trans (hb.mono D0.out.size))
    clear hb
    have i_1 := Lib.hid hlW1_0
    clear hlW1_0
    rw [← hW1_0]
    simp only [← hB1]
    have HW1_0 := Lib.hid hW1_0
    clear hW1_0 hzW1_0
    have HB1 := Lib.hid hB1
    clear hB1
    have ic0 := i_1.out.c0
    have ic1 := i_1.out.c1
    have ic2 := i_1.out.c2
    have ic3 := i_1.out.c3
    have ic4 := i_1.out.c4
    have ic5 := i_1.out.c5
    refine (hl.out _).mono ?_
    rintro e v2 ⟨rfl, hb⟩
    have D2 := Lib.hid (D1.out.trans (hb.mono D1.out.size))
    have i_2 := Lib.hid (i_1.out.bel hb)
    clear D1 i_1
    clear hb
    go_wp2_with fail
    go_ret
    exact ⟨by first | rfl | simp, D2.out⟩
  · cases v2
    ·
      go_enter Tryd.func15, Tryd.ntmps15
      go_wp2_with fail
      obtain ⟨B1, hB1⟩ : ∃ B, B = w.heap.size := ⟨_, rfl⟩
      obtain ⟨W1_0, hW1_0⟩ : ∃ W, W = w.alloc (Obj.cells #[Value.bool i.low.neg, Value.string i.low.num, Value.string i.low.den, Value.bool i.high.neg, Value.string i.high.num, Value.string i.high.den] 26) := ⟨_, rfl⟩
      have hb : Below w.heap.size w W1_0 := by rw [hW1_0]; exact (Below.refl _ _).alloc (Nat.le_refl _) _
      have hzW1_0 : w.heap.size = B1 := by rw [hB1]
      have hlW1_0 : IvAt (B1) i W1_0 := by rw [← hzW1_0, hW1_0]; exact ⟨heap_lastM _ _⟩
      have D1 := Lib.hid (D0.out.trans (hb.mono D0.out.size))
      clear hb
      have i_1 := Lib.hid hlW1_0
      clear hlW1_0
      rw [← hW1_0]
      simp only [← hB1]
      have HW1_0 := Lib.hid hW1_0
      clear hW1_0 hzW1_0
      have HB1 := Lib.hid hB1
      clear hB1
      have ic0 := i_1.out.c0
      have ic1 := i_1.out.c1
      have ic2 := i_1.out.c2
      have ic3 := i_1.out.c3
      have ic4 := i_1.out.c4
      have ic5 := i_1.out.c5
      refine (hl.out _).mono ?_
      rintro e v2 ⟨rfl, hb⟩
      have D2 := Lib.hid (D1.out.trans (hb.mono D1.out.size))
      have i_2 := Lib.hid (i_1.out.bel hb)
      clear D1 i_1
      clear hb
      have ic0 := i_2.out.c0
      have ic1 := i_2.out.c1
      have ic2 := i_2.out.c2
      have ic3 := i_2.out.c3
      have ic4 := i_2.out.c4
      have ic5 := i_2.out.c5
      go_wp2_with fail
      clear ic0 ic1 ic2 ic3 ic4 ic5
      refine (hh.out _).mono ?_
      rintro e v3 ⟨rfl, hb⟩
      have D3 := Lib.hid (D2.out.trans (hb.mono D2.out.size))
      have i_3 := Lib.hid (i_2.out.bel hb)
      clear D2 i_2
      clear hb
      go_wp2_with fail
      go_ret
      exact ⟨by first | rfl | simp, D3.out⟩
    ·
      go_enter Tryd.func15, Tryd.ntmps15
      go_wp2_with fail
      obtain ⟨B1, hB1⟩ : ∃ B, B = w.heap.size := ⟨_, rfl⟩
      obtain ⟨W1_0, hW1_0⟩ : ∃ W, W = w.alloc (Obj.cells #[Value.bool i.low.neg, Value.string i.low.num, Value.string i.low.den, Value.bool i.high.neg, Value.string i.high.num, Value.string i.high.den] 26) := ⟨_, rfl⟩
      have hb : Below w.heap.size w W1_0 := by rw [hW1_0]; exact (Below.refl _ _).alloc (Nat.le_refl _) _
      have hzW1_0 : w.heap.size = B1 := by rw [hB1]
      have hlW1_0 : IvAt (B1) i W1_0 := by rw [← hzW1_0, hW1_0]; exact ⟨heap_lastM _ _⟩
      have D1 := Lib.hid (D0.out.trans (hb.mono D0.out.size))
      clear hb
      have i_1 := Lib.hid hlW1_0
      clear hlW1_0
      rw [← hW1_0]
      simp only [← hB1]
      have HW1_0 := Lib.hid hW1_0
      clear hW1_0 hzW1_0
      have HB1 := Lib.hid hB1
      clear hB1
      have ic0 := i_1.out.c0
      have ic1 := i_1.out.c1
      have ic2 := i_1.out.c2
      have ic3 := i_1.out.c3
      have ic4 := i_1.out.c4
      have ic5 := i_1.out.c5
      refine (hl.out _).mono ?_
      rintro e v2 ⟨rfl, hb⟩
      have D2 := Lib.hid (D1.out.trans (hb.mono D1.out.size))
      have i_2 := Lib.hid (i_1.out.bel hb)
      clear D1 i_1
      clear hb
      have ic0 := i_2.out.c0
      have ic1 := i_2.out.c1
      have ic2 := i_2.out.c2
      have ic3 := i_2.out.c3
      have ic4 := i_2.out.c4
      have ic5 := i_2.out.c5
      go_wp2_with fail
      clear ic0 ic1 ic2 ic3 ic4 ic5
      refine (hh.out _).mono ?_
      rintro e v3 ⟨rfl, hb⟩
      have D3 := Lib.hid (D2.out.trans (hb.mono D2.out.size))
      have i_3 := Lib.hid (i_2.out.bel hb)
      clear D2 i_2
      clear hb
      have ic0 := i_3.out.c0
      have ic1 := i_3.out.c1
      have ic2 := i_3.out.c2
      have ic3 := i_3.out.c3
      have ic4 := i_3.out.c4
      have ic5 := i_3.out.c5
      go_wp2_with fail
      clear ic0 ic1 ic2 ic3 ic4 ic5
      refine (hc.out _).mono ?_
      rintro e v4 ⟨rfl, hb⟩
      have D4 := Lib.hid (D3.out.trans (hb.mono D3.out.size))
      have i_4 := Lib.hid (i_3.out.bel hb)
      clear D3 i_3
      clear hb
      go_wp2_with fail
      go_ret
      exact ⟨by first | rfl | simp, D4.out⟩
set_option maxHeartbeats 2000000 in
theorem picon_any (i : Iv) (r : Raw) (w : World) : Calls Tryd.prog 10 #[.agg #[.bool i.low.neg, .string i.low.num, .string i.low.den, .bool i.high.neg, .string i.high.num, .string i.high.den], .agg #[.bool r.neg, .string r.num, .string r.den]] w (GivesB (hasI i r) w) := by
  have hi : Hid (∀ w, Calls Tryd.prog 15 #[.agg #[.bool i.low.neg, .string i.low.num, .string i.low.den, .bool i.high.neg, .string i.high.num, .string i.high.den]] w (GivesB (okI i) w)) := Lib.hid (fun w => pivalid_any i w)
  have hr : Hid (∀ w, Calls Tryd.prog 21 #[.agg #[.bool r.neg, .string r.num, .string r.den]] w (GivesB (okR r) w)) := Lib.hid (fun w => pratvalid_any r w)
  have hc1 : Hid (∀ w, Calls Tryd.prog 22 #[.agg #[.bool r.neg, .string r.num, .string r.den], .agg #[.bool i.low.neg, .string i.low.num, .string i.low.den]] w (GivesB (lessR r i.low) w)) := Lib.hid (fun w => piless_any r i.low w)
  have hc2 : Hid (∀ w, Calls Tryd.prog 22 #[.agg #[.bool i.high.neg, .string i.high.num, .string i.high.den], .agg #[.bool r.neg, .string r.num, .string r.den]] w (GivesB (lessR i.high r) w)) := Lib.hid (fun w => piless_any i.high r w)
  rw [hasI_less]
  generalize okI i = v1 at *
  generalize okR r = v2 at *
  generalize lessR r i.low = c1 at *
  generalize lessR i.high r = c2 at *
  have D0 := Lib.hid (Below.refl w.heap.size w)
  cases v1
  ·
    go_enter Tryd.func10, Tryd.ntmps10
    go_wp2_with fail
    obtain ⟨B1, hB1⟩ : ∃ B, B = w.heap.size := ⟨_, rfl⟩
    obtain ⟨W1_0, hW1_0⟩ : ∃ W, W = w.alloc (Obj.cells #[Value.bool i.low.neg, Value.string i.low.num, Value.string i.low.den, Value.bool i.high.neg, Value.string i.high.num, Value.string i.high.den] 26) := ⟨_, rfl⟩
    have hb : Below w.heap.size w W1_0 := by rw [hW1_0]; exact (Below.refl _ _).alloc (Nat.le_refl _) _
    have hzW1_0 : w.heap.size = B1 := by rw [hB1]
    have hlW1_0 : IvAt (B1) i W1_0 := by rw [← hzW1_0, hW1_0]; exact ⟨heap_lastM _ _⟩
    have D1 := Lib.hid (D0.out.trans (hb.mono D0.out.size))
    clear hb
    have i_1 := Lib.hid hlW1_0
    clear hlW1_0
    obtain ⟨W1_1, hW1_1⟩ : ∃ W, W = W1_0.alloc (Obj.cells #[Value.bool r.neg, Value.string r.num, Value.string r.den] 24) := ⟨_, rfl⟩
    have hb : Below W1_0.heap.size W1_0 W1_1 := by rw [hW1_1]; exact (Below.refl _ _).alloc (Nat.le_refl _) _
    have hzW1_1 : W1_0.heap.size = B1 + 1 := by rw [hW1_0]; simp [hzW1_0]
    have hlW1_1 : RatAt (B1 + 1) r W1_1 := by rw [← hzW1_1, hW1_1]; exact ⟨heap_lastM _ _⟩
    have D2 := Lib.hid (D1.out.trans (hb.mono D1.out.size))
    have i_2 := Lib.hid (i_1.out.bel hb)
    clear D1 i_1
    clear hb
    have r_2 := Lib.hid hlW1_1
    clear hlW1_1
    rw [← hW1_0]
    rw [← hW1_1]
    simp only [← hB1]
    have HW1_0 := Lib.hid hW1_0
    clear hW1_0 hzW1_0
    have HW1_1 := Lib.hid hW1_1
    clear hW1_1 hzW1_1
    have HB1 := Lib.hid hB1
    clear hB1
    refine (hi.out _).mono ?_
    rintro e v3 ⟨rfl, hb⟩
    have D3 := Lib.hid (D2.out.trans (hb.mono D2.out.size))
    have i_3 := Lib.hid (i_2.out.bel hb)
    have r_3 := Lib.hid (r_2.out.bel hb)
    clear D2 i_2 r_2
    clear hb
    go_wp2_with fail
    go_ret
    exact ⟨by first | rfl | simp, D3.out⟩
  · cases v2
    ·
      go_enter Tryd.func10, Tryd.ntmps10
      go_wp2_with fail
      obtain ⟨B1, hB1⟩ : ∃ B, B = w.heap.size := ⟨_, rfl⟩
      obtain ⟨W1_0, hW1_0⟩ : ∃ W, W = w.alloc (Obj.cells #[Value.bool i.low.neg, Value.string i.low.num, Value.string i.low.den, Value.bool i.high.neg, Value.string i.high.num, Value.string i.high.den] 26) := ⟨_, rfl⟩
      have hb : Below w.heap.size w W1_0 := by rw [hW1_0]; exact (Below.refl _ _).alloc (Nat.le_refl _) _
      have hzW1_0 : w.heap.size = B1 := by rw [hB1]
      have hlW1_0 : IvAt (B1) i W1_0 := by rw [← hzW1_0, hW1_0]; exact ⟨heap_lastM _ _⟩
      have D1 := Lib.hid (D0.out.trans (hb.mono D0.out.size))
      clear hb
      have i_1 := Lib.hid hlW1_0
      clear hlW1_0
      obtain ⟨W1_1, hW1_1⟩ : ∃ W, W = W1_0.alloc (Obj.cells #[Value.bool r.neg, Value.string r.num, Value.string r.den] 24) := ⟨_, rfl⟩
      have hb : Below W1_0.heap.size W1_0 W1_1 := by rw [hW1_1]; exact (Below.refl _ _).alloc (Nat.le_refl _) _
      have hzW1_1 : W1_0.heap.size = B1 + 1 := by rw [hW1_0]; simp [hzW1_0]
      have hlW1_1 : RatAt (B1 + 1) r W1_1 := by rw [← hzW1_1, hW1_1]; exact ⟨heap_lastM _ _⟩
      have D2 := Lib.hid (D1.out.trans (hb.mono D1.out.size))
      have i_2 := Lib.hid (i_1.out.bel hb)
      clear D1 i_1
      clear hb
      have r_2 := Lib.hid hlW1_1
      clear hlW1_1
      rw [← hW1_0]
      rw [← hW1_1]
      simp only [← hB1]
      have HW1_0 := Lib.hid hW1_0
      clear hW1_0 hzW1_0
      have HW1_1 := Lib.hid hW1_1
      clear hW1_1 hzW1_1
      have HB1 := Lib.hid hB1
      clear hB1
      refine (hi.out _).mono ?_
      rintro e v3 ⟨rfl, hb⟩
      have D3 := Lib.hid (D2.out.trans (hb.mono D2.out.size))
      have i_3 := Lib.hid (i_2.out.bel hb)
      have r_3 := Lib.hid (r_2.out.bel hb)
      clear D2 i_2 r_2
      clear hb
      have ic0 := i_3.out.c0
      have ic1 := i_3.out.c1
      have ic2 := i_3.out.c2
      have ic3 := i_3.out.c3
      have ic4 := i_3.out.c4
      have ic5 := i_3.out.c5
      have rc0 := r_3.out.c0
      have rc1 := r_3.out.c1
      have rc2 := r_3.out.c2
      go_wp2_with fail
      clear ic0 ic1 ic2 ic3 ic4 ic5 rc0 rc1 rc2
      refine (hr.out _).mono ?_
      rintro e v4 ⟨rfl, hb⟩
      have D4 := Lib.hid (D3.out.trans (hb.mono D3.out.size))
      have i_4 := Lib.hid (i_3.out.bel hb)
      have r_4 := Lib.hid (r_3.out.bel hb)
      clear D3 i_3 r_3
      clear hb
      go_wp2_with fail
      go_ret
      exact ⟨by first | rfl | simp, D4.out⟩
    · cases c1
      ·
        go_enter Tryd.func10, Tryd.ntmps10
        go_wp2_with fail
        obtain ⟨B1, hB1⟩ : ∃ B, B = w.heap.size := ⟨_, rfl⟩
        obtain ⟨W1_0, hW1_0⟩ : ∃ W, W = w.alloc (Obj.cells #[Value.bool i.low.neg, Value.string i.low.num, Value.string i.low.den, Value.bool i.high.neg, Value.string i.high.num, Value.string i.high.den] 26) := ⟨_, rfl⟩
        have hb : Below w.heap.size w W1_0 := by rw [hW1_0]; exact (Below.refl _ _).alloc (Nat.le_refl _) _
        have hzW1_0 : w.heap.size = B1 := by rw [hB1]
        have hlW1_0 : IvAt (B1) i W1_0 := by rw [← hzW1_0, hW1_0]; exact ⟨heap_lastM _ _⟩
        have D1 := Lib.hid (D0.out.trans (hb.mono D0.out.size))
        clear hb
        have i_1 := Lib.hid hlW1_0
        clear hlW1_0
        obtain ⟨W1_1, hW1_1⟩ : ∃ W, W = W1_0.alloc (Obj.cells #[Value.bool r.neg, Value.string r.num, Value.string r.den] 24) := ⟨_, rfl⟩
        have hb : Below W1_0.heap.size W1_0 W1_1 := by rw [hW1_1]; exact (Below.refl _ _).alloc (Nat.le_refl _) _
        have hzW1_1 : W1_0.heap.size = B1 + 1 := by rw [hW1_0]; simp [hzW1_0]
        have hlW1_1 : RatAt (B1 + 1) r W1_1 := by rw [← hzW1_1, hW1_1]; exact ⟨heap_lastM _ _⟩
        have D2 := Lib.hid (D1.out.trans (hb.mono D1.out.size))
        have i_2 := Lib.hid (i_1.out.bel hb)
        clear D1 i_1
        clear hb
        have r_2 := Lib.hid hlW1_1
        clear hlW1_1
        rw [← hW1_0]
        rw [← hW1_1]
        simp only [← hB1]
        have HW1_0 := Lib.hid hW1_0
        clear hW1_0 hzW1_0
        have HW1_1 := Lib.hid hW1_1
        clear hW1_1 hzW1_1
        have HB1 := Lib.hid hB1
        clear hB1
        refine (hi.out _).mono ?_
        rintro e v3 ⟨rfl, hb⟩
        have D3 := Lib.hid (D2.out.trans (hb.mono D2.out.size))
        have i_3 := Lib.hid (i_2.out.bel hb)
        have r_3 := Lib.hid (r_2.out.bel hb)
        clear D2 i_2 r_2
        clear hb
        have ic0 := i_3.out.c0
        have ic1 := i_3.out.c1
        have ic2 := i_3.out.c2
        have ic3 := i_3.out.c3
        have ic4 := i_3.out.c4
        have ic5 := i_3.out.c5
        have rc0 := r_3.out.c0
        have rc1 := r_3.out.c1
        have rc2 := r_3.out.c2
        go_wp2_with fail
        clear ic0 ic1 ic2 ic3 ic4 ic5 rc0 rc1 rc2
        refine (hr.out _).mono ?_
        rintro e v4 ⟨rfl, hb⟩
        have D4 := Lib.hid (D3.out.trans (hb.mono D3.out.size))
        have i_4 := Lib.hid (i_3.out.bel hb)
        have r_4 := Lib.hid (r_3.out.bel hb)
        clear D3 i_3 r_3
        clear hb
        have ic0 := i_4.out.c0
        have ic1 := i_4.out.c1
        have ic2 := i_4.out.c2
        have ic3 := i_4.out.c3
        have ic4 := i_4.out.c4
        have ic5 := i_4.out.c5
        have rc0 := r_4.out.c0
        have rc1 := r_4.out.c1
        have rc2 := r_4.out.c2
        go_wp2_with fail
        clear ic0 ic1 ic2 ic3 ic4 ic5 rc0 rc1 rc2
        refine (hc1.out _).mono ?_
        rintro e v5 ⟨rfl, hb⟩
        have D5 := Lib.hid (D4.out.trans (hb.mono D4.out.size))
        have i_5 := Lib.hid (i_4.out.bel hb)
        have r_5 := Lib.hid (r_4.out.bel hb)
        clear D4 i_4 r_4
        clear hb
        have ic0 := i_5.out.c0
        have ic1 := i_5.out.c1
        have ic2 := i_5.out.c2
        have ic3 := i_5.out.c3
        have ic4 := i_5.out.c4
        have ic5 := i_5.out.c5
        have rc0 := r_5.out.c0
        have rc1 := r_5.out.c1
        have rc2 := r_5.out.c2
        go_wp2_with fail
        clear ic0 ic1 ic2 ic3 ic4 ic5 rc0 rc1 rc2
        refine (hc2.out _).mono ?_
        rintro e v6 ⟨rfl, hb⟩
        have D6 := Lib.hid (D5.out.trans (hb.mono D5.out.size))
        have i_6 := Lib.hid (i_5.out.bel hb)
        have r_6 := Lib.hid (r_5.out.bel hb)
        clear D5 i_5 r_5
        clear hb
        go_wp2_with fail
        go_ret
        exact ⟨by first | rfl | simp, D6.out⟩
      ·
        go_enter Tryd.func10, Tryd.ntmps10
        go_wp2_with fail
        obtain ⟨B1, hB1⟩ : ∃ B, B = w.heap.size := ⟨_, rfl⟩
        obtain ⟨W1_0, hW1_0⟩ : ∃ W, W = w.alloc (Obj.cells #[Value.bool i.low.neg, Value.string i.low.num, Value.string i.low.den, Value.bool i.high.neg, Value.string i.high.num, Value.string i.high.den] 26) := ⟨_, rfl⟩
        have hb : Below w.heap.size w W1_0 := by rw [hW1_0]; exact (Below.refl _ _).alloc (Nat.le_refl _) _
        have hzW1_0 : w.heap.size = B1 := by rw [hB1]
        have hlW1_0 : IvAt (B1) i W1_0 := by rw [← hzW1_0, hW1_0]; exact ⟨heap_lastM _ _⟩
        have D1 := Lib.hid (D0.out.trans (hb.mono D0.out.size))
        clear hb
        have i_1 := Lib.hid hlW1_0
        clear hlW1_0
        obtain ⟨W1_1, hW1_1⟩ : ∃ W, W = W1_0.alloc (Obj.cells #[Value.bool r.neg, Value.string r.num, Value.string r.den] 24) := ⟨_, rfl⟩
        have hb : Below W1_0.heap.size W1_0 W1_1 := by rw [hW1_1]; exact (Below.refl _ _).alloc (Nat.le_refl _) _
        have hzW1_1 : W1_0.heap.size = B1 + 1 := by rw [hW1_0]; simp [hzW1_0]
        have hlW1_1 : RatAt (B1 + 1) r W1_1 := by rw [← hzW1_1, hW1_1]; exact ⟨heap_lastM _ _⟩
        have D2 := Lib.hid (D1.out.trans (hb.mono D1.out.size))
        have i_2 := Lib.hid (i_1.out.bel hb)
        clear D1 i_1
        clear hb
        have r_2 := Lib.hid hlW1_1
        clear hlW1_1
        rw [← hW1_0]
        rw [← hW1_1]
        simp only [← hB1]
        have HW1_0 := Lib.hid hW1_0
        clear hW1_0 hzW1_0
        have HW1_1 := Lib.hid hW1_1
        clear hW1_1 hzW1_1
        have HB1 := Lib.hid hB1
        clear hB1
        refine (hi.out _).mono ?_
        rintro e v3 ⟨rfl, hb⟩
        have D3 := Lib.hid (D2.out.trans (hb.mono D2.out.size))
        have i_3 := Lib.hid (i_2.out.bel hb)
        have r_3 := Lib.hid (r_2.out.bel hb)
        clear D2 i_2 r_2
        clear hb
        have ic0 := i_3.out.c0
        have ic1 := i_3.out.c1
        have ic2 := i_3.out.c2
        have ic3 := i_3.out.c3
        have ic4 := i_3.out.c4
        have ic5 := i_3.out.c5
        have rc0 := r_3.out.c0
        have rc1 := r_3.out.c1
        have rc2 := r_3.out.c2
        go_wp2_with fail
        clear ic0 ic1 ic2 ic3 ic4 ic5 rc0 rc1 rc2
        refine (hr.out _).mono ?_
        rintro e v4 ⟨rfl, hb⟩
        have D4 := Lib.hid (D3.out.trans (hb.mono D3.out.size))
        have i_4 := Lib.hid (i_3.out.bel hb)
        have r_4 := Lib.hid (r_3.out.bel hb)
        clear D3 i_3 r_3
        clear hb
        have ic0 := i_4.out.c0
        have ic1 := i_4.out.c1
        have ic2 := i_4.out.c2
        have ic3 := i_4.out.c3
        have ic4 := i_4.out.c4
        have ic5 := i_4.out.c5
        have rc0 := r_4.out.c0
        have rc1 := r_4.out.c1
        have rc2 := r_4.out.c2
        go_wp2_with fail
        clear ic0 ic1 ic2 ic3 ic4 ic5 rc0 rc1 rc2
        refine (hc1.out _).mono ?_
        rintro e v5 ⟨rfl, hb⟩
        have D5 := Lib.hid (D4.out.trans (hb.mono D4.out.size))
        have i_5 := Lib.hid (i_4.out.bel hb)
        have r_5 := Lib.hid (r_4.out.bel hb)
        clear D4 i_4 r_4
        clear hb
        go_wp2_with fail
        go_ret
        exact ⟨by first | rfl | simp, D5.out⟩
end Go.Proofs.YtbcoblpnihdhgaaDoor
