/-
  What the statements of layer 5 share: intervals of quotients, the check of the sizes.
-/
import Derived.Test.YtbcoblpnihdhgaaDoorRmG
import Derived.Test.YtbcoblpnihdhgaaDoorIvAt
import Derived.Test.YtbcoblpnihdhgaaDoorIvLaw
import Derived.Deep.RegionHeld3
import Derived.Deep.DeepCutAuto
set_option linter.unusedVariables false
set_option maxRecDepth 100000
namespace Go.Proofs.YtbcoblpnihdhgaaDoor
open Go.RowKit
open Rt
set_option maxHeartbeats 2000000 in
theorem piof_any (a b c d : Int) (w : World) (ha : -9223372036854775808 ≤ a ∧ a ≤ 9223372036854775807) (hb : -9223372036854775808 ≤ b ∧ b ≤ 9223372036854775807) (hc : -9223372036854775808 ≤ c ∧ c ≤ 9223372036854775807) (hd : -9223372036854775808 ≤ d ∧ d ≤ 9223372036854775807) (ht : TabOk w) :
    Calls Tryd.prog 18 #[.int .i64 a, .int .i64 b, .int .i64 c, .int .i64 d] w (GivesV ⟨(ofE a b).1, (ofE c d).1⟩ w) := by
  obtain ⟨x, e, hx⟩ : ∃ x e, ofE a b = (x, e) := ⟨_, _, rfl⟩
  obtain ⟨y, f, hy⟩ : ∃ y f, ofE c d = (y, f) := ⟨_, _, rfl⟩
  rw [hx, hy]
  have HX := Lib.hid hx; have HY := Lib.hid hy; have HT := Lib.hid ht
  have HB := Lib.hid (And.intro ha (And.intro hb (And.intro hc hd)))
  clear hx hy ht ha hb hc hd
  have D0 := Lib.hid (Below.refl w.heap.size w)
  go_enter Tryd.func18, Tryd.ntmps18
  go_wp2_with fail
  obtain ⟨B1, hB1⟩ : ∃ B, B = w.heap.size := ⟨_, rfl⟩
  obtain ⟨W1_0, hW1_0⟩ : ∃ W, W = w.alloc (Obj.cells #[Value.bool false, Value.string ⟨#[]⟩, Value.string ⟨#[]⟩, Value.bool false, Value.string ⟨#[]⟩, Value.string ⟨#[]⟩] 26) := ⟨_, rfl⟩
  have hb : Below w.heap.size w W1_0 := by rw [hW1_0]; exact (Below.refl _ _).alloc (Nat.le_refl _) _
  have hzW1_0 : w.heap.size = B1 := by rw [hB1]
  have hlW1_0 : IvAt (B1) noI W1_0 := by rw [← hzW1_0, hW1_0]; exact ⟨heap_lastM _ _⟩
  have D1 := Lib.hid (D0.out.trans (hb.mono D0.out.size))
  clear hb
  have z_1 := Lib.hid hlW1_0
  clear hlW1_0
  rw [← hW1_0]
  simp only [← hB1]
  have HW1_0 := Lib.hid hW1_0
  clear hW1_0 hzW1_0
  have HB1 := Lib.hid hB1
  clear hB1
  refine (pof_any a b _ HB.out.1.1 HB.out.1.2 HB.out.2.1.1 HB.out.2.1.2 (HT.out.below D1.out)).mono ?_
  rintro e v2 ⟨rfl, hb⟩
  have D2 := Lib.hid (D1.out.trans (hb.mono D1.out.size))
  have z_2 := Lib.hid (z_1.out.bel hb)
  clear D1 z_1
  clear hb
  simp only [HX.out]
  go_wp2_with fail
  obtain ⟨B2, hB2⟩ : ∃ B, B = v2.heap.size := ⟨_, rfl⟩
  obtain ⟨W2_0, hW2_0⟩ : ∃ W, W = v2.alloc (Obj.cells #[Value.bool x.neg, Value.string x.num, Value.string x.den] 24) := ⟨_, rfl⟩
  have hb : Below v2.heap.size v2 W2_0 := by rw [hW2_0]; exact (Below.refl _ _).alloc (Nat.le_refl _) _
  have hzW2_0 : v2.heap.size = B2 := by rw [hB2]
  have hlW2_0 : RatAt (B2) x W2_0 := by rw [← hzW2_0, hW2_0]; exact ⟨heap_lastM _ _⟩
  have D3 := Lib.hid (D2.out.trans (hb.mono D2.out.size))
  have z_3 := Lib.hid (z_2.out.bel hb)
  clear D2 z_2
  clear hb
  have x_3 := Lib.hid hlW2_0
  clear hlW2_0
  rw [← hW2_0]
  simp only [← hB2]
  have HW2_0 := Lib.hid hW2_0
  clear hW2_0 hzW2_0
  have HB2 := Lib.hid hB2
  clear hB2
  refine (pof_any c d _ HB.out.2.2.1.1 HB.out.2.2.1.2 HB.out.2.2.2.1 HB.out.2.2.2.2 (HT.out.below D3.out)).mono ?_
  rintro e v4 ⟨rfl, hb⟩
  have D4 := Lib.hid (D3.out.trans (hb.mono D3.out.size))
  have z_4 := Lib.hid (z_3.out.bel hb)
  have x_4 := Lib.hid (x_3.out.bel hb)
  clear D3 z_3 x_3
  clear hb
  simp only [HY.out]
  have xc0 := x_4.out.c0
  have xc1 := x_4.out.c1
  have xc2 := x_4.out.c2
  have xz := blk_lt x_4.out.cells
  have zl := blk_lt z_4.out.cells
  have zc0 := z_4.out.c0
  have zf0 := z_4.out.fz 0
  have zc1 := z_4.out.c1
  have zf1 := z_4.out.fz 1
  have zc2 := z_4.out.c2
  have zf2 := z_4.out.fz 2
  have zc3 := z_4.out.c3
  have zf3 := z_4.out.fz 3
  have zc4 := z_4.out.c4
  have zf4 := z_4.out.fz 4
  have zc5 := z_4.out.c5
  have zf5 := z_4.out.fz 5
  have hnz : B1 ≠ v4.heap.size := by omega
  go_wp2_with fail
  (try simp only [Exit.inBlock, Exit.then])
  refine bodyPost_ret (results_iv1 rfl _ _ (B1) ⟨⟨_, _, _⟩, ⟨_, _, _⟩⟩ rfl ((z_4.out.set ⟨⟨_, _, _⟩, ⟨_, _, _⟩⟩).bel ((Below.refl _ _).alloc (Nat.le_refl _) _))) rfl ?_
  exact ⟨rfl, ((((((D4.out.setCell (p := ⟨B1, 0, none⟩) (by have := HB1.out; show w.heap.size ≤ B1; omega) _).setCell (p := ⟨B1, 1, none⟩) (by have := HB1.out; show w.heap.size ≤ B1; omega) _).setCell (p := ⟨B1, 2, none⟩) (by have := HB1.out; show w.heap.size ≤ B1; omega) _).setCell (p := ⟨B1, 3, none⟩) (by have := HB1.out; show w.heap.size ≤ B1; omega) _).setCell (p := ⟨B1, 4, none⟩) (by have := HB1.out; show w.heap.size ≤ B1; omega) _).setCell (p := ⟨B1, 5, none⟩) (by have := HB1.out; show w.heap.size ≤ B1; omega) _).alloc (by have := D4.out.size; simpa using this) _⟩
end Go.Proofs.YtbcoblpnihdhgaaDoor
