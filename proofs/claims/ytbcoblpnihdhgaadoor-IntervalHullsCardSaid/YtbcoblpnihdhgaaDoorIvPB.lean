/-
  The program's interval package: Add.
-/
import Derived.Test.YtbcoblpnihdhgaaDoorRmF
import Derived.Test.YtbcoblpnihdhgaaDoorIvPA
set_option linter.unusedVariables false
set_option maxRecDepth 100000
namespace Go.Proofs.YtbcoblpnihdhgaaDoor
open Go.RowKit
open Rt
set_option maxHeartbeats 40000000 in
theorem piadd_any (a b : Iv) (w : World) : Calls Tryd.prog 11 #[.agg #[.bool a.low.neg, .string a.low.num, .string a.low.den, .bool a.high.neg, .string a.high.num, .string a.high.den], .agg #[.bool b.low.neg, .string b.low.num, .string b.low.den, .bool b.high.neg, .string b.high.num, .string b.high.den]] w (GivesI (addI a b) w) := by
  obtain ⟨t, ht⟩ : ∃ t, t = addI a b := ⟨_, rfl⟩
  rw [← ht]
  have D0 := Lib.hid (Below.refl w.heap.size w)
  by_cases ha : okI a = true
  case neg =>
    have ha := Bool.eq_false_iff.2 ha
    have hva : Hid (∀ w, Calls Tryd.prog 15 #[.agg #[.bool a.low.neg, .string a.low.num, .string a.low.den, .bool a.high.neg, .string a.high.num, .string a.high.den]] w (GivesB false w)) := Lib.hid (fun w => by have := pivalid_any a w; rwa [ha] at this)
    have HTT : Hid (t = (noI, 1)) := Lib.hid (by rw [ht]; unfold addI; rw [ha]; rfl)
    clear ht ha
    go_enter Tryd.func11, Tryd.ntmps11
    go_wp2_with fail
    obtain ⟨B1, hB1⟩ : ∃ B, B = w.heap.size := ⟨_, rfl⟩
    obtain ⟨W1_0, hW1_0⟩ : ∃ W, W = w.alloc (Obj.cells #[Value.bool a.low.neg, Value.string a.low.num, Value.string a.low.den, Value.bool a.high.neg, Value.string a.high.num, Value.string a.high.den] 26) := ⟨_, rfl⟩
    have hb : Below w.heap.size w W1_0 := by rw [hW1_0]; exact (Below.refl _ _).alloc (Nat.le_refl _) _
    have hzW1_0 : w.heap.size = B1 := by rw [hB1]
    have hlW1_0 : IvAt (B1) a W1_0 := by rw [← hzW1_0, hW1_0]; exact ⟨heap_lastM _ _⟩
    have D1 := Lib.hid (D0.out.trans (hb.mono D0.out.size))
    clear hb
    have a_1 := Lib.hid hlW1_0
    clear hlW1_0
    obtain ⟨W1_1, hW1_1⟩ : ∃ W, W = W1_0.alloc (Obj.cells #[Value.bool b.low.neg, Value.string b.low.num, Value.string b.low.den, Value.bool b.high.neg, Value.string b.high.num, Value.string b.high.den] 26) := ⟨_, rfl⟩
    have hb : Below W1_0.heap.size W1_0 W1_1 := by rw [hW1_1]; exact (Below.refl _ _).alloc (Nat.le_refl _) _
    have hzW1_1 : W1_0.heap.size = B1 + 1 := by rw [hW1_0]; simp [hzW1_0]
    have hlW1_1 : IvAt (B1 + 1) b W1_1 := by rw [← hzW1_1, hW1_1]; exact ⟨heap_lastM _ _⟩
    have D2 := Lib.hid (D1.out.trans (hb.mono D1.out.size))
    have a_2 := Lib.hid (a_1.out.bel hb)
    clear D1 a_1
    clear hb
    have b_2 := Lib.hid hlW1_1
    clear hlW1_1
    obtain ⟨W1_2, hW1_2⟩ : ∃ W, W = W1_1.alloc (Obj.cells #[Value.bool false, Value.string ⟨#[]⟩, Value.string ⟨#[]⟩, Value.bool false, Value.string ⟨#[]⟩, Value.string ⟨#[]⟩] 26) := ⟨_, rfl⟩
    have hb : Below W1_1.heap.size W1_1 W1_2 := by rw [hW1_2]; exact (Below.refl _ _).alloc (Nat.le_refl _) _
    have hzW1_2 : W1_1.heap.size = B1 + 1 + 1 := by rw [hW1_1]; simp [hzW1_1]
    have hlW1_2 : IvAt (B1 + 1 + 1) noI W1_2 := by rw [← hzW1_2, hW1_2]; exact ⟨heap_lastM _ _⟩
    have D3 := Lib.hid (D2.out.trans (hb.mono D2.out.size))
    have a_3 := Lib.hid (a_2.out.bel hb)
    have b_3 := Lib.hid (b_2.out.bel hb)
    clear D2 a_2 b_2
    clear hb
    have z_3 := Lib.hid hlW1_2
    clear hlW1_2
    rw [← hW1_0]
    rw [← hW1_1]
    rw [← hW1_2]
    simp only [← hB1]
    have HW1_0 := Lib.hid hW1_0
    clear hW1_0 hzW1_0
    have HW1_1 := Lib.hid hW1_1
    clear hW1_1 hzW1_1
    have HW1_2 := Lib.hid hW1_2
    clear hW1_2 hzW1_2
    have HB1 := Lib.hid hB1
    clear hB1
    have ac0 := a_3.out.c0
    have ac1 := a_3.out.c1
    have ac2 := a_3.out.c2
    have ac3 := a_3.out.c3
    have ac4 := a_3.out.c4
    have ac5 := a_3.out.c5
    have bc0 := b_3.out.c0
    have bc1 := b_3.out.c1
    have bc2 := b_3.out.c2
    have bc3 := b_3.out.c3
    have bc4 := b_3.out.c4
    have bc5 := b_3.out.c5
    go_wp2_with fail
    clear ac0 ac1 ac2 ac3 ac4 ac5 bc0 bc1 bc2 bc3 bc4 bc5
    refine (hva.out _).mono ?_
    rintro e v4 ⟨rfl, hb⟩
    have D4 := Lib.hid (D3.out.trans (hb.mono D3.out.size))
    have a_4 := Lib.hid (a_3.out.bel hb)
    have b_4 := Lib.hid (b_3.out.bel hb)
    have z_4 := Lib.hid (z_3.out.bel hb)
    clear D3 a_3 b_3 z_3
    clear hb
    have zc0 := z_4.out.c0
    have zf0 := z_4.out.fz 0
    have zc1 := z_4.out.c1
    have zf1 := z_4.out.fz 1
    have zc2 := z_4.out.c2
    have zf2 := z_4.out.fz 2
    have zc3 := z_4.out.c3
    have zf3 := z_4.out.fz 3
    have zc4 := z_4.out.c4
    have zf4 := z_4.out.fz 4
    have zc5 := z_4.out.c5
    have zf5 := z_4.out.fz 5
    go_wp2_with fail
    (try simp only [Exit.inBlock, Exit.then])
    refine bodyPost_ret (results_iv rfl _ _ (B1 + 1 + 1) noI _ rfl rfl (z_4.out.set noI)) rfl ?_; rw [HTT.out]; exact ⟨rfl, ((((((D4.out.setCell (p := ⟨B1 + 1 + 1, 0, none⟩) (by have := HB1.out; show w.heap.size ≤ B1 + 1 + 1; omega) _).setCell (p := ⟨B1 + 1 + 1, 1, none⟩) (by have := HB1.out; show w.heap.size ≤ B1 + 1 + 1; omega) _).setCell (p := ⟨B1 + 1 + 1, 2, none⟩) (by have := HB1.out; show w.heap.size ≤ B1 + 1 + 1; omega) _).setCell (p := ⟨B1 + 1 + 1, 3, none⟩) (by have := HB1.out; show w.heap.size ≤ B1 + 1 + 1; omega) _).setCell (p := ⟨B1 + 1 + 1, 4, none⟩) (by have := HB1.out; show w.heap.size ≤ B1 + 1 + 1; omega) _).setCell (p := ⟨B1 + 1 + 1, 5, none⟩) (by have := HB1.out; show w.heap.size ≤ B1 + 1 + 1; omega) _)⟩
  have hva : Hid (∀ w, Calls Tryd.prog 15 #[.agg #[.bool a.low.neg, .string a.low.num, .string a.low.den, .bool a.high.neg, .string a.high.num, .string a.high.den]] w (GivesB true w)) := Lib.hid (fun w => by have := pivalid_any a w; rwa [ha] at this)
  by_cases hb : okI b = true
  case neg =>
    have hb := Bool.eq_false_iff.2 hb
    have hvb : Hid (∀ w, Calls Tryd.prog 15 #[.agg #[.bool b.low.neg, .string b.low.num, .string b.low.den, .bool b.high.neg, .string b.high.num, .string b.high.den]] w (GivesB false w)) := Lib.hid (fun w => by have := pivalid_any b w; rwa [hb] at this)
    have HTT : Hid (t = (noI, 1)) := Lib.hid (by rw [ht]; unfold addI; rw [ha, hb]; rfl)
    clear ht ha hb
    go_enter Tryd.func11, Tryd.ntmps11
    go_wp2_with fail
    obtain ⟨B1, hB1⟩ : ∃ B, B = w.heap.size := ⟨_, rfl⟩
    obtain ⟨W1_0, hW1_0⟩ : ∃ W, W = w.alloc (Obj.cells #[Value.bool a.low.neg, Value.string a.low.num, Value.string a.low.den, Value.bool a.high.neg, Value.string a.high.num, Value.string a.high.den] 26) := ⟨_, rfl⟩
    have hb : Below w.heap.size w W1_0 := by rw [hW1_0]; exact (Below.refl _ _).alloc (Nat.le_refl _) _
    have hzW1_0 : w.heap.size = B1 := by rw [hB1]
    have hlW1_0 : IvAt (B1) a W1_0 := by rw [← hzW1_0, hW1_0]; exact ⟨heap_lastM _ _⟩
    have D1 := Lib.hid (D0.out.trans (hb.mono D0.out.size))
    clear hb
    have a_1 := Lib.hid hlW1_0
    clear hlW1_0
    obtain ⟨W1_1, hW1_1⟩ : ∃ W, W = W1_0.alloc (Obj.cells #[Value.bool b.low.neg, Value.string b.low.num, Value.string b.low.den, Value.bool b.high.neg, Value.string b.high.num, Value.string b.high.den] 26) := ⟨_, rfl⟩
    have hb : Below W1_0.heap.size W1_0 W1_1 := by rw [hW1_1]; exact (Below.refl _ _).alloc (Nat.le_refl _) _
    have hzW1_1 : W1_0.heap.size = B1 + 1 := by rw [hW1_0]; simp [hzW1_0]
    have hlW1_1 : IvAt (B1 + 1) b W1_1 := by rw [← hzW1_1, hW1_1]; exact ⟨heap_lastM _ _⟩
    have D2 := Lib.hid (D1.out.trans (hb.mono D1.out.size))
    have a_2 := Lib.hid (a_1.out.bel hb)
    clear D1 a_1
    clear hb
    have b_2 := Lib.hid hlW1_1
    clear hlW1_1
    obtain ⟨W1_2, hW1_2⟩ : ∃ W, W = W1_1.alloc (Obj.cells #[Value.bool false, Value.string ⟨#[]⟩, Value.string ⟨#[]⟩, Value.bool false, Value.string ⟨#[]⟩, Value.string ⟨#[]⟩] 26) := ⟨_, rfl⟩
    have hb : Below W1_1.heap.size W1_1 W1_2 := by rw [hW1_2]; exact (Below.refl _ _).alloc (Nat.le_refl _) _
    have hzW1_2 : W1_1.heap.size = B1 + 1 + 1 := by rw [hW1_1]; simp [hzW1_1]
    have hlW1_2 : IvAt (B1 + 1 + 1) noI W1_2 := by rw [← hzW1_2, hW1_2]; exact ⟨heap_lastM _ _⟩
    have D3 := Lib.hid (D2.out.trans (hb.mono D2.out.size))
    have a_3 := Lib.hid (a_2.out.bel hb)
    have b_3 := Lib.hid (b_2.out.bel hb)
    clear D2 a_2 b_2
    clear hb
    have z_3 := Lib.hid hlW1_2
    clear hlW1_2
    rw [← hW1_0]
    rw [← hW1_1]
    rw [← hW1_2]
    simp only [← hB1]
    have HW1_0 := Lib.hid hW1_0
    clear hW1_0 hzW1_0
    have HW1_1 := Lib.hid hW1_1
    clear hW1_1 hzW1_1
    have HW1_2 := Lib.hid hW1_2
    clear hW1_2 hzW1_2
    have HB1 := Lib.hid hB1
    clear hB1
    have ac0 := a_3.out.c0
    have ac1 := a_3.out.c1
    have ac2 := a_3.out.c2
    have ac3 := a_3.out.c3
    have ac4 := a_3.out.c4
    have ac5 := a_3.out.c5
    have bc0 := b_3.out.c0
    have bc1 := b_3.out.c1
    have bc2 := b_3.out.c2
    have bc3 := b_3.out.c3
    have bc4 := b_3.out.c4
    have bc5 := b_3.out.c5
    go_wp2_with fail
    clear ac0 ac1 ac2 ac3 ac4 ac5 bc0 bc1 bc2 bc3 bc4 bc5
    refine (hva.out _).mono ?_
    rintro e v4 ⟨rfl, hb⟩
    have D4 := Lib.hid (D3.out.trans (hb.mono D3.out.size))
    have a_4 := Lib.hid (a_3.out.bel hb)
    have b_4 := Lib.hid (b_3.out.bel hb)
    have z_4 := Lib.hid (z_3.out.bel hb)
    clear D3 a_3 b_3 z_3
    clear hb
    have ac0 := a_4.out.c0
    have ac1 := a_4.out.c1
    have ac2 := a_4.out.c2
    have ac3 := a_4.out.c3
    have ac4 := a_4.out.c4
    have ac5 := a_4.out.c5
    have bc0 := b_4.out.c0
    have bc1 := b_4.out.c1
    have bc2 := b_4.out.c2
    have bc3 := b_4.out.c3
    have bc4 := b_4.out.c4
    have bc5 := b_4.out.c5
    go_wp2_with fail
    clear ac0 ac1 ac2 ac3 ac4 ac5 bc0 bc1 bc2 bc3 bc4 bc5
    refine (hvb.out _).mono ?_
    rintro e v5 ⟨rfl, hb⟩
    have D5 := Lib.hid (D4.out.trans (hb.mono D4.out.size))
    have a_5 := Lib.hid (a_4.out.bel hb)
    have b_5 := Lib.hid (b_4.out.bel hb)
    have z_5 := Lib.hid (z_4.out.bel hb)
    clear D4 a_4 b_4 z_4
    clear hb
    have zc0 := z_5.out.c0
    have zf0 := z_5.out.fz 0
    have zc1 := z_5.out.c1
    have zf1 := z_5.out.fz 1
    have zc2 := z_5.out.c2
    have zf2 := z_5.out.fz 2
    have zc3 := z_5.out.c3
    have zf3 := z_5.out.fz 3
    have zc4 := z_5.out.c4
    have zf4 := z_5.out.fz 4
    have zc5 := z_5.out.c5
    have zf5 := z_5.out.fz 5
    go_wp2_with fail
    (try simp only [Exit.inBlock, Exit.then])
    refine bodyPost_ret (results_iv rfl _ _ (B1 + 1 + 1) noI _ rfl rfl (z_5.out.set noI)) rfl ?_; rw [HTT.out]; exact ⟨rfl, ((((((D5.out.setCell (p := ⟨B1 + 1 + 1, 0, none⟩) (by have := HB1.out; show w.heap.size ≤ B1 + 1 + 1; omega) _).setCell (p := ⟨B1 + 1 + 1, 1, none⟩) (by have := HB1.out; show w.heap.size ≤ B1 + 1 + 1; omega) _).setCell (p := ⟨B1 + 1 + 1, 2, none⟩) (by have := HB1.out; show w.heap.size ≤ B1 + 1 + 1; omega) _).setCell (p := ⟨B1 + 1 + 1, 3, none⟩) (by have := HB1.out; show w.heap.size ≤ B1 + 1 + 1; omega) _).setCell (p := ⟨B1 + 1 + 1, 4, none⟩) (by have := HB1.out; show w.heap.size ≤ B1 + 1 + 1; omega) _).setCell (p := ⟨B1 + 1 + 1, 5, none⟩) (by have := HB1.out; show w.heap.size ≤ B1 + 1 + 1; omega) _)⟩
  have hvb : Hid (∀ w, Calls Tryd.prog 15 #[.agg #[.bool b.low.neg, .string b.low.num, .string b.low.den, .bool b.high.neg, .string b.high.num, .string b.high.den]] w (GivesB true w)) := Lib.hid (fun w => by have := pivalid_any b w; rwa [hb] at this)
  obtain ⟨x, e, hx⟩ : ∃ x e, addE a.low b.low = (x, e) := ⟨_, _, rfl⟩
  obtain ⟨y, f, hy⟩ : ∃ y f, addE a.high b.high = (y, f) := ⟨_, _, rfl⟩
  have hka := addE_kind (okI_iff.1 ha).1 (okI_iff.1 hb).1
  have hkb := addE_kind (okI_iff.1 ha).2.1 (okI_iff.1 hb).2.1
  rw [hx] at hka
  rw [hy] at hkb
  have ht2 : t = if e = 0 ∧ f = 0 then (⟨x, y⟩, 0) else (noI, 2) := by rw [ht]; unfold addI; rw [ha, hb, hx, hy]; rfl
  have hadd1 : Hid (∀ w, Calls Tryd.prog 13 #[.agg #[.bool a.low.neg, .string a.low.num, .string a.low.den], .agg #[.bool b.low.neg, .string b.low.num, .string b.low.den]] w (GivesR (x, e) w)) := Lib.hid (fun w => by have := pratadd_any a.low b.low w; rwa [hx] at this)
  have hadd2 : Hid (∀ w, Calls Tryd.prog 13 #[.agg #[.bool a.high.neg, .string a.high.num, .string a.high.den], .agg #[.bool b.high.neg, .string b.high.num, .string b.high.den]] w (GivesR (y, f) w)) := Lib.hid (fun w => by have := pratadd_any a.high b.high w; rwa [hy] at this)
  clear ht ha hb hx hy
  simp only at hka hkb
  rcases hka with rfl | rfl
  · rcases hkb with rfl | rfl
    · have HTT : Hid (t = (⟨x, y⟩, 0)) := Lib.hid (by rw [ht2, if_pos ⟨rfl, rfl⟩])
      clear ht2
      go_enter Tryd.func11, Tryd.ntmps11
      go_wp2_with fail
      obtain ⟨B1, hB1⟩ : ∃ B, B = w.heap.size := ⟨_, rfl⟩
      obtain ⟨W1_0, hW1_0⟩ : ∃ W, W = w.alloc (Obj.cells #[Value.bool a.low.neg, Value.string a.low.num, Value.string a.low.den, Value.bool a.high.neg, Value.string a.high.num, Value.string a.high.den] 26) := ⟨_, rfl⟩
      have hb : Below w.heap.size w W1_0 := by rw [hW1_0]; exact (Below.refl _ _).alloc (Nat.le_refl _) _
      have hzW1_0 : w.heap.size = B1 := by rw [hB1]
      have hlW1_0 : IvAt (B1) a W1_0 := by rw [← hzW1_0, hW1_0]; exact ⟨heap_lastM _ _⟩
      have D1 := Lib.hid (D0.out.trans (hb.mono D0.out.size))
      clear hb
      have a_1 := Lib.hid hlW1_0
      clear hlW1_0
      obtain ⟨W1_1, hW1_1⟩ : ∃ W, W = W1_0.alloc (Obj.cells #[Value.bool b.low.neg, Value.string b.low.num, Value.string b.low.den, Value.bool b.high.neg, Value.string b.high.num, Value.string b.high.den] 26) := ⟨_, rfl⟩
      have hb : Below W1_0.heap.size W1_0 W1_1 := by rw [hW1_1]; exact (Below.refl _ _).alloc (Nat.le_refl _) _
      have hzW1_1 : W1_0.heap.size = B1 + 1 := by rw [hW1_0]; simp [hzW1_0]
      have hlW1_1 : IvAt (B1 + 1) b W1_1 := by rw [← hzW1_1, hW1_1]; exact ⟨heap_lastM _ _⟩
      have D2 := Lib.hid (D1.out.trans (hb.mono D1.out.size))
      have a_2 := Lib.hid (a_1.out.bel hb)
      clear D1 a_1
      clear hb
      have b_2 := Lib.hid hlW1_1
      clear hlW1_1
      obtain ⟨W1_2, hW1_2⟩ : ∃ W, W = W1_1.alloc (Obj.cells #[Value.bool false, Value.string ⟨#[]⟩, Value.string ⟨#[]⟩, Value.bool false, Value.string ⟨#[]⟩, Value.string ⟨#[]⟩] 26) := ⟨_, rfl⟩
      have hb : Below W1_1.heap.size W1_1 W1_2 := by rw [hW1_2]; exact (Below.refl _ _).alloc (Nat.le_refl _) _
      have hzW1_2 : W1_1.heap.size = B1 + 1 + 1 := by rw [hW1_1]; simp [hzW1_1]
      have hlW1_2 : IvAt (B1 + 1 + 1) noI W1_2 := by rw [← hzW1_2, hW1_2]; exact ⟨heap_lastM _ _⟩
      have D3 := Lib.hid (D2.out.trans (hb.mono D2.out.size))
      have a_3 := Lib.hid (a_2.out.bel hb)
      have b_3 := Lib.hid (b_2.out.bel hb)
      clear D2 a_2 b_2
      clear hb
      have z_3 := Lib.hid hlW1_2
      clear hlW1_2
      rw [← hW1_0]
      rw [← hW1_1]
      rw [← hW1_2]
      simp only [← hB1]
      have HW1_0 := Lib.hid hW1_0
      clear hW1_0 hzW1_0
      have HW1_1 := Lib.hid hW1_1
      clear hW1_1 hzW1_1
      have HW1_2 := Lib.hid hW1_2
      clear hW1_2 hzW1_2
      have HB1 := Lib.hid hB1
      clear hB1
      have ac0 := a_3.out.c0
      have ac1 := a_3.out.c1
      have ac2 := a_3.out.c2
      have ac3 := a_3.out.c3
      have ac4 := a_3.out.c4
      have ac5 := a_3.out.c5
      have bc0 := b_3.out.c0
      have bc1 := b_3.out.c1
      have bc2 := b_3.out.c2
      have bc3 := b_3.out.c3
      have bc4 := b_3.out.c4
      have bc5 := b_3.out.c5
      go_wp2_with fail
      clear ac0 ac1 ac2 ac3 ac4 ac5 bc0 bc1 bc2 bc3 bc4 bc5
      refine (hva.out _).mono ?_
      rintro e v4 ⟨rfl, hb⟩
      have D4 := Lib.hid (D3.out.trans (hb.mono D3.out.size))
      have a_4 := Lib.hid (a_3.out.bel hb)
      have b_4 := Lib.hid (b_3.out.bel hb)
      have z_4 := Lib.hid (z_3.out.bel hb)
      clear D3 a_3 b_3 z_3
      clear hb
      have ac0 := a_4.out.c0
      have ac1 := a_4.out.c1
      have ac2 := a_4.out.c2
      have ac3 := a_4.out.c3
      have ac4 := a_4.out.c4
      have ac5 := a_4.out.c5
      have bc0 := b_4.out.c0
      have bc1 := b_4.out.c1
      have bc2 := b_4.out.c2
      have bc3 := b_4.out.c3
      have bc4 := b_4.out.c4
      have bc5 := b_4.out.c5
      go_wp2_with fail
      clear ac0 ac1 ac2 ac3 ac4 ac5 bc0 bc1 bc2 bc3 bc4 bc5
      refine (hvb.out _).mono ?_
      rintro e v5 ⟨rfl, hb⟩
      have D5 := Lib.hid (D4.out.trans (hb.mono D4.out.size))
      have a_5 := Lib.hid (a_4.out.bel hb)
      have b_5 := Lib.hid (b_4.out.bel hb)
      have z_5 := Lib.hid (z_4.out.bel hb)
      clear D4 a_4 b_4 z_4
      clear hb
      have ac0 := a_5.out.c0
      have ac1 := a_5.out.c1
      have ac2 := a_5.out.c2
      have ac3 := a_5.out.c3
      have ac4 := a_5.out.c4
      have ac5 := a_5.out.c5
      have az := blk_lt a_5.out.cells
      have bc0 := b_5.out.c0
      have bc1 := b_5.out.c1
      have bc2 := b_5.out.c2
      have bc3 := b_5.out.c3
      have bc4 := b_5.out.c4
      have bc5 := b_5.out.c5
      have bz := blk_lt b_5.out.cells
      go_wp2_with fail
      clear ac0 ac1 ac2 ac3 ac4 ac5 az bc0 bc1 bc2 bc3 bc4 bc5 bz
      refine (hadd1.out _).mono ?_
      rintro e v6 ⟨rfl, hb⟩
      have D6 := Lib.hid (D5.out.trans (hb.mono D5.out.size))
      have a_6 := Lib.hid (a_5.out.bel hb)
      have b_6 := Lib.hid (b_5.out.bel hb)
      have z_6 := Lib.hid (z_5.out.bel hb)
      clear D5 a_5 b_5 z_5
      clear hb
      have ac0 := a_6.out.c0
      have ac1 := a_6.out.c1
      have ac2 := a_6.out.c2
      have ac3 := a_6.out.c3
      have ac4 := a_6.out.c4
      have ac5 := a_6.out.c5
      have az := blk_lt a_6.out.cells
      have bc0 := b_6.out.c0
      have bc1 := b_6.out.c1
      have bc2 := b_6.out.c2
      have bc3 := b_6.out.c3
      have bc4 := b_6.out.c4
      have bc5 := b_6.out.c5
      have bz := blk_lt b_6.out.cells
      go_wp2_with fail
      clear ac0 ac1 ac2 ac3 ac4 ac5 az bc0 bc1 bc2 bc3 bc4 bc5 bz
      obtain ⟨B2, hB2⟩ : ∃ B, B = v6.heap.size := ⟨_, rfl⟩
      obtain ⟨W2_0, hW2_0⟩ : ∃ W, W = v6.alloc (Obj.cells #[Value.bool x.neg, Value.string x.num, Value.string x.den] 24) := ⟨_, rfl⟩
      have hb : Below v6.heap.size v6 W2_0 := by rw [hW2_0]; exact (Below.refl _ _).alloc (Nat.le_refl _) _
      have hzW2_0 : v6.heap.size = B2 := by rw [hB2]
      have hlW2_0 : RatAt (B2) x W2_0 := by rw [← hzW2_0, hW2_0]; exact ⟨heap_lastM _ _⟩
      have D7 := Lib.hid (D6.out.trans (hb.mono D6.out.size))
      have a_7 := Lib.hid (a_6.out.bel hb)
      have b_7 := Lib.hid (b_6.out.bel hb)
      have z_7 := Lib.hid (z_6.out.bel hb)
      clear D6 a_6 b_6 z_6
      clear hb
      have x_7 := Lib.hid hlW2_0
      clear hlW2_0
      rw [← hW2_0]
      simp only [← hB2]
      have HW2_0 := Lib.hid hW2_0
      clear hW2_0 hzW2_0
      have HB2 := Lib.hid hB2
      clear hB2
      refine (hadd2.out _).mono ?_
      rintro e v8 ⟨rfl, hb⟩
      have D8 := Lib.hid (D7.out.trans (hb.mono D7.out.size))
      have a_8 := Lib.hid (a_7.out.bel hb)
      have b_8 := Lib.hid (b_7.out.bel hb)
      have z_8 := Lib.hid (z_7.out.bel hb)
      have x_8 := Lib.hid (x_7.out.bel hb)
      clear D7 a_7 b_7 z_7 x_7
      clear hb
      have xc0 := x_8.out.c0
      have xc1 := x_8.out.c1
      have xc2 := x_8.out.c2
      have xz := blk_lt x_8.out.cells
      have zl := blk_lt z_8.out.cells
      have zc0 := z_8.out.c0
      have zf0 := z_8.out.fz 0
      have zc1 := z_8.out.c1
      have zf1 := z_8.out.fz 1
      have zc2 := z_8.out.c2
      have zf2 := z_8.out.fz 2
      have zc3 := z_8.out.c3
      have zf3 := z_8.out.fz 3
      have zc4 := z_8.out.c4
      have zf4 := z_8.out.fz 4
      have zc5 := z_8.out.c5
      have zf5 := z_8.out.fz 5
      have hnz : B1 + 1 + 1 ≠ v8.heap.size := by omega
      go_wp2_with fail
      (try simp only [Exit.inBlock, Exit.then])
      refine bodyPost_ret (results_iv rfl _ _ (B1 + 1 + 1) ⟨x, y⟩ _ rfl rfl ((z_8.out.set ⟨x, y⟩).bel ((Below.refl _ _).alloc (Nat.le_refl _) _))) rfl ?_; rw [HTT.out]; exact ⟨rfl, ((((((D8.out.setCell (p := ⟨B1 + 1 + 1, 0, none⟩) (by have := HB1.out; show w.heap.size ≤ B1 + 1 + 1; omega) _).setCell (p := ⟨B1 + 1 + 1, 1, none⟩) (by have := HB1.out; show w.heap.size ≤ B1 + 1 + 1; omega) _).setCell (p := ⟨B1 + 1 + 1, 2, none⟩) (by have := HB1.out; show w.heap.size ≤ B1 + 1 + 1; omega) _).setCell (p := ⟨B1 + 1 + 1, 3, none⟩) (by have := HB1.out; show w.heap.size ≤ B1 + 1 + 1; omega) _).setCell (p := ⟨B1 + 1 + 1, 4, none⟩) (by have := HB1.out; show w.heap.size ≤ B1 + 1 + 1; omega) _).setCell (p := ⟨B1 + 1 + 1, 5, none⟩) (by have := HB1.out; show w.heap.size ≤ B1 + 1 + 1; omega) _).alloc (by have := D8.out.size; simpa using this) _⟩
    · have HTT : Hid (t = (noI, 2)) := Lib.hid (by rw [ht2, if_neg (by simp)])
      clear ht2
      go_enter Tryd.func11, Tryd.ntmps11
      go_wp2_with fail
      obtain ⟨B1, hB1⟩ : ∃ B, B = w.heap.size := ⟨_, rfl⟩
      obtain ⟨W1_0, hW1_0⟩ : ∃ W, W = w.alloc (Obj.cells #[Value.bool a.low.neg, Value.string a.low.num, Value.string a.low.den, Value.bool a.high.neg, Value.string a.high.num, Value.string a.high.den] 26) := ⟨_, rfl⟩
      have hb : Below w.heap.size w W1_0 := by rw [hW1_0]; exact (Below.refl _ _).alloc (Nat.le_refl _) _
      have hzW1_0 : w.heap.size = B1 := by rw [hB1]
      have hlW1_0 : IvAt (B1) a W1_0 := by rw [← hzW1_0, hW1_0]; exact ⟨heap_lastM _ _⟩
      have D1 := Lib.hid (D0.out.trans (hb.mono D0.out.size))
      clear hb
      have a_1 := Lib.hid hlW1_0
      clear hlW1_0
      obtain ⟨W1_1, hW1_1⟩ : ∃ W, W = W1_0.alloc (Obj.cells #[Value.bool b.low.neg, Value.string b.low.num, Value.string b.low.den, Value.bool b.high.neg, Value.string b.high.num, Value.string b.high.den] 26) := ⟨_, rfl⟩
      have hb : Below W1_0.heap.size W1_0 W1_1 := by rw [hW1_1]; exact (Below.refl _ _).alloc (Nat.le_refl _) _
      have hzW1_1 : W1_0.heap.size = B1 + 1 := by rw [hW1_0]; simp [hzW1_0]
      have hlW1_1 : IvAt (B1 + 1) b W1_1 := by rw [← hzW1_1, hW1_1]; exact ⟨heap_lastM _ _⟩
      have D2 := Lib.hid (D1.out.trans (hb.mono D1.out.size))
      have a_2 := Lib.hid (a_1.out.bel hb)
      clear D1 a_1
      clear hb
      have b_2 := Lib.hid hlW1_1
      clear hlW1_1
      obtain ⟨W1_2, hW1_2⟩ : ∃ W, W = W1_1.alloc (Obj.cells #[Value.bool false, Value.string ⟨#[]⟩, Value.string ⟨#[]⟩, Value.bool false, Value.string ⟨#[]⟩, Value.string ⟨#[]⟩] 26) := ⟨_, rfl⟩
      have hb : Below W1_1.heap.size W1_1 W1_2 := by rw [hW1_2]; exact (Below.refl _ _).alloc (Nat.le_refl _) _
      have hzW1_2 : W1_1.heap.size = B1 + 1 + 1 := by rw [hW1_1]; simp [hzW1_1]
      have hlW1_2 : IvAt (B1 + 1 + 1) noI W1_2 := by rw [← hzW1_2, hW1_2]; exact ⟨heap_lastM _ _⟩
      have D3 := Lib.hid (D2.out.trans (hb.mono D2.out.size))
      have a_3 := Lib.hid (a_2.out.bel hb)
      have b_3 := Lib.hid (b_2.out.bel hb)
      clear D2 a_2 b_2
      clear hb
      have z_3 := Lib.hid hlW1_2
      clear hlW1_2
      rw [← hW1_0]
      rw [← hW1_1]
      rw [← hW1_2]
      simp only [← hB1]
      have HW1_0 := Lib.hid hW1_0
      clear hW1_0 hzW1_0
      have HW1_1 := Lib.hid hW1_1
      clear hW1_1 hzW1_1
      have HW1_2 := Lib.hid hW1_2
      clear hW1_2 hzW1_2
      have HB1 := Lib.hid hB1
      clear hB1
      have ac0 := a_3.out.c0
      have ac1 := a_3.out.c1
      have ac2 := a_3.out.c2
      have ac3 := a_3.out.c3
      have ac4 := a_3.out.c4
      have ac5 := a_3.out.c5
      have bc0 := b_3.out.c0
      have bc1 := b_3.out.c1
      have bc2 := b_3.out.c2
      have bc3 := b_3.out.c3
      have bc4 := b_3.out.c4
      have bc5 := b_3.out.c5
      go_wp2_with fail
      clear ac0 ac1 ac2 ac3 ac4 ac5 bc0 bc1 bc2 bc3 bc4 bc5
      refine (hva.out _).mono ?_
      rintro e v4 ⟨rfl, hb⟩
      have D4 := Lib.hid (D3.out.trans (hb.mono D3.out.size))
      have a_4 := Lib.hid (a_3.out.bel hb)
      have b_4 := Lib.hid (b_3.out.bel hb)
      have z_4 := Lib.hid (z_3.out.bel hb)
      clear D3 a_3 b_3 z_3
      clear hb
      have ac0 := a_4.out.c0
      have ac1 := a_4.out.c1
      have ac2 := a_4.out.c2
      have ac3 := a_4.out.c3
      have ac4 := a_4.out.c4
      have ac5 := a_4.out.c5
      have bc0 := b_4.out.c0
      have bc1 := b_4.out.c1
      have bc2 := b_4.out.c2
      have bc3 := b_4.out.c3
      have bc4 := b_4.out.c4
      have bc5 := b_4.out.c5
      go_wp2_with fail
      clear ac0 ac1 ac2 ac3 ac4 ac5 bc0 bc1 bc2 bc3 bc4 bc5
      refine (hvb.out _).mono ?_
      rintro e v5 ⟨rfl, hb⟩
      have D5 := Lib.hid (D4.out.trans (hb.mono D4.out.size))
      have a_5 := Lib.hid (a_4.out.bel hb)
      have b_5 := Lib.hid (b_4.out.bel hb)
      have z_5 := Lib.hid (z_4.out.bel hb)
      clear D4 a_4 b_4 z_4
      clear hb
      have ac0 := a_5.out.c0
      have ac1 := a_5.out.c1
      have ac2 := a_5.out.c2
      have ac3 := a_5.out.c3
      have ac4 := a_5.out.c4
      have ac5 := a_5.out.c5
      have az := blk_lt a_5.out.cells
      have bc0 := b_5.out.c0
      have bc1 := b_5.out.c1
      have bc2 := b_5.out.c2
      have bc3 := b_5.out.c3
      have bc4 := b_5.out.c4
      have bc5 := b_5.out.c5
      have bz := blk_lt b_5.out.cells
      go_wp2_with fail
      clear ac0 ac1 ac2 ac3 ac4 ac5 az bc0 bc1 bc2 bc3 bc4 bc5 bz
      refine (hadd1.out _).mono ?_
      rintro e v6 ⟨rfl, hb⟩
      have D6 := Lib.hid (D5.out.trans (hb.mono D5.out.size))
      have a_6 := Lib.hid (a_5.out.bel hb)
      have b_6 := Lib.hid (b_5.out.bel hb)
      have z_6 := Lib.hid (z_5.out.bel hb)
      clear D5 a_5 b_5 z_5
      clear hb
      have ac0 := a_6.out.c0
      have ac1 := a_6.out.c1
      have ac2 := a_6.out.c2
      have ac3 := a_6.out.c3
      have ac4 := a_6.out.c4
      have ac5 := a_6.out.c5
      have az := blk_lt a_6.out.cells
      have bc0 := b_6.out.c0
      have bc1 := b_6.out.c1
      have bc2 := b_6.out.c2
      have bc3 := b_6.out.c3
      have bc4 := b_6.out.c4
      have bc5 := b_6.out.c5
      have bz := blk_lt b_6.out.cells
      go_wp2_with fail
      clear ac0 ac1 ac2 ac3 ac4 ac5 az bc0 bc1 bc2 bc3 bc4 bc5 bz
      obtain ⟨B2, hB2⟩ : ∃ B, B = v6.heap.size := ⟨_, rfl⟩
      obtain ⟨W2_0, hW2_0⟩ : ∃ W, W = v6.alloc (Obj.cells #[Value.bool x.neg, Value.string x.num, Value.string x.den] 24) := ⟨_, rfl⟩
      have hb : Below v6.heap.size v6 W2_0 := by rw [hW2_0]; exact (Below.refl _ _).alloc (Nat.le_refl _) _
      have hzW2_0 : v6.heap.size = B2 := by rw [hB2]
      have hlW2_0 : RatAt (B2) x W2_0 := by rw [← hzW2_0, hW2_0]; exact ⟨heap_lastM _ _⟩
      have D7 := Lib.hid (D6.out.trans (hb.mono D6.out.size))
      have a_7 := Lib.hid (a_6.out.bel hb)
      have b_7 := Lib.hid (b_6.out.bel hb)
      have z_7 := Lib.hid (z_6.out.bel hb)
      clear D6 a_6 b_6 z_6
      clear hb
      have x_7 := Lib.hid hlW2_0
      clear hlW2_0
      rw [← hW2_0]
      simp only [← hB2]
      have HW2_0 := Lib.hid hW2_0
      clear hW2_0 hzW2_0
      have HB2 := Lib.hid hB2
      clear hB2
      refine (hadd2.out _).mono ?_
      rintro e v8 ⟨rfl, hb⟩
      have D8 := Lib.hid (D7.out.trans (hb.mono D7.out.size))
      have a_8 := Lib.hid (a_7.out.bel hb)
      have b_8 := Lib.hid (b_7.out.bel hb)
      have z_8 := Lib.hid (z_7.out.bel hb)
      have x_8 := Lib.hid (x_7.out.bel hb)
      clear D7 a_7 b_7 z_7 x_7
      clear hb
      have xc0 := x_8.out.c0
      have xc1 := x_8.out.c1
      have xc2 := x_8.out.c2
      have xz := blk_lt x_8.out.cells
      have zl := blk_lt z_8.out.cells
      have zc0 := z_8.out.c0
      have zf0 := z_8.out.fz 0
      have zc1 := z_8.out.c1
      have zf1 := z_8.out.fz 1
      have zc2 := z_8.out.c2
      have zf2 := z_8.out.fz 2
      have zc3 := z_8.out.c3
      have zf3 := z_8.out.fz 3
      have zc4 := z_8.out.c4
      have zf4 := z_8.out.fz 4
      have zc5 := z_8.out.c5
      have zf5 := z_8.out.fz 5
      have hnz : B1 + 1 + 1 ≠ v8.heap.size := by omega
      go_wp2_with fail
      (try simp only [Exit.inBlock, Exit.then])
      refine bodyPost_ret (results_iv rfl _ _ (B1 + 1 + 1) noI _ rfl rfl ((z_8.out.set noI).bel ((Below.refl _ _).alloc (Nat.le_refl _) _))) rfl ?_; rw [HTT.out]; exact ⟨rfl, ((((((D8.out.setCell (p := ⟨B1 + 1 + 1, 0, none⟩) (by have := HB1.out; show w.heap.size ≤ B1 + 1 + 1; omega) _).setCell (p := ⟨B1 + 1 + 1, 1, none⟩) (by have := HB1.out; show w.heap.size ≤ B1 + 1 + 1; omega) _).setCell (p := ⟨B1 + 1 + 1, 2, none⟩) (by have := HB1.out; show w.heap.size ≤ B1 + 1 + 1; omega) _).setCell (p := ⟨B1 + 1 + 1, 3, none⟩) (by have := HB1.out; show w.heap.size ≤ B1 + 1 + 1; omega) _).setCell (p := ⟨B1 + 1 + 1, 4, none⟩) (by have := HB1.out; show w.heap.size ≤ B1 + 1 + 1; omega) _).setCell (p := ⟨B1 + 1 + 1, 5, none⟩) (by have := HB1.out; show w.heap.size ≤ B1 + 1 + 1; omega) _).alloc (by have := D8.out.size; simpa using this) _⟩
  · have HTT : Hid (t = (noI, 2)) := Lib.hid (by rw [ht2, if_neg (by simp)])
    clear ht2
    go_enter Tryd.func11, Tryd.ntmps11
    go_wp2_with fail
    obtain ⟨B1, hB1⟩ : ∃ B, B = w.heap.size := ⟨_, rfl⟩
    obtain ⟨W1_0, hW1_0⟩ : ∃ W, W = w.alloc (Obj.cells #[Value.bool a.low.neg, Value.string a.low.num, Value.string a.low.den, Value.bool a.high.neg, Value.string a.high.num, Value.string a.high.den] 26) := ⟨_, rfl⟩
    have hb : Below w.heap.size w W1_0 := by rw [hW1_0]; exact (Below.refl _ _).alloc (Nat.le_refl _) _
    have hzW1_0 : w.heap.size = B1 := by rw [hB1]
    have hlW1_0 : IvAt (B1) a W1_0 := by rw [← hzW1_0, hW1_0]; exact ⟨heap_lastM _ _⟩
    have D1 := Lib.hid (D0.out.trans (hb.mono D0.out.size))
    clear hb
    have a_1 := Lib.hid hlW1_0
    clear hlW1_0
    obtain ⟨W1_1, hW1_1⟩ : ∃ W, W = W1_0.alloc (Obj.cells #[Value.bool b.low.neg, Value.string b.low.num, Value.string b.low.den, Value.bool b.high.neg, Value.string b.high.num, Value.string b.high.den] 26) := ⟨_, rfl⟩
    have hb : Below W1_0.heap.size W1_0 W1_1 := by rw [hW1_1]; exact (Below.refl _ _).alloc (Nat.le_refl _) _
    have hzW1_1 : W1_0.heap.size = B1 + 1 := by rw [hW1_0]; simp [hzW1_0]
    have hlW1_1 : IvAt (B1 + 1) b W1_1 := by rw [← hzW1_1, hW1_1]; exact ⟨heap_lastM _ _⟩
    have D2 := Lib.hid (D1.out.trans (hb.mono D1.out.size))
    have a_2 := Lib.hid (a_1.out.bel hb)
    clear D1 a_1
    clear hb
    have b_2 := Lib.hid hlW1_1
    clear hlW1_1
    obtain ⟨W1_2, hW1_2⟩ : ∃ W, W = W1_1.alloc (Obj.cells #[Value.bool false, Value.string ⟨#[]⟩, Value.string ⟨#[]⟩, Value.bool false, Value.string ⟨#[]⟩, Value.string ⟨#[]⟩] 26) := ⟨_, rfl⟩
    have hb : Below W1_1.heap.size W1_1 W1_2 := by rw [hW1_2]; exact (Below.refl _ _).alloc (Nat.le_refl _) _
    have hzW1_2 : W1_1.heap.size = B1 + 1 + 1 := by rw [hW1_1]; simp [hzW1_1]
    have hlW1_2 : IvAt (B1 + 1 + 1) noI W1_2 := by rw [← hzW1_2, hW1_2]; exact ⟨heap_lastM _ _⟩
    have D3 := Lib.hid (D2.out.trans (hb.mono D2.out.size))
    have a_3 := Lib.hid (a_2.out.bel hb)
    have b_3 := Lib.hid (b_2.out.bel hb)
    clear D2 a_2 b_2
    clear hb
    have z_3 := Lib.hid hlW1_2
    clear hlW1_2
    rw [← hW1_0]
    rw [← hW1_1]
    rw [← hW1_2]
    simp only [← hB1]
    have HW1_0 := Lib.hid hW1_0
    clear hW1_0 hzW1_0
    have HW1_1 := Lib.hid hW1_1
    clear hW1_1 hzW1_1
    have HW1_2 := Lib.hid hW1_2
    clear hW1_2 hzW1_2
    have HB1 := Lib.hid hB1
    clear hB1
    have ac0 := a_3.out.c0
    have ac1 := a_3.out.c1
    have ac2 := a_3.out.c2
    have ac3 := a_3.out.c3
    have ac4 := a_3.out.c4
    have ac5 := a_3.out.c5
    have bc0 := b_3.out.c0
    have bc1 := b_3.out.c1
    have bc2 := b_3.out.c2
    have bc3 := b_3.out.c3
    have bc4 := b_3.out.c4
    have bc5 := b_3.out.c5
    go_wp2_with fail
    clear ac0 ac1 ac2 ac3 ac4 ac5 bc0 bc1 bc2 bc3 bc4 bc5
    refine (hva.out _).mono ?_
    rintro e v4 ⟨rfl, hb⟩
    have D4 := Lib.hid (D3.out.trans (hb.mono D3.out.size))
    have a_4 := Lib.hid (a_3.out.bel hb)
    have b_4 := Lib.hid (b_3.out.bel hb)
    have z_4 := Lib.hid (z_3.out.bel hb)
    clear D3 a_3 b_3 z_3
    clear hb
    have ac0 := a_4.out.c0
    have ac1 := a_4.out.c1
    have ac2 := a_4.out.c2
    have ac3 := a_4.out.c3
    have ac4 := a_4.out.c4
    have ac5 := a_4.out.c5
    have bc0 := b_4.out.c0
    have bc1 := b_4.out.c1
    have bc2 := b_4.out.c2
    have bc3 := b_4.out.c3
    have bc4 := b_4.out.c4
    have bc5 := b_4.out.c5
    go_wp2_with fail
    clear ac0 ac1 ac2 ac3 ac4 ac5 bc0 bc1 bc2 bc3 bc4 bc5
    refine (hvb.out _).mono ?_
    rintro e v5 ⟨rfl, hb⟩
    have D5 := Lib.hid (D4.out.trans (hb.mono D4.out.size))
    have a_5 := Lib.hid (a_4.out.bel hb)
    have b_5 := Lib.hid (b_4.out.bel hb)
    have z_5 := Lib.hid (z_4.out.bel hb)
    clear D4 a_4 b_4 z_4
    clear hb
    have ac0 := a_5.out.c0
    have ac1 := a_5.out.c1
    have ac2 := a_5.out.c2
    have ac3 := a_5.out.c3
    have ac4 := a_5.out.c4
    have ac5 := a_5.out.c5
    have az := blk_lt a_5.out.cells
    have bc0 := b_5.out.c0
    have bc1 := b_5.out.c1
    have bc2 := b_5.out.c2
    have bc3 := b_5.out.c3
    have bc4 := b_5.out.c4
    have bc5 := b_5.out.c5
    have bz := blk_lt b_5.out.cells
    go_wp2_with fail
    clear ac0 ac1 ac2 ac3 ac4 ac5 az bc0 bc1 bc2 bc3 bc4 bc5 bz
    refine (hadd1.out _).mono ?_
    rintro e v6 ⟨rfl, hb⟩
    have D6 := Lib.hid (D5.out.trans (hb.mono D5.out.size))
    have a_6 := Lib.hid (a_5.out.bel hb)
    have b_6 := Lib.hid (b_5.out.bel hb)
    have z_6 := Lib.hid (z_5.out.bel hb)
    clear D5 a_5 b_5 z_5
    clear hb
    have zl := blk_lt z_6.out.cells
    have zc0 := z_6.out.c0
    have zf0 := z_6.out.fz 0
    have zc1 := z_6.out.c1
    have zf1 := z_6.out.fz 1
    have zc2 := z_6.out.c2
    have zf2 := z_6.out.fz 2
    have zc3 := z_6.out.c3
    have zf3 := z_6.out.fz 3
    have zc4 := z_6.out.c4
    have zf4 := z_6.out.fz 4
    have zc5 := z_6.out.c5
    have zf5 := z_6.out.fz 5
    have hnz : B1 + 1 + 1 ≠ v6.heap.size := by omega
    go_wp2_with fail
    (try simp only [Exit.inBlock, Exit.then])
    refine bodyPost_ret (results_iv rfl _ _ (B1 + 1 + 1) noI _ rfl rfl ((z_6.out.set noI).bel ((Below.refl _ _).alloc (Nat.le_refl _) _))) rfl ?_; rw [HTT.out]; exact ⟨rfl, ((((((D6.out.setCell (p := ⟨B1 + 1 + 1, 0, none⟩) (by have := HB1.out; show w.heap.size ≤ B1 + 1 + 1; omega) _).setCell (p := ⟨B1 + 1 + 1, 1, none⟩) (by have := HB1.out; show w.heap.size ≤ B1 + 1 + 1; omega) _).setCell (p := ⟨B1 + 1 + 1, 2, none⟩) (by have := HB1.out; show w.heap.size ≤ B1 + 1 + 1; omega) _).setCell (p := ⟨B1 + 1 + 1, 3, none⟩) (by have := HB1.out; show w.heap.size ≤ B1 + 1 + 1; omega) _).setCell (p := ⟨B1 + 1 + 1, 4, none⟩) (by have := HB1.out; show w.heap.size ≤ B1 + 1 + 1; omega) _).setCell (p := ⟨B1 + 1 + 1, 5, none⟩) (by have := HB1.out; show w.heap.size ≤ B1 + 1 + 1; omega) _).alloc (by have := D6.out.size; simpa using this) _⟩
end Go.Proofs.YtbcoblpnihdhgaaDoor
