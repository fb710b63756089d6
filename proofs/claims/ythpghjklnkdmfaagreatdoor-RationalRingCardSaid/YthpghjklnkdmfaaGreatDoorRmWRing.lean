/-
  The walk of RationalRing: its two closures and the statement.
-/
import Derived.Test.YthpghjklnkdmfaaGreatDoorRmQ
import Derived.Deep.DeepCutAuto
import Derived.Laws.EntriesVeiled
set_option linter.unusedVariables false
set_option maxRecDepth 100000
namespace Go.Proofs.YthpghjklnkdmfaaGreatDoor
open Go.RowKit
open Rt
/-- the bool that both closures capture: true -/
structure OkAt (B : Nat) (w : World) : Prop where
  cells : w.heap[B]? = some (.cells #[.bool true] 4 (0, 0))
theorem OkAt.bel {B : Nat} {w w' : World} (h : OkAt B w) (hb : Below w.heap.size w w') : OkAt B w' := ⟨(hb.block _ (blk_lt h.cells)).trans h.cells⟩
theorem OkAt.c {B : Nat} {w : World} (h : OkAt B w) : w.cell? ⟨B, 0, none⟩ = some (.bool true) := by rw [Lib.cell_of_heap h.cells]; rfl
theorem OkAt.fz {B : Nat} {w : World} (h : OkAt B w) : w.frozen? ⟨B, 0, none⟩ = false := Lib.frozen_of_heap h.cells 0
/-- what is stored is what lies there: all blocks are as they were -/
theorem OkAt.same {B : Nat} {w : World} (ho : OkAt B w) : Below w.heap.size w (w.setCell ⟨B, 0, none⟩ (.bool true)) := by
  have hs := Bes.set w B 0 (.bool true)
  have h1 := heap_setCell_same w B 0 _ _ (.bool true) ho.cells
  refine ⟨hs.os, hs.tape, hs.output, hs.size, fun k hk => ?_⟩
  by_cases e : k = B
  · subst e; rw [ho.cells]; exact h1
  · exact hs.block k hk e
theorem results_one {fn : Func} {p : Tmp} (h : fn.results = #[.cell p 24]) (tmps : Array Value) (w : World) (g : Nat) (r : Raw)
    (hp : tmps.getD p undef = .pointer (some ⟨g, 0, none⟩)) (hg : RatAt g r w) :
    (results fn tmps).run Tryz.prog w = .ok (.agg #[.bool r.neg, .string r.num, .string r.den]) w := by
  have hp' : tmps[p]?.getD undef = .pointer (some ⟨g, 0, none⟩) := by simpa using hp
  simp [results, h, hp', asAddr, run_loadVar_row w g 24 24 _ (0, 0) _ hg.cells Tryz.underlying24 rfl (by kernel_rfl)]
theorem next3k {W w' w'' : World} {bo b0 b1 b2 : Nat} {x0 y0 z0 x1 y1 z1 x2 y2 z2 : Value} (hb : Below w'.heap.size w' w'') (h : Below W.heap.size W w' ∧ w'.cell? ⟨bo, 0, none⟩ = some (.bool true) ∧ w'.cell? ⟨b0, 0, none⟩ = some x0 ∧ w'.cell? ⟨b0, 1, none⟩ = some y0 ∧ w'.cell? ⟨b0, 2, none⟩ = some z0 ∧ w'.cell? ⟨b1, 0, none⟩ = some x1 ∧ w'.cell? ⟨b1, 1, none⟩ = some y1 ∧ w'.cell? ⟨b1, 2, none⟩ = some z1 ∧ w'.cell? ⟨b2, 0, none⟩ = some x2 ∧ w'.cell? ⟨b2, 1, none⟩ = some y2 ∧ w'.cell? ⟨b2, 2, none⟩ = some z2) : Below W.heap.size W w'' ∧ w''.cell? ⟨bo, 0, none⟩ = some (.bool true) ∧ w''.cell? ⟨b0, 0, none⟩ = some x0 ∧ w''.cell? ⟨b0, 1, none⟩ = some y0 ∧ w''.cell? ⟨b0, 2, none⟩ = some z0 ∧ w''.cell? ⟨b1, 0, none⟩ = some x1 ∧ w''.cell? ⟨b1, 1, none⟩ = some y1 ∧ w''.cell? ⟨b1, 2, none⟩ = some z1 ∧ w''.cell? ⟨b2, 0, none⟩ = some x2 ∧ w''.cell? ⟨b2, 1, none⟩ = some y2 ∧ w''.cell? ⟨b2, 2, none⟩ = some z2 := by
  obtain ⟨h, h0, h1, h2, h3, h4, h5, h6, h7, h8, h9⟩ := h
  exact ⟨h.trans (hb.mono h.size), cell_keep hb h0, cell_keep hb h1, cell_keep hb h2, cell_keep hb h3, cell_keep hb h4, cell_keep hb h5, cell_keep hb h6, cell_keep hb h7, cell_keep hb h8, cell_keep hb h9⟩
theorem start3k {W : World} {bo b0 b1 b2 : Nat} {r0 r1 r2 : Raw} (ho : OkAt bo W) (h0 : RatAt b0 r0 W) (h1 : RatAt b1 r1 W) (h2 : RatAt b2 r2 W) : Below W.heap.size W W.drew ∧ W.drew.cell? ⟨bo, 0, none⟩ = some (.bool true) ∧ W.drew.cell? ⟨b0, 0, none⟩ = some (.bool r0.neg) ∧ W.drew.cell? ⟨b0, 1, none⟩ = some (.string r0.num) ∧ W.drew.cell? ⟨b0, 2, none⟩ = some (.string r0.den) ∧ W.drew.cell? ⟨b1, 0, none⟩ = some (.bool r1.neg) ∧ W.drew.cell? ⟨b1, 1, none⟩ = some (.string r1.num) ∧ W.drew.cell? ⟨b1, 2, none⟩ = some (.string r1.den) ∧ W.drew.cell? ⟨b2, 0, none⟩ = some (.bool r2.neg) ∧ W.drew.cell? ⟨b2, 1, none⟩ = some (.string r2.num) ∧ W.drew.cell? ⟨b2, 2, none⟩ = some (.string r2.den) := by
  have hb : Below W.heap.size W W.drew := (Below.refl _ _).drew
  exact ⟨hb, (ho.bel hb).c, (h0.bel hb).c0, (h0.bel hb).c1, (h0.bel hb).c2, (h1.bel hb).c0, (h1.bel hb).c1, (h1.bel hb).c2, (h2.bel hb).c0, (h2.bel hb).c1, (h2.bel hb).c2⟩
set_option maxHeartbeats 4000000 in
theorem pring1_any (Bo : Nat) (a b r : Raw) (w : World) (hr : addE a b = (r, 0)) (ho : OkAt Bo w) : Calls Tryz.prog 27 #[.agg #[.bool a.neg, .string a.num, .string a.den], .agg #[.bool b.neg, .string b.num, .string b.den], .pointer (some ⟨Bo, 0, none⟩)] w fun e w' => e = .returned (.agg #[.bool r.neg, .string r.num, .string r.den]) ∧ Below w.heap.size w w' := by
  have HR := Lib.hid hr
  have ok_0 := Lib.hid ho
  have HL := Lib.hid (blk_lt ho.cells)
  clear hr ho
  have D0 := Lib.hid (Below.refl w.heap.size w)
  go_enter Tryz.func27, Tryz.ntmps27
  go_wp2_with fail
  obtain ⟨B1, hB1⟩ : ∃ B, B = w.heap.size := ⟨_, rfl⟩
  obtain ⟨W1_0, hW1_0⟩ : ∃ W, W = w.alloc (Obj.cells #[Value.bool a.neg, Value.string a.num, Value.string a.den] 24) := ⟨_, rfl⟩
  have hb : Below w.heap.size w W1_0 := by rw [hW1_0]; exact (Below.refl _ _).alloc (Nat.le_refl _) _
  have hzW1_0 : w.heap.size = B1 := by rw [hB1]
  have hlW1_0 : RatAt (B1) a W1_0 := by rw [← hzW1_0, hW1_0]; exact ⟨heap_lastM _ _⟩
  have D1 := Lib.hid (D0.out.trans (hb.mono D0.out.size))
  have ok_1 := Lib.hid (ok_0.out.bel hb)
  clear D0 ok_0
  clear hb
  have a_1 := Lib.hid hlW1_0
  clear hlW1_0
  obtain ⟨W1_1, hW1_1⟩ : ∃ W, W = W1_0.alloc (Obj.cells #[Value.bool b.neg, Value.string b.num, Value.string b.den] 24) := ⟨_, rfl⟩
  have hb : Below W1_0.heap.size W1_0 W1_1 := by rw [hW1_1]; exact (Below.refl _ _).alloc (Nat.le_refl _) _
  have hzW1_1 : W1_0.heap.size = B1 + 1 := by rw [hW1_0]; simp [hzW1_0]
  have hlW1_1 : RatAt (B1 + 1) b W1_1 := by rw [← hzW1_1, hW1_1]; exact ⟨heap_lastM _ _⟩
  have D2 := Lib.hid (D1.out.trans (hb.mono D1.out.size))
  have ok_2 := Lib.hid (ok_1.out.bel hb)
  have a_2 := Lib.hid (a_1.out.bel hb)
  clear D1 ok_1 a_1
  clear hb
  have b_2 := Lib.hid hlW1_1
  clear hlW1_1
  obtain ⟨W1_2, hW1_2⟩ : ∃ W, W = W1_1.alloc (Obj.cells #[Value.bool false, Value.string ⟨#[]⟩, Value.string ⟨#[]⟩] 24) := ⟨_, rfl⟩
  have hb : Below W1_1.heap.size W1_1 W1_2 := by rw [hW1_2]; exact (Below.refl _ _).alloc (Nat.le_refl _) _
  have hzW1_2 : W1_1.heap.size = B1 + 1 + 1 := by rw [hW1_1]; simp [hzW1_1]
  have hlW1_2 : RatAt (B1 + 1 + 1) noRaw W1_2 := by rw [← hzW1_2, hW1_2]; exact ⟨heap_lastM _ _⟩
  have D3 := Lib.hid (D2.out.trans (hb.mono D2.out.size))
  have ok_3 := Lib.hid (ok_2.out.bel hb)
  have a_3 := Lib.hid (a_2.out.bel hb)
  have b_3 := Lib.hid (b_2.out.bel hb)
  clear D2 ok_2 a_2 b_2
  clear hb
  have z_3 := Lib.hid hlW1_2
  clear hlW1_2
  rw [← hW1_0]
  rw [← hW1_1]
  rw [← hW1_2]
  simp only [← hB1]
  have HW1_0 := Lib.hid hW1_0
  clear hW1_0 hzW1_0
  have HW1_1 := Lib.hid hW1_1
  clear hW1_1 hzW1_1
  have HW1_2 := Lib.hid hW1_2
  clear hW1_2 hzW1_2
  have HB1 := Lib.hid hB1
  clear hB1
  have ac0 := a_3.out.c0
  have ac1 := a_3.out.c1
  have ac2 := a_3.out.c2
  have bc0 := b_3.out.c0
  have bc1 := b_3.out.c1
  have bc2 := b_3.out.c2
  go_wp2_with fail
  clear ac0 ac1 ac2 bc0 bc1 bc2
  refine (pratadd_any a b _).mono ?_
  rintro e v4 ⟨rfl, hb⟩
  have D4 := Lib.hid (D3.out.trans (hb.mono D3.out.size))
  have ok_4 := Lib.hid (ok_3.out.bel hb)
  have a_4 := Lib.hid (a_3.out.bel hb)
  have b_4 := Lib.hid (b_3.out.bel hb)
  have z_4 := Lib.hid (z_3.out.bel hb)
  clear D3 ok_3 a_3 b_3 z_3
  clear hb
  simp only [HR.out]
  have okc := ok_4.out.c; have okf := ok_4.out.fz; have okl := blk_lt ok_4.out.cells
  have zc0 := z_4.out.c0; have zf0 := z_4.out.fz 0
  have zc1 := z_4.out.c1; have zf1 := z_4.out.fz 1
  have zc2 := z_4.out.c2; have zf2 := z_4.out.fz 2
  have zl := blk_lt z_4.out.cells
  have hne : Bo ≠ B1 + 1 + 1 := by have := HB1.out; have := HL.out; omega
  have hnx : Bo ≠ v4.heap.size := by omega
  go_wp2_with fail
  (try simp only [Exit.inBlock, Exit.then])
  refine bodyPost_ret (results_one rfl _ _ (B1 + 1 + 1) ⟨_, _, _⟩ rfl (((z_4.out.bel ok_4.out.same).set ⟨_, _, _⟩).bel ((Below.refl _ _).alloc (Nat.le_refl _) _))) rfl ?_
  exact ⟨rfl, ((((D4.out.trans (ok_4.out.same.mono D4.out.size)).setCell (p := ⟨B1 + 1 + 1, 0, none⟩) (by have := HB1.out; show w.heap.size ≤ B1 + 1 + 1; omega) _).setCell (p := ⟨B1 + 1 + 1, 1, none⟩) (by have := HB1.out; show w.heap.size ≤ B1 + 1 + 1; omega) _).setCell (p := ⟨B1 + 1 + 1, 2, none⟩) (by have := HB1.out; show w.heap.size ≤ B1 + 1 + 1; omega) _).alloc (by have := D4.out.size; simpa using this) _⟩
set_option maxHeartbeats 4000000 in
theorem pring2_any (Bo : Nat) (a b r : Raw) (w : World) (hr : mulE a b = (r, 0)) (ho : OkAt Bo w) : Calls Tryz.prog 28 #[.agg #[.bool a.neg, .string a.num, .string a.den], .agg #[.bool b.neg, .string b.num, .string b.den], .pointer (some ⟨Bo, 0, none⟩)] w fun e w' => e = .returned (.agg #[.bool r.neg, .string r.num, .string r.den]) ∧ Below w.heap.size w w' := by
  have HR := Lib.hid hr
  have ok_0 := Lib.hid ho
  have HL := Lib.hid (blk_lt ho.cells)
  clear hr ho
  have D0 := Lib.hid (Below.refl w.heap.size w)
  go_enter Tryz.func28, Tryz.ntmps28
  go_wp2_with fail
  obtain ⟨B1, hB1⟩ : ∃ B, B = w.heap.size := ⟨_, rfl⟩
  obtain ⟨W1_0, hW1_0⟩ : ∃ W, W = w.alloc (Obj.cells #[Value.bool a.neg, Value.string a.num, Value.string a.den] 24) := ⟨_, rfl⟩
  have hb : Below w.heap.size w W1_0 := by rw [hW1_0]; exact (Below.refl _ _).alloc (Nat.le_refl _) _
  have hzW1_0 : w.heap.size = B1 := by rw [hB1]
  have hlW1_0 : RatAt (B1) a W1_0 := by rw [← hzW1_0, hW1_0]; exact ⟨heap_lastM _ _⟩
  have D1 := Lib.hid (D0.out.trans (hb.mono D0.out.size))
  have ok_1 := Lib.hid (ok_0.out.bel hb)
  clear D0 ok_0
  clear hb
  have a_1 := Lib.hid hlW1_0
  clear hlW1_0
  obtain ⟨W1_1, hW1_1⟩ : ∃ W, W = W1_0.alloc (Obj.cells #[Value.bool b.neg, Value.string b.num, Value.string b.den] 24) := ⟨_, rfl⟩
  have hb : Below W1_0.heap.size W1_0 W1_1 := by rw [hW1_1]; exact (Below.refl _ _).alloc (Nat.le_refl _) _
  have hzW1_1 : W1_0.heap.size = B1 + 1 := by rw [hW1_0]; simp [hzW1_0]
  have hlW1_1 : RatAt (B1 + 1) b W1_1 := by rw [← hzW1_1, hW1_1]; exact ⟨heap_lastM _ _⟩
  have D2 := Lib.hid (D1.out.trans (hb.mono D1.out.size))
  have ok_2 := Lib.hid (ok_1.out.bel hb)
  have a_2 := Lib.hid (a_1.out.bel hb)
  clear D1 ok_1 a_1
  clear hb
  have b_2 := Lib.hid hlW1_1
  clear hlW1_1
  obtain ⟨W1_2, hW1_2⟩ : ∃ W, W = W1_1.alloc (Obj.cells #[Value.bool false, Value.string ⟨#[]⟩, Value.string ⟨#[]⟩] 24) := ⟨_, rfl⟩
  have hb : Below W1_1.heap.size W1_1 W1_2 := by rw [hW1_2]; exact (Below.refl _ _).alloc (Nat.le_refl _) _
  have hzW1_2 : W1_1.heap.size = B1 + 1 + 1 := by rw [hW1_1]; simp [hzW1_1]
  have hlW1_2 : RatAt (B1 + 1 + 1) noRaw W1_2 := by rw [← hzW1_2, hW1_2]; exact ⟨heap_lastM _ _⟩
  have D3 := Lib.hid (D2.out.trans (hb.mono D2.out.size))
  have ok_3 := Lib.hid (ok_2.out.bel hb)
  have a_3 := Lib.hid (a_2.out.bel hb)
  have b_3 := Lib.hid (b_2.out.bel hb)
  clear D2 ok_2 a_2 b_2
  clear hb
  have z_3 := Lib.hid hlW1_2
  clear hlW1_2
  rw [← hW1_0]
  rw [← hW1_1]
  rw [← hW1_2]
  simp only [← hB1]
  have HW1_0 := Lib.hid hW1_0
  clear hW1_0 hzW1_0
  have HW1_1 := Lib.hid hW1_1
  clear hW1_1 hzW1_1
  have HW1_2 := Lib.hid hW1_2
  clear hW1_2 hzW1_2
  have HB1 := Lib.hid hB1
  clear hB1
  have ac0 := a_3.out.c0
  have ac1 := a_3.out.c1
  have ac2 := a_3.out.c2
  have bc0 := b_3.out.c0
  have bc1 := b_3.out.c1
  have bc2 := b_3.out.c2
  go_wp2_with fail
  clear ac0 ac1 ac2 bc0 bc1 bc2
  refine (pratmul_any a b _).mono ?_
  rintro e v4 ⟨rfl, hb⟩
  have D4 := Lib.hid (D3.out.trans (hb.mono D3.out.size))
  have ok_4 := Lib.hid (ok_3.out.bel hb)
  have a_4 := Lib.hid (a_3.out.bel hb)
  have b_4 := Lib.hid (b_3.out.bel hb)
  have z_4 := Lib.hid (z_3.out.bel hb)
  clear D3 ok_3 a_3 b_3 z_3
  clear hb
  simp only [HR.out]
  have okc := ok_4.out.c; have okf := ok_4.out.fz; have okl := blk_lt ok_4.out.cells
  have zc0 := z_4.out.c0; have zf0 := z_4.out.fz 0
  have zc1 := z_4.out.c1; have zf1 := z_4.out.fz 1
  have zc2 := z_4.out.c2; have zf2 := z_4.out.fz 2
  have zl := blk_lt z_4.out.cells
  have hne : Bo ≠ B1 + 1 + 1 := by have := HB1.out; have := HL.out; omega
  have hnx : Bo ≠ v4.heap.size := by omega
  go_wp2_with fail
  (try simp only [Exit.inBlock, Exit.then])
  refine bodyPost_ret (results_one rfl _ _ (B1 + 1 + 1) ⟨_, _, _⟩ rfl (((z_4.out.bel ok_4.out.same).set ⟨_, _, _⟩).bel ((Below.refl _ _).alloc (Nat.le_refl _) _))) rfl ?_
  exact ⟨rfl, ((((D4.out.trans (ok_4.out.same.mono D4.out.size)).setCell (p := ⟨B1 + 1 + 1, 0, none⟩) (by have := HB1.out; show w.heap.size ≤ B1 + 1 + 1; omega) _).setCell (p := ⟨B1 + 1 + 1, 1, none⟩) (by have := HB1.out; show w.heap.size ≤ B1 + 1 + 1; omega) _).setCell (p := ⟨B1 + 1 + 1, 2, none⟩) (by have := HB1.out; show w.heap.size ≤ B1 + 1 + 1; omega) _).alloc (by have := D4.out.size; simpa using this) _⟩
set_option maxHeartbeats 8000000 in
theorem walkRationalRing (a b c : Raw)  (w : World) (ht : TabOk w) (sa : a.num.size ≤ maxLen ∧ a.den.size ≤ maxLen) (sb : b.num.size ≤ maxLen ∧ b.den.size ≤ maxLen) (sc : c.num.size ≤ maxLen ∧ c.den.size ≤ maxLen)  : Calls Tryz.prog 4 #[.agg #[.bool a.neg, .string a.num, .string a.den], .agg #[.bool b.neg, .string b.num, .string b.den], .agg #[.bool c.neg, .string c.num, .string c.den]] w fun e w' => e = .returned (.bool true) ∧ Below w.heap.size w w' := by
  have HT := Lib.hid ht
  have HS : Hid (OkSz [a, b, c]) := Lib.hid (by intro r hr; simp only [List.mem_cons, List.not_mem_nil, or_false] at hr; rcases hr with rfl | rfl | rfl <;> assumption)
  clear ht sa sb sc
  have D0 := Lib.hid (Below.refl w.heap.size w)
  go_enter Tryz.func4, Tryz.ntmps4
  go_wp2_with fail
  obtain ⟨B1, hB1⟩ : ∃ B, B = w.heap.size := ⟨_, rfl⟩
  obtain ⟨W1_0, hW1_0⟩ : ∃ W, W = w.alloc (Obj.cells #[Value.bool a.neg, Value.string a.num, Value.string a.den] 24) := ⟨_, rfl⟩
  have hb : Below w.heap.size w W1_0 := by rw [hW1_0]; exact (Below.refl _ _).alloc (Nat.le_refl _) _
  have hzW1_0 : w.heap.size = B1 := by rw [hB1]
  have hlW1_0 : RatAt (B1) a W1_0 := by rw [← hzW1_0, hW1_0]; exact ⟨heap_lastM _ _⟩
  have D1 := Lib.hid (D0.out.trans (hb.mono D0.out.size))
  clear hb
  have a_1 := Lib.hid hlW1_0
  clear hlW1_0
  obtain ⟨W1_1, hW1_1⟩ : ∃ W, W = W1_0.alloc (Obj.cells #[Value.bool b.neg, Value.string b.num, Value.string b.den] 24) := ⟨_, rfl⟩
  have hb : Below W1_0.heap.size W1_0 W1_1 := by rw [hW1_1]; exact (Below.refl _ _).alloc (Nat.le_refl _) _
  have hzW1_1 : W1_0.heap.size = B1 + 1 := by rw [hW1_0]; simp [hzW1_0]
  have hlW1_1 : RatAt (B1 + 1) b W1_1 := by rw [← hzW1_1, hW1_1]; exact ⟨heap_lastM _ _⟩
  have D2 := Lib.hid (D1.out.trans (hb.mono D1.out.size))
  have a_2 := Lib.hid (a_1.out.bel hb)
  clear D1 a_1
  clear hb
  have b_2 := Lib.hid hlW1_1
  clear hlW1_1
  obtain ⟨W1_2, hW1_2⟩ : ∃ W, W = W1_1.alloc (Obj.cells #[Value.bool c.neg, Value.string c.num, Value.string c.den] 24) := ⟨_, rfl⟩
  have hb : Below W1_1.heap.size W1_1 W1_2 := by rw [hW1_2]; exact (Below.refl _ _).alloc (Nat.le_refl _) _
  have hzW1_2 : W1_1.heap.size = B1 + 1 + 1 := by rw [hW1_1]; simp [hzW1_1]
  have hlW1_2 : RatAt (B1 + 1 + 1) c W1_2 := by rw [← hzW1_2, hW1_2]; exact ⟨heap_lastM _ _⟩
  have D3 := Lib.hid (D2.out.trans (hb.mono D2.out.size))
  have a_3 := Lib.hid (a_2.out.bel hb)
  have b_3 := Lib.hid (b_2.out.bel hb)
  clear D2 a_2 b_2
  clear hb
  have c_3 := Lib.hid hlW1_2
  clear hlW1_2
  rw [← hW1_0]
  rw [← hW1_1]
  rw [← hW1_2]
  simp only [← hB1]
  have HW1_0 := Lib.hid hW1_0
  clear hW1_0 hzW1_0
  have HW1_1 := Lib.hid hW1_1
  clear hW1_1 hzW1_1
  have HW1_2 := Lib.hid hW1_2
  clear hW1_2 hzW1_2
  have HB1 := Lib.hid hB1
  clear hB1
  refine (head4_any _ (HT.out.below D3.out)).mono ?_
  rintro e v4 ⟨rfl, hb⟩
  have D4 := Lib.hid (D3.out.trans (hb.mono D3.out.size))
  have a_4 := Lib.hid (a_3.out.bel hb)
  have b_4 := Lib.hid (b_3.out.bel hb)
  have c_4 := Lib.hid (c_3.out.bel hb)
  clear D3 a_3 b_3 c_3
  clear hb
  have ac0 := a_4.out.c0
  have ac1 := a_4.out.c1
  have ac2 := a_4.out.c2
  have az := blk_lt a_4.out.cells
  have bc0 := b_4.out.c0
  have bc1 := b_4.out.c1
  have bc2 := b_4.out.c2
  have bz := blk_lt b_4.out.cells
  have cc0 := c_4.out.c0
  have cc1 := c_4.out.c1
  have cc2 := c_4.out.c2
  have cz := blk_lt c_4.out.cells
  go_wp2_with fail
  clear ac0 ac1 ac2 az bc0 bc1 bc2 bz cc0 cc1 cc2 cz
  refine (few4_three _ a b c HS.out).mono ?_
  rintro e v5 ⟨rfl, hb⟩
  have D5 := Lib.hid (D4.out.trans (hb.mono D4.out.size))
  have a_5 := Lib.hid (a_4.out.bel hb)
  have b_5 := Lib.hid (b_4.out.bel hb)
  have c_5 := Lib.hid (c_4.out.bel hb)
  clear D4 a_4 b_4 c_4
  clear hb
  rcases Bool.eq_false_or_eq_true (fewR [a, b, c]) with hp | hp
  rotate_left
  ·
    simp only [hp]
    go_wp2_with fail
    go_ret
    exact ⟨rfl, D5.out⟩
  simp only [hp]
  have HF := Lib.hid hp; clear hp
  have ac0 := a_5.out.c0
  have ac1 := a_5.out.c1
  have ac2 := a_5.out.c2
  have bc0 := b_5.out.c0
  have bc1 := b_5.out.c1
  have bc2 := b_5.out.c2
  have cc0 := c_5.out.c0
  have cc1 := c_5.out.c1
  have cc2 := c_5.out.c2
  go_wp2_with fail
  clear ac0 ac1 ac2 bc0 bc1 bc2 cc0 cc1 cc2
  refine (pratvalid_any a _).mono ?_
  rintro e v6 ⟨rfl, hb⟩
  have D6 := Lib.hid (D5.out.trans (hb.mono D5.out.size))
  have a_6 := Lib.hid (a_5.out.bel hb)
  have b_6 := Lib.hid (b_5.out.bel hb)
  have c_6 := Lib.hid (c_5.out.bel hb)
  clear D5 a_5 b_5 c_5
  clear hb
  rcases Bool.eq_false_or_eq_true (okR a) with hp | hp
  rotate_left
  ·
    simp only [hp]
    go_wp2_with fail
    go_ret
    exact ⟨rfl, D6.out⟩
  simp only [hp]
  have HA := Lib.hid hp; clear hp
  have ac0 := a_6.out.c0
  have ac1 := a_6.out.c1
  have ac2 := a_6.out.c2
  have bc0 := b_6.out.c0
  have bc1 := b_6.out.c1
  have bc2 := b_6.out.c2
  have cc0 := c_6.out.c0
  have cc1 := c_6.out.c1
  have cc2 := c_6.out.c2
  go_wp2_with fail
  clear ac0 ac1 ac2 bc0 bc1 bc2 cc0 cc1 cc2
  refine (pratvalid_any b _).mono ?_
  rintro e v7 ⟨rfl, hb⟩
  have D7 := Lib.hid (D6.out.trans (hb.mono D6.out.size))
  have a_7 := Lib.hid (a_6.out.bel hb)
  have b_7 := Lib.hid (b_6.out.bel hb)
  have c_7 := Lib.hid (c_6.out.bel hb)
  clear D6 a_6 b_6 c_6
  clear hb
  rcases Bool.eq_false_or_eq_true (okR b) with hp | hp
  rotate_left
  ·
    simp only [hp]
    go_wp2_with fail
    go_ret
    exact ⟨rfl, D7.out⟩
  simp only [hp]
  have HB := Lib.hid hp; clear hp
  have ac0 := a_7.out.c0
  have ac1 := a_7.out.c1
  have ac2 := a_7.out.c2
  have bc0 := b_7.out.c0
  have bc1 := b_7.out.c1
  have bc2 := b_7.out.c2
  have cc0 := c_7.out.c0
  have cc1 := c_7.out.c1
  have cc2 := c_7.out.c2
  go_wp2_with fail
  clear ac0 ac1 ac2 bc0 bc1 bc2 cc0 cc1 cc2
  refine (pratvalid_any c _).mono ?_
  rintro e v8 ⟨rfl, hb⟩
  have D8 := Lib.hid (D7.out.trans (hb.mono D7.out.size))
  have a_8 := Lib.hid (a_7.out.bel hb)
  have b_8 := Lib.hid (b_7.out.bel hb)
  have c_8 := Lib.hid (c_7.out.bel hb)
  clear D7 a_7 b_7 c_7
  clear hb
  rcases Bool.eq_false_or_eq_true (okR c) with hp | hp
  rotate_left
  ·
    simp only [hp]
    go_wp2_with fail
    go_ret
    exact ⟨rfl, D8.out⟩
  simp only [hp]
  have HC := Lib.hid hp; clear hp
  have hmf : ∀ (fn : Fn) (first cap : Array Value) (w : World), (Instr.makeFunc fn first cap).run Tryz.prog w = .ok (.func fn first cap) w := fun _ _ _ _ => rfl
  obtain ⟨ab, bc, abc, mab, mbc, mac, mabc, dist, e1, e2, e3, e4, e5, m1, m2, m3, m4, m5, m6, d1, d2⟩ := ring_pure HA.out HB.out HC.out (few_three HF.out).1 (few_three HF.out).2.1 (few_three HF.out).2.2
  have E1 := Lib.hid e1; clear e1
  have E2 := Lib.hid e2; clear e2
  have E3 := Lib.hid e3; clear e3
  have E4 := Lib.hid e4; clear e4
  have E5 := Lib.hid e5; clear e5
  have M1 := Lib.hid m1; clear m1
  have M2 := Lib.hid m2; clear m2
  have M3 := Lib.hid m3; clear m3
  have M4 := Lib.hid m4; clear m4
  have M5 := Lib.hid m5; clear m5
  have M6 := Lib.hid m6; clear m6
  have D1 := Lib.hid d1; clear d1
  have D2 := Lib.hid d2; clear d2
  go_upto_region 7 with fail
  obtain ⟨Bo, hBo⟩ : ∃ B, B = v8.heap.size := ⟨_, rfl⟩
  obtain ⟨Wo, hWo⟩ : ∃ W, W = v8.alloc (Obj.cells #[Value.bool true] 4) := ⟨_, rfl⟩
  have hb : Below v8.heap.size v8 Wo := by rw [hWo]; exact (Below.refl _ _).alloc (Nat.le_refl _) _
  have hlo : OkAt Bo Wo := by rw [hBo, hWo]; exact ⟨heap_lastM _ _⟩
  have D9 := Lib.hid (D8.out.trans (hb.mono D8.out.size))
  have a_9 := Lib.hid (a_8.out.bel hb)
  have b_9 := Lib.hid (b_8.out.bel hb)
  have c_9 := Lib.hid (c_8.out.bel hb)
  clear D8 a_8 b_8 c_8
  clear hb
  have ok_9 := Lib.hid hlo; clear hlo
  rw [← hWo]; simp only [← hBo]
  have HBo := Lib.hid hBo; have HWo := Lib.hid hWo; clear hBo hWo
  have q1 : ∀ w, (binOp .eql 24 (.agg #[.bool ab.neg, .string ab.num, .string ab.den]) (.agg #[.bool ab.neg, .string ab.num, .string ab.den])).run Tryz.prog w = .ok (.bool true) w := fun w => by rw [run_eql_rat, sameR_iff.2 rfl]
  have q2 : ∀ w, (binOp .eql 24 (.agg #[.bool abc.neg, .string abc.num, .string abc.den]) (.agg #[.bool abc.neg, .string abc.num, .string abc.den])).run Tryz.prog w = .ok (.bool true) w := fun w => by rw [run_eql_rat, sameR_iff.2 rfl]
  go_cut [11] (fun s11 wx => s11 = .bool true ∧ Hid (Below Wo.heap.size Wo wx))
  case first =>
    go_region_held3 (fun w' => Below Wo.heap.size Wo w' ∧ w'.cell? ⟨B1, 0, none⟩ = some (.bool (a).neg) ∧ w'.cell? ⟨B1, 1, none⟩ = some (.string (a).num) ∧ w'.cell? ⟨B1, 2, none⟩ = some (.string (a).den) ∧ w'.cell? ⟨B1 + 1, 0, none⟩ = some (.bool (b).neg) ∧ w'.cell? ⟨B1 + 1, 1, none⟩ = some (.string (b).num) ∧ w'.cell? ⟨B1 + 1, 2, none⟩ = some (.string (b).den) ∧ w'.cell? ⟨B1 + 1 + 1, 0, none⟩ = some (.bool (c).neg) ∧ w'.cell? ⟨B1 + 1 + 1, 1, none⟩ = some (.string (c).num) ∧ w'.cell? ⟨B1 + 1 + 1, 2, none⟩ = some (.string (c).den)) (first | (with_reducible assumption) | exact startn3 a_9.out b_9.out c_9.out | exact next3 (by assumption) (by assumption) | exact next3 ((Below.refl _ _).alloc (Nat.le_refl _) _) (by assumption)) (first | (go_at_call 27; first | ((with_reducible refine (pring1_any Bo a b ab _ E1.out ?hb).mono ?_); (case hb => exact ok_9.out.bel (And.left (by assumption))); rintro e y10 ⟨rfl, hby10⟩) | ((with_reducible refine (pring1_any Bo b a ab _ E2.out ?hb).mono ?_); (case hb => exact ok_9.out.bel (And.left (by assumption))); rintro e y11 ⟨rfl, hby11⟩) | ((with_reducible refine (pring1_any Bo ab c abc _ E3.out ?hb).mono ?_); (case hb => exact ok_9.out.bel (And.left (by assumption))); rintro e y12 ⟨rfl, hby12⟩) | ((with_reducible refine (pring1_any Bo b c bc _ E4.out ?hb).mono ?_); (case hb => exact ok_9.out.bel (And.left (by assumption))); rintro e y13 ⟨rfl, hby13⟩) | ((with_reducible refine (pring1_any Bo a bc abc _ E5.out ?hb).mono ?_); (case hb => exact ok_9.out.bel (And.left (by assumption))); rintro e y14 ⟨rfl, hby14⟩)) | fail "no arm")
    all_goals (go_wp2_with fail; go_meet; exact ⟨rfl, Lib.hid (And.left (by assumption))⟩)
  case rest =>
    obtain ⟨rfl, hcutB⟩ := hcut
    have D10 := Lib.hid (D9.out.trans (hcutB.out.mono D9.out.size))
    have a_10 := Lib.hid (a_9.out.bel hcutB.out)
    have b_10 := Lib.hid (b_9.out.bel hcutB.out)
    have c_10 := Lib.hid (c_9.out.bel hcutB.out)
    have ok_10 := Lib.hid (ok_9.out.bel hcutB.out)
    clear D9 a_9 b_9 c_9 ok_9
    clear hcutB
    obtain ⟨wc7, hnm⟩ : ∃ x, x = wc := ⟨_, rfl⟩
    subst hnm
    clear q1 q2
    have q1 : ∀ w, (binOp .eql 24 (.agg #[.bool mab.neg, .string mab.num, .string mab.den]) (.agg #[.bool mab.neg, .string mab.num, .string mab.den])).run Tryz.prog w = .ok (.bool true) w := fun w => by rw [run_eql_rat, sameR_iff.2 rfl]
    have q2 : ∀ w, (binOp .eql 24 (.agg #[.bool mabc.neg, .string mabc.num, .string mabc.den]) (.agg #[.bool mabc.neg, .string mabc.num, .string mabc.den])).run Tryz.prog w = .ok (.bool true) w := fun w => by rw [run_eql_rat, sameR_iff.2 rfl]
    go_upto_region 8 with fail
    go_cut [12] (fun s12 wx => s12 = .bool true ∧ Hid (Below wc7.heap.size wc7 wx))
    case first =>
      go_region_held3 (fun w' => Below wc7.heap.size wc7 w' ∧ w'.cell? ⟨B1, 0, none⟩ = some (.bool (a).neg) ∧ w'.cell? ⟨B1, 1, none⟩ = some (.string (a).num) ∧ w'.cell? ⟨B1, 2, none⟩ = some (.string (a).den) ∧ w'.cell? ⟨B1 + 1, 0, none⟩ = some (.bool (b).neg) ∧ w'.cell? ⟨B1 + 1, 1, none⟩ = some (.string (b).num) ∧ w'.cell? ⟨B1 + 1, 2, none⟩ = some (.string (b).den) ∧ w'.cell? ⟨B1 + 1 + 1, 0, none⟩ = some (.bool (c).neg) ∧ w'.cell? ⟨B1 + 1 + 1, 1, none⟩ = some (.string (c).num) ∧ w'.cell? ⟨B1 + 1 + 1, 2, none⟩ = some (.string (c).den)) (first | (with_reducible assumption) | exact startn3 a_10.out b_10.out c_10.out | exact next3 (by assumption) (by assumption) | exact next3 ((Below.refl _ _).alloc (Nat.le_refl _) _) (by assumption)) (first | (go_at_call 28; first | ((with_reducible refine (pring2_any Bo a b mab _ M1.out ?hb).mono ?_); (case hb => exact ok_10.out.bel (And.left (by assumption))); rintro e y20 ⟨rfl, hby20⟩) | ((with_reducible refine (pring2_any Bo b a mab _ M2.out ?hb).mono ?_); (case hb => exact ok_10.out.bel (And.left (by assumption))); rintro e y21 ⟨rfl, hby21⟩) | ((with_reducible refine (pring2_any Bo mab c mabc _ M3.out ?hb).mono ?_); (case hb => exact ok_10.out.bel (And.left (by assumption))); rintro e y22 ⟨rfl, hby22⟩) | ((with_reducible refine (pring2_any Bo b c mbc _ M4.out ?hb).mono ?_); (case hb => exact ok_10.out.bel (And.left (by assumption))); rintro e y23 ⟨rfl, hby23⟩) | ((with_reducible refine (pring2_any Bo a mbc mabc _ M5.out ?hb).mono ?_); (case hb => exact ok_10.out.bel (And.left (by assumption))); rintro e y24 ⟨rfl, hby24⟩)) | fail "no arm")
      all_goals (go_wp2_with fail; go_meet; exact ⟨rfl, Lib.hid (And.left (by assumption))⟩)
    case rest =>
      obtain ⟨rfl, hcutB⟩ := hcut
      have D11 := Lib.hid (D10.out.trans (hcutB.out.mono D10.out.size))
      have a_11 := Lib.hid (a_10.out.bel hcutB.out)
      have b_11 := Lib.hid (b_10.out.bel hcutB.out)
      have c_11 := Lib.hid (c_10.out.bel hcutB.out)
      have ok_11 := Lib.hid (ok_10.out.bel hcutB.out)
      clear D10 a_10 b_10 c_10 ok_10
      clear hcutB
      obtain ⟨wc8, hnm⟩ : ∃ x, x = wc := ⟨_, rfl⟩
      subst hnm
      clear q1 q2
      have q1 : ∀ w, (binOp .eql 24 (.agg #[.bool dist.neg, .string dist.num, .string dist.den]) (.agg #[.bool dist.neg, .string dist.num, .string dist.den])).run Tryz.prog w = .ok (.bool true) w := fun w => by rw [run_eql_rat, sameR_iff.2 rfl]
      go_upto_region 9 with fail
      go_cut [6] (fun s6 wx => s6 = .bool true ∧ Hid (Below wc8.heap.size wc8 wx))
      case first =>
        go_region_held3 (fun w' => Below wc8.heap.size wc8 w' ∧ w'.cell? ⟨Bo, 0, none⟩ = some (.bool true) ∧ w'.cell? ⟨B1, 0, none⟩ = some (.bool (a).neg) ∧ w'.cell? ⟨B1, 1, none⟩ = some (.string (a).num) ∧ w'.cell? ⟨B1, 2, none⟩ = some (.string (a).den) ∧ w'.cell? ⟨B1 + 1, 0, none⟩ = some (.bool (b).neg) ∧ w'.cell? ⟨B1 + 1, 1, none⟩ = some (.string (b).num) ∧ w'.cell? ⟨B1 + 1, 2, none⟩ = some (.string (b).den) ∧ w'.cell? ⟨B1 + 1 + 1, 0, none⟩ = some (.bool (c).neg) ∧ w'.cell? ⟨B1 + 1 + 1, 1, none⟩ = some (.string (c).num) ∧ w'.cell? ⟨B1 + 1 + 1, 2, none⟩ = some (.string (c).den)) (first | (with_reducible assumption) | exact start3k ok_11.out a_11.out b_11.out c_11.out | exact next3k (by assumption) (by assumption) | exact next3k ((Below.refl _ _).alloc (Nat.le_refl _) _) (by assumption)) (first | (go_at_call 28; first | ((with_reducible refine (pring2_any Bo a b mab _ M1.out ?hb).mono ?_); (case hb => exact ok_11.out.bel (And.left (by assumption))); rintro e y20 ⟨rfl, hby20⟩) | ((with_reducible refine (pring2_any Bo a c mac _ M6.out ?hb).mono ?_); (case hb => exact ok_11.out.bel (And.left (by assumption))); rintro e y21 ⟨rfl, hby21⟩) | ((with_reducible refine (pring2_any Bo a bc dist _ D1.out ?hb).mono ?_); (case hb => exact ok_11.out.bel (And.left (by assumption))); rintro e y22 ⟨rfl, hby22⟩)) | (go_at_call 27; first | ((with_reducible refine (pring1_any Bo b c bc _ E4.out ?hb).mono ?_); (case hb => exact ok_11.out.bel (And.left (by assumption))); rintro e y10 ⟨rfl, hby10⟩) | ((with_reducible refine (pring1_any Bo mab mac dist _ D2.out ?hb).mono ?_); (case hb => exact ok_11.out.bel (And.left (by assumption))); rintro e y11 ⟨rfl, hby11⟩)) | fail "no arm")
        all_goals (go_wp2_with fail; go_meet; exact ⟨rfl, Lib.hid (And.left (by assumption))⟩)
      case rest =>
        obtain ⟨rfl, hcutB⟩ := hcut
        have D12 := Lib.hid (D11.out.trans (hcutB.out.mono D11.out.size))
        have a_12 := Lib.hid (a_11.out.bel hcutB.out)
        have b_12 := Lib.hid (b_11.out.bel hcutB.out)
        have c_12 := Lib.hid (c_11.out.bel hcutB.out)
        have ok_12 := Lib.hid (ok_11.out.bel hcutB.out)
        clear D11 a_11 b_11 c_11 ok_11
        clear hcutB
        obtain ⟨wc9, hnm⟩ : ∃ x, x = wc := ⟨_, rfl⟩
        subst hnm
        go_wp2_with fail
        go_ret
        exact ⟨rfl, D12.out⟩
end Go.Proofs.YthpghjklnkdmfaaGreatDoor
