/-
  The walk of IntervalMatchesReference.
-/
import Derived.Test.YtbcoblpnihdhgaaGreatDoorIvHead
import Derived.Test.YtbcoblpnihdhgaaGreatDoorIvR1
set_option linter.unusedVariables false
set_option maxRecDepth 100000
namespace Go.Proofs.YtbcoblpnihdhgaaGreatDoor
open Go.RowKit
open Rt
theorem nums_1 (a : Raw) (w : World) (ha : BigR a) : NumsOk (w.alloc (Obj.cells #[Value.bool a.neg, Value.string a.num, Value.string a.den] 24)) (.slice (some ⟨w.heap.size, 0, none⟩) 1 1) [a] := by
  refine ⟨.inr ⟨by simp, w.heap.size, 1, rfl, ?_⟩, (show 1 ≤ 1000 by decide), ?_⟩
  · intro j hj
    match j, hj with
    | 0, _ => simp
  · intro i hi; simp only [List.mem_cons, List.not_mem_nil, or_false] at hi; rcases hi with rfl <;> assumption
theorem nextM4 {W w' w'' : World} {b0 b1 b2 b3 : Nat} {x0_0 x0_1 x0_2 x0_3 x0_4 x0_5 x1_0 x1_1 x1_2 x2_0 x2_1 x2_2 x2_3 x2_4 x2_5 x3_0 x3_1 x3_2 x3_3 x3_4 x3_5 : Value} (hb : Below w'.heap.size w' w'') (h : Below W.heap.size W w' ∧ w'.cell? ⟨b0, 0, none⟩ = some x0_0 ∧ w'.cell? ⟨b0, 1, none⟩ = some x0_1 ∧ w'.cell? ⟨b0, 2, none⟩ = some x0_2 ∧ w'.cell? ⟨b0, 3, none⟩ = some x0_3 ∧ w'.cell? ⟨b0, 4, none⟩ = some x0_4 ∧ w'.cell? ⟨b0, 5, none⟩ = some x0_5 ∧ w'.cell? ⟨b1, 0, none⟩ = some x1_0 ∧ w'.cell? ⟨b1, 1, none⟩ = some x1_1 ∧ w'.cell? ⟨b1, 2, none⟩ = some x1_2 ∧ w'.cell? ⟨b2, 0, none⟩ = some x2_0 ∧ w'.cell? ⟨b2, 1, none⟩ = some x2_1 ∧ w'.cell? ⟨b2, 2, none⟩ = some x2_2 ∧ w'.cell? ⟨b2, 3, none⟩ = some x2_3 ∧ w'.cell? ⟨b2, 4, none⟩ = some x2_4 ∧ w'.cell? ⟨b2, 5, none⟩ = some x2_5 ∧ w'.cell? ⟨b3, 0, none⟩ = some x3_0 ∧ w'.cell? ⟨b3, 1, none⟩ = some x3_1 ∧ w'.cell? ⟨b3, 2, none⟩ = some x3_2 ∧ w'.cell? ⟨b3, 3, none⟩ = some x3_3 ∧ w'.cell? ⟨b3, 4, none⟩ = some x3_4 ∧ w'.cell? ⟨b3, 5, none⟩ = some x3_5) : Below W.heap.size W w'' ∧ w''.cell? ⟨b0, 0, none⟩ = some x0_0 ∧ w''.cell? ⟨b0, 1, none⟩ = some x0_1 ∧ w''.cell? ⟨b0, 2, none⟩ = some x0_2 ∧ w''.cell? ⟨b0, 3, none⟩ = some x0_3 ∧ w''.cell? ⟨b0, 4, none⟩ = some x0_4 ∧ w''.cell? ⟨b0, 5, none⟩ = some x0_5 ∧ w''.cell? ⟨b1, 0, none⟩ = some x1_0 ∧ w''.cell? ⟨b1, 1, none⟩ = some x1_1 ∧ w''.cell? ⟨b1, 2, none⟩ = some x1_2 ∧ w''.cell? ⟨b2, 0, none⟩ = some x2_0 ∧ w''.cell? ⟨b2, 1, none⟩ = some x2_1 ∧ w''.cell? ⟨b2, 2, none⟩ = some x2_2 ∧ w''.cell? ⟨b2, 3, none⟩ = some x2_3 ∧ w''.cell? ⟨b2, 4, none⟩ = some x2_4 ∧ w''.cell? ⟨b2, 5, none⟩ = some x2_5 ∧ w''.cell? ⟨b3, 0, none⟩ = some x3_0 ∧ w''.cell? ⟨b3, 1, none⟩ = some x3_1 ∧ w''.cell? ⟨b3, 2, none⟩ = some x3_2 ∧ w''.cell? ⟨b3, 3, none⟩ = some x3_3 ∧ w''.cell? ⟨b3, 4, none⟩ = some x3_4 ∧ w''.cell? ⟨b3, 5, none⟩ = some x3_5 := by
  obtain ⟨h, h0, h1, h2, h3, h4, h5, h6, h7, h8, h9, h10, h11, h12, h13, h14, h15, h16, h17, h18, h19, h20⟩ := h
  have k : ∀ {a : Addr} {x : Value}, w'.cell? a = some x → w''.cell? a = some x := fun {a x} hc => (hb.cell (p := a) (cell_lt' hc)).trans hc
  exact ⟨h.trans (hb.mono h.size), k h0, k h1, k h2, k h3, k h4, k h5, k h6, k h7, k h8, k h9, k h10, k h11, k h12, k h13, k h14, k h15, k h16, k h17, k h18, k h19, k h20⟩
theorem startM4 {W : World} {b0 b1 b2 b3 : Nat} {r0 : Iv} {r1 : Raw} {r2 : Iv} {r3 : Iv} (h0 : IvAt b0 r0 W) (h1 : RatAt b1 r1 W) (h2 : IvAt b2 r2 W) (h3 : IvAt b3 r3 W) : Below W.heap.size W W.drew ∧ W.drew.cell? ⟨b0, 0, none⟩ = some (.bool r0.low.neg) ∧ W.drew.cell? ⟨b0, 1, none⟩ = some (.string r0.low.num) ∧ W.drew.cell? ⟨b0, 2, none⟩ = some (.string r0.low.den) ∧ W.drew.cell? ⟨b0, 3, none⟩ = some (.bool r0.high.neg) ∧ W.drew.cell? ⟨b0, 4, none⟩ = some (.string r0.high.num) ∧ W.drew.cell? ⟨b0, 5, none⟩ = some (.string r0.high.den) ∧ W.drew.cell? ⟨b1, 0, none⟩ = some (.bool r1.neg) ∧ W.drew.cell? ⟨b1, 1, none⟩ = some (.string r1.num) ∧ W.drew.cell? ⟨b1, 2, none⟩ = some (.string r1.den) ∧ W.drew.cell? ⟨b2, 0, none⟩ = some (.bool r2.low.neg) ∧ W.drew.cell? ⟨b2, 1, none⟩ = some (.string r2.low.num) ∧ W.drew.cell? ⟨b2, 2, none⟩ = some (.string r2.low.den) ∧ W.drew.cell? ⟨b2, 3, none⟩ = some (.bool r2.high.neg) ∧ W.drew.cell? ⟨b2, 4, none⟩ = some (.string r2.high.num) ∧ W.drew.cell? ⟨b2, 5, none⟩ = some (.string r2.high.den) ∧ W.drew.cell? ⟨b3, 0, none⟩ = some (.bool r3.low.neg) ∧ W.drew.cell? ⟨b3, 1, none⟩ = some (.string r3.low.num) ∧ W.drew.cell? ⟨b3, 2, none⟩ = some (.string r3.low.den) ∧ W.drew.cell? ⟨b3, 3, none⟩ = some (.bool r3.high.neg) ∧ W.drew.cell? ⟨b3, 4, none⟩ = some (.string r3.high.num) ∧ W.drew.cell? ⟨b3, 5, none⟩ = some (.string r3.high.den) := by
  have hb : Below W.heap.size W W.drew := (Below.refl _ _).drew
  exact ⟨hb, (h0.bel hb).c0, (h0.bel hb).c1, (h0.bel hb).c2, (h0.bel hb).c3, (h0.bel hb).c4, (h0.bel hb).c5, (h1.bel hb).c0, (h1.bel hb).c1, (h1.bel hb).c2, (h2.bel hb).c0, (h2.bel hb).c1, (h2.bel hb).c2, (h2.bel hb).c3, (h2.bel hb).c4, (h2.bel hb).c5, (h3.bel hb).c0, (h3.bel hb).c1, (h3.bel hb).c2, (h3.bel hb).c3, (h3.bel hb).c4, (h3.bel hb).c5⟩
set_option maxHeartbeats 8000000 in
theorem walkIntervalMatchesReference (a b : Iv) (r : Raw) (v : Value) (l : List Iv) (w : World) (ht : TabOk w) (sa : BigI a) (sb : BigI b) (sr : BigR r) (ok : IvsOk w v l) : Calls Tryz.prog 3 #[.agg #[.bool a.low.neg, .string a.low.num, .string a.low.den, .bool a.high.neg, .string a.high.num, .string a.high.den], .agg #[.bool b.low.neg, .string b.low.num, .string b.low.den, .bool b.high.neg, .string b.high.num, .string b.high.den], .agg #[.bool r.neg, .string r.num, .string r.den], v] w fun e w' => e = .returned (.bool true) ∧ Below w.heap.size w w' := by
  have HT := Lib.hid ht; clear ht
  have HSa := Lib.hid sa; clear sa
  have HSb := Lib.hid sb; clear sb
  have HSr := Lib.hid sr; clear sr
  have HOKL := Lib.hid ok; clear ok
  have D0 := Lib.hid (Below.refl w.heap.size w)
  go_enter Tryz.func3, Tryz.ntmps3
  go_wp2_with fail
  obtain ⟨B1, hB1⟩ : ∃ B, B = w.heap.size := ⟨_, rfl⟩
  obtain ⟨W1_0, hW1_0⟩ : ∃ W, W = w.alloc (Obj.cells #[Value.bool a.low.neg, Value.string a.low.num, Value.string a.low.den, Value.bool a.high.neg, Value.string a.high.num, Value.string a.high.den] 26) := ⟨_, rfl⟩
  have hb : Below w.heap.size w W1_0 := by rw [hW1_0]; exact (Below.refl _ _).alloc (Nat.le_refl _) _
  have hzW1_0 : w.heap.size = B1 := by rw [hB1]
  have hlW1_0 : IvAt (B1) a W1_0 := by rw [← hzW1_0, hW1_0]; exact ⟨heap_lastM _ _⟩
  have D1 := Lib.hid (D0.out.trans (hb.mono D0.out.size))
  clear hb
  have a_1 := Lib.hid hlW1_0
  clear hlW1_0
  obtain ⟨W1_1, hW1_1⟩ : ∃ W, W = W1_0.alloc (Obj.cells #[Value.bool b.low.neg, Value.string b.low.num, Value.string b.low.den, Value.bool b.high.neg, Value.string b.high.num, Value.string b.high.den] 26) := ⟨_, rfl⟩
  have hb : Below W1_0.heap.size W1_0 W1_1 := by rw [hW1_1]; exact (Below.refl _ _).alloc (Nat.le_refl _) _
  have hzW1_1 : W1_0.heap.size = B1 + 1 := by rw [hW1_0]; simp [hzW1_0]
  have hlW1_1 : IvAt (B1 + 1) b W1_1 := by rw [← hzW1_1, hW1_1]; exact ⟨heap_lastM _ _⟩
  have D2 := Lib.hid (D1.out.trans (hb.mono D1.out.size))
  have a_2 := Lib.hid (a_1.out.bel hb)
  clear D1 a_1
  clear hb
  have b_2 := Lib.hid hlW1_1
  clear hlW1_1
  obtain ⟨W1_2, hW1_2⟩ : ∃ W, W = W1_1.alloc (Obj.cells #[Value.bool r.neg, Value.string r.num, Value.string r.den] 24) := ⟨_, rfl⟩
  have hb : Below W1_1.heap.size W1_1 W1_2 := by rw [hW1_2]; exact (Below.refl _ _).alloc (Nat.le_refl _) _
  have hzW1_2 : W1_1.heap.size = B1 + 1 + 1 := by rw [hW1_1]; simp [hzW1_1]
  have hlW1_2 : RatAt (B1 + 1 + 1) r W1_2 := by rw [← hzW1_2, hW1_2]; exact ⟨heap_lastM _ _⟩
  have D3 := Lib.hid (D2.out.trans (hb.mono D2.out.size))
  have a_3 := Lib.hid (a_2.out.bel hb)
  have b_3 := Lib.hid (b_2.out.bel hb)
  clear D2 a_2 b_2
  clear hb
  have r_3 := Lib.hid hlW1_2
  clear hlW1_2
  rw [← hW1_0]
  rw [← hW1_1]
  rw [← hW1_2]
  simp only [← hB1]
  clear hW1_0 hzW1_0
  clear hW1_1 hzW1_1
  clear hW1_2 hzW1_2
  have HB1 := Lib.hid hB1
  clear hB1
  refine (head5_any _ (HT.out.below D3.out)).mono ?_
  rintro e v4 ⟨rfl, hb⟩
  have D4 := Lib.hid (D3.out.trans (hb.mono D3.out.size))
  have a_4 := Lib.hid (a_3.out.bel hb)
  have b_4 := Lib.hid (b_3.out.bel hb)
  have r_4 := Lib.hid (r_3.out.bel hb)
  clear D3 a_3 b_3 r_3
  clear hb
  have ac0 := a_4.out.c0
  have ac1 := a_4.out.c1
  have ac2 := a_4.out.c2
  have ac3 := a_4.out.c3
  have ac4 := a_4.out.c4
  have ac5 := a_4.out.c5
  have az := blk_lt a_4.out.cells
  have bc0 := b_4.out.c0
  have bc1 := b_4.out.c1
  have bc2 := b_4.out.c2
  have bc3 := b_4.out.c3
  have bc4 := b_4.out.c4
  have bc5 := b_4.out.c5
  have bz := blk_lt b_4.out.cells
  have rc0 := r_4.out.c0
  have rc1 := r_4.out.c1
  have rc2 := r_4.out.c2
  have rz := blk_lt r_4.out.cells
  go_wp2_with fail
  clear ac0 ac1 ac2 ac3 ac4 ac5 az bc0 bc1 bc2 bc3 bc4 bc5 bz rc0 rc1 rc2 rz
  have h1 : IvsOk (v4.alloc (Obj.cells #[Value.bool a.low.neg, Value.string a.low.num, Value.string a.low.den, Value.bool a.high.neg, Value.string a.high.num, Value.string a.high.den, Value.bool b.low.neg, Value.string b.low.num, Value.string b.low.den, Value.bool b.high.neg, Value.string b.high.num, Value.string b.high.den] 26)) (.slice (some ⟨v4.heap.size, 0, none⟩) 2 2) [a, b] := ivs_2 a b v4 HSa.out HSb.out
  have hx1 : Below v4.heap.size v4 (v4.alloc (Obj.cells #[Value.bool a.low.neg, Value.string a.low.num, Value.string a.low.den, Value.bool a.high.neg, Value.string a.high.num, Value.string a.high.den, Value.bool b.low.neg, Value.string b.low.num, Value.string b.low.den, Value.bool b.high.neg, Value.string b.high.num, Value.string b.high.den] 26)) := (Below.refl _ _).alloc (Nat.le_refl _) _
  have hx2 : Below (v4.alloc (Obj.cells #[Value.bool a.low.neg, Value.string a.low.num, Value.string a.low.den, Value.bool a.high.neg, Value.string a.high.num, Value.string a.high.den, Value.bool b.low.neg, Value.string b.low.num, Value.string b.low.den, Value.bool b.high.neg, Value.string b.high.num, Value.string b.high.den] 26)).heap.size (v4.alloc (Obj.cells #[Value.bool a.low.neg, Value.string a.low.num, Value.string a.low.den, Value.bool a.high.neg, Value.string a.high.num, Value.string a.high.den, Value.bool b.low.neg, Value.string b.low.num, Value.string b.low.den, Value.bool b.high.neg, Value.string b.high.num, Value.string b.high.den] 26)) ((v4.alloc (Obj.cells #[Value.bool a.low.neg, Value.string a.low.num, Value.string a.low.den, Value.bool a.high.neg, Value.string a.high.num, Value.string a.high.den, Value.bool b.low.neg, Value.string b.low.num, Value.string b.low.den, Value.bool b.high.neg, Value.string b.high.num, Value.string b.high.den] 26)).alloc (Obj.cells #[Value.bool r.neg, Value.string r.num, Value.string r.den] 24)) := (Below.refl _ _).alloc (Nat.le_refl _) _
  have h2 : NumsOk ((v4.alloc (Obj.cells #[Value.bool a.low.neg, Value.string a.low.num, Value.string a.low.den, Value.bool a.high.neg, Value.string a.high.num, Value.string a.high.den, Value.bool b.low.neg, Value.string b.low.num, Value.string b.low.den, Value.bool b.high.neg, Value.string b.high.num, Value.string b.high.den] 26)).alloc (Obj.cells #[Value.bool r.neg, Value.string r.num, Value.string r.den] 24)) (.slice (some ⟨v4.heap.size + 1, 0, none⟩) 1 1) [r] := by have := nums_1 r (v4.alloc (Obj.cells #[Value.bool a.low.neg, Value.string a.low.num, Value.string a.low.den, Value.bool a.high.neg, Value.string a.high.num, Value.string a.high.den, Value.bool b.low.neg, Value.string b.low.num, Value.string b.low.den, Value.bool b.high.neg, Value.string b.high.num, Value.string b.high.den] 26)) HSr.out; rwa [show (v4.alloc (Obj.cells #[Value.bool a.low.neg, Value.string a.low.num, Value.string a.low.den, Value.bool a.high.neg, Value.string a.high.num, Value.string a.high.den, Value.bool b.low.neg, Value.string b.low.num, Value.string b.low.den, Value.bool b.high.neg, Value.string b.high.num, Value.string b.high.den] 26)).heap.size = v4.heap.size + 1 by simp] at this
  have hx := hx1.trans (hx2.mono hx1.size)
  refine (few5_any _ _ _ _ _ (h1.bel hx2) h2).mono ?_
  rintro e vf ⟨rfl, hbf⟩
  have hb := hx.trans (hbf.mono hx.size); clear h1 hx1 hx hbf hx2 h2
  have D5 := Lib.hid (D4.out.trans (hb.mono D4.out.size))
  have a_5 := Lib.hid (a_4.out.bel hb)
  have b_5 := Lib.hid (b_4.out.bel hb)
  have r_5 := Lib.hid (r_4.out.bel hb)
  clear D4 a_4 b_4 r_4
  clear hb
  rcases Bool.eq_false_or_eq_true (fewI [a, b] && fewS [r]) with hp | hp
  rotate_left
  ·
    simp only [hp]
    go_wp2_with fail
    go_ret
    exact ⟨rfl, D5.out⟩
  simp only [hp]
  have HF := Lib.hid hp; clear hp
  have hf := HF.out; rw [Bool.and_eq_true, fewI_iff, fewS_iff] at hf
  have Za : Hid (SzI a) := Lib.hid (hf.1.2 a (by simp))
  have Zb : Hid (SzI b) := Lib.hid (hf.1.2 b (by simp))
  have Zr : Hid (Sz r) := Lib.hid (hf.2 r (by simp))
  clear hf
  have ac0 := a_5.out.c0
  have ac1 := a_5.out.c1
  have ac2 := a_5.out.c2
  have ac3 := a_5.out.c3
  have ac4 := a_5.out.c4
  have ac5 := a_5.out.c5
  have bc0 := b_5.out.c0
  have bc1 := b_5.out.c1
  have bc2 := b_5.out.c2
  have bc3 := b_5.out.c3
  have bc4 := b_5.out.c4
  have bc5 := b_5.out.c5
  have rc0 := r_5.out.c0
  have rc1 := r_5.out.c1
  have rc2 := r_5.out.c2
  go_wp2_with fail
  clear ac0 ac1 ac2 ac3 ac4 ac5 bc0 bc1 bc2 bc3 bc4 bc5 rc0 rc1 rc2
  refine (few5_any _ _ l [] _ (HOKL.out.bel D5.out) ⟨.inl ⟨rfl, rfl⟩, by decide, by intro r hr; cases hr⟩).mono ?_
  rintro e vg ⟨rfl, hb⟩
  have D6 := Lib.hid (D5.out.trans (hb.mono D5.out.size))
  have a_6 := Lib.hid (a_5.out.bel hb)
  have b_6 := Lib.hid (b_5.out.bel hb)
  have r_6 := Lib.hid (r_5.out.bel hb)
  clear D5 a_5 b_5 r_5
  clear hb
  rcases Bool.eq_false_or_eq_true (fewI l && fewS []) with hp | hp
  rotate_left
  ·
    simp only [hp]
    go_wp2_with fail
    go_ret
    exact ⟨rfl, D6.out⟩
  simp only [hp]
  have HF2 := Lib.hid hp; clear hp
  obtain ⟨p, e1, hv⟩ : ∃ p e, addI a b = (p, e) := ⟨_, _, rfl⟩
  have Hp := Lib.hid hv; clear hv
  obtain ⟨x, e2, hv⟩ : ∃ p e, mulI a b = (p, e) := ⟨_, _, rfl⟩
  have Hx := Lib.hid hv; clear hv
  obtain ⟨y, e3, hv⟩ : ∃ p e, hullI l = (p, e) := ⟨_, _, rfl⟩
  have Hy := Lib.hid hv; clear hv
  obtain ⟨u, e4, hv⟩ : ∃ p e, meetI a b = (p, e) := ⟨_, _, rfl⟩
  have Hu := Lib.hid hv; clear hv
  have ac0 := a_6.out.c0
  have ac1 := a_6.out.c1
  have ac2 := a_6.out.c2
  have ac3 := a_6.out.c3
  have ac4 := a_6.out.c4
  have ac5 := a_6.out.c5
  have az := blk_lt a_6.out.cells
  have bc0 := b_6.out.c0
  have bc1 := b_6.out.c1
  have bc2 := b_6.out.c2
  have bc3 := b_6.out.c3
  have bc4 := b_6.out.c4
  have bc5 := b_6.out.c5
  have bz := blk_lt b_6.out.cells
  have rc0 := r_6.out.c0
  have rc1 := r_6.out.c1
  have rc2 := r_6.out.c2
  have rz := blk_lt r_6.out.cells
  go_wp2_with fail
  clear ac0 ac1 ac2 ac3 ac4 ac5 az bc0 bc1 bc2 bc3 bc4 bc5 bz rc0 rc1 rc2 rz
  refine (piadd_any a b _).mono ?_
  rintro e v7 ⟨rfl, hb⟩
  have D7 := Lib.hid (D6.out.trans (hb.mono D6.out.size))
  have a_7 := Lib.hid (a_6.out.bel hb)
  have b_7 := Lib.hid (b_6.out.bel hb)
  have r_7 := Lib.hid (r_6.out.bel hb)
  clear D6 a_6 b_6 r_6
  clear hb
  simp only [Hp.out]
  have ac0 := a_7.out.c0
  have ac1 := a_7.out.c1
  have ac2 := a_7.out.c2
  have ac3 := a_7.out.c3
  have ac4 := a_7.out.c4
  have ac5 := a_7.out.c5
  have az := blk_lt a_7.out.cells
  have bc0 := b_7.out.c0
  have bc1 := b_7.out.c1
  have bc2 := b_7.out.c2
  have bc3 := b_7.out.c3
  have bc4 := b_7.out.c4
  have bc5 := b_7.out.c5
  have bz := blk_lt b_7.out.cells
  have rc0 := r_7.out.c0
  have rc1 := r_7.out.c1
  have rc2 := r_7.out.c2
  have rz := blk_lt r_7.out.cells
  go_wp2_with fail
  clear ac0 ac1 ac2 ac3 ac4 ac5 az bc0 bc1 bc2 bc3 bc4 bc5 bz rc0 rc1 rc2 rz
  obtain ⟨B2, hB2⟩ : ∃ B, B = v7.heap.size := ⟨_, rfl⟩
  obtain ⟨W2_0, hW2_0⟩ : ∃ W, W = v7.alloc (Obj.cells #[Value.bool p.low.neg, Value.string p.low.num, Value.string p.low.den, Value.bool p.high.neg, Value.string p.high.num, Value.string p.high.den] 26) := ⟨_, rfl⟩
  have hb : Below v7.heap.size v7 W2_0 := by rw [hW2_0]; exact (Below.refl _ _).alloc (Nat.le_refl _) _
  have hzW2_0 : v7.heap.size = B2 := by rw [hB2]
  have hlW2_0 : IvAt (B2) p W2_0 := by rw [← hzW2_0, hW2_0]; exact ⟨heap_lastM _ _⟩
  have D8 := Lib.hid (D7.out.trans (hb.mono D7.out.size))
  have a_8 := Lib.hid (a_7.out.bel hb)
  have b_8 := Lib.hid (b_7.out.bel hb)
  have r_8 := Lib.hid (r_7.out.bel hb)
  clear D7 a_7 b_7 r_7
  clear hb
  have p1_8 := Lib.hid hlW2_0
  clear hlW2_0
  rw [← hW2_0]
  simp only [← hB2]
  clear hW2_0 hzW2_0
  have HB2 := Lib.hid hB2
  clear hB2
  refine (refiadd_any a b _).mono ?_
  rintro e v9 ⟨rfl, hb⟩
  have D9 := Lib.hid (D8.out.trans (hb.mono D8.out.size))
  have a_9 := Lib.hid (a_8.out.bel hb)
  have b_9 := Lib.hid (b_8.out.bel hb)
  have r_9 := Lib.hid (r_8.out.bel hb)
  have p1_9 := Lib.hid (p1_8.out.bel hb)
  clear D8 a_8 b_8 r_8 p1_8
  clear hb
  simp only [Hp.out]
  have ac0 := a_9.out.c0
  have ac1 := a_9.out.c1
  have ac2 := a_9.out.c2
  have ac3 := a_9.out.c3
  have ac4 := a_9.out.c4
  have ac5 := a_9.out.c5
  have az := blk_lt a_9.out.cells
  have bc0 := b_9.out.c0
  have bc1 := b_9.out.c1
  have bc2 := b_9.out.c2
  have bc3 := b_9.out.c3
  have bc4 := b_9.out.c4
  have bc5 := b_9.out.c5
  have bz := blk_lt b_9.out.cells
  have rc0 := r_9.out.c0
  have rc1 := r_9.out.c1
  have rc2 := r_9.out.c2
  have rz := blk_lt r_9.out.cells
  go_wp2_with fail
  clear ac0 ac1 ac2 ac3 ac4 ac5 az bc0 bc1 bc2 bc3 bc4 bc5 bz rc0 rc1 rc2 rz
  obtain ⟨B3, hB3⟩ : ∃ B, B = v9.heap.size := ⟨_, rfl⟩
  obtain ⟨W3_0, hW3_0⟩ : ∃ W, W = v9.alloc (Obj.cells #[Value.bool p.low.neg, Value.string p.low.num, Value.string p.low.den, Value.bool p.high.neg, Value.string p.high.num, Value.string p.high.den] 26) := ⟨_, rfl⟩
  have hb : Below v9.heap.size v9 W3_0 := by rw [hW3_0]; exact (Below.refl _ _).alloc (Nat.le_refl _) _
  have hzW3_0 : v9.heap.size = B3 := by rw [hB3]
  have hlW3_0 : IvAt (B3) p W3_0 := by rw [← hzW3_0, hW3_0]; exact ⟨heap_lastM _ _⟩
  have D10 := Lib.hid (D9.out.trans (hb.mono D9.out.size))
  have a_10 := Lib.hid (a_9.out.bel hb)
  have b_10 := Lib.hid (b_9.out.bel hb)
  have r_10 := Lib.hid (r_9.out.bel hb)
  have p1_10 := Lib.hid (p1_9.out.bel hb)
  clear D9 a_9 b_9 r_9 p1_9
  clear hb
  have q1_10 := Lib.hid hlW3_0
  clear hlW3_0
  rw [← hW3_0]
  simp only [← hB3]
  clear hW3_0 hzW3_0
  have HB3 := Lib.hid hB3
  clear hB3
  refine (pimul_any a b _).mono ?_
  rintro e v11 ⟨rfl, hb⟩
  have D11 := Lib.hid (D10.out.trans (hb.mono D10.out.size))
  have a_11 := Lib.hid (a_10.out.bel hb)
  have b_11 := Lib.hid (b_10.out.bel hb)
  have r_11 := Lib.hid (r_10.out.bel hb)
  have p1_11 := Lib.hid (p1_10.out.bel hb)
  have q1_11 := Lib.hid (q1_10.out.bel hb)
  clear D10 a_10 b_10 r_10 p1_10 q1_10
  clear hb
  simp only [Hx.out]
  have ac0 := a_11.out.c0
  have ac1 := a_11.out.c1
  have ac2 := a_11.out.c2
  have ac3 := a_11.out.c3
  have ac4 := a_11.out.c4
  have ac5 := a_11.out.c5
  have az := blk_lt a_11.out.cells
  have bc0 := b_11.out.c0
  have bc1 := b_11.out.c1
  have bc2 := b_11.out.c2
  have bc3 := b_11.out.c3
  have bc4 := b_11.out.c4
  have bc5 := b_11.out.c5
  have bz := blk_lt b_11.out.cells
  have rc0 := r_11.out.c0
  have rc1 := r_11.out.c1
  have rc2 := r_11.out.c2
  have rz := blk_lt r_11.out.cells
  go_wp2_with fail
  clear ac0 ac1 ac2 ac3 ac4 ac5 az bc0 bc1 bc2 bc3 bc4 bc5 bz rc0 rc1 rc2 rz
  obtain ⟨B4, hB4⟩ : ∃ B, B = v11.heap.size := ⟨_, rfl⟩
  obtain ⟨W4_0, hW4_0⟩ : ∃ W, W = v11.alloc (Obj.cells #[Value.bool x.low.neg, Value.string x.low.num, Value.string x.low.den, Value.bool x.high.neg, Value.string x.high.num, Value.string x.high.den] 26) := ⟨_, rfl⟩
  have hb : Below v11.heap.size v11 W4_0 := by rw [hW4_0]; exact (Below.refl _ _).alloc (Nat.le_refl _) _
  have hzW4_0 : v11.heap.size = B4 := by rw [hB4]
  have hlW4_0 : IvAt (B4) x W4_0 := by rw [← hzW4_0, hW4_0]; exact ⟨heap_lastM _ _⟩
  have D12 := Lib.hid (D11.out.trans (hb.mono D11.out.size))
  have a_12 := Lib.hid (a_11.out.bel hb)
  have b_12 := Lib.hid (b_11.out.bel hb)
  have r_12 := Lib.hid (r_11.out.bel hb)
  have p1_12 := Lib.hid (p1_11.out.bel hb)
  have q1_12 := Lib.hid (q1_11.out.bel hb)
  clear D11 a_11 b_11 r_11 p1_11 q1_11
  clear hb
  have p2_12 := Lib.hid hlW4_0
  clear hlW4_0
  rw [← hW4_0]
  simp only [← hB4]
  clear hW4_0 hzW4_0
  have HB4 := Lib.hid hB4
  clear hB4
  refine (refimul_any a b _).mono ?_
  rintro e v13 ⟨rfl, hb⟩
  have D13 := Lib.hid (D12.out.trans (hb.mono D12.out.size))
  have a_13 := Lib.hid (a_12.out.bel hb)
  have b_13 := Lib.hid (b_12.out.bel hb)
  have r_13 := Lib.hid (r_12.out.bel hb)
  have p1_13 := Lib.hid (p1_12.out.bel hb)
  have q1_13 := Lib.hid (q1_12.out.bel hb)
  have p2_13 := Lib.hid (p2_12.out.bel hb)
  clear D12 a_12 b_12 r_12 p1_12 q1_12 p2_12
  clear hb
  simp only [Hx.out]
  have ac0 := a_13.out.c0
  have ac1 := a_13.out.c1
  have ac2 := a_13.out.c2
  have ac3 := a_13.out.c3
  have ac4 := a_13.out.c4
  have ac5 := a_13.out.c5
  have az := blk_lt a_13.out.cells
  have bc0 := b_13.out.c0
  have bc1 := b_13.out.c1
  have bc2 := b_13.out.c2
  have bc3 := b_13.out.c3
  have bc4 := b_13.out.c4
  have bc5 := b_13.out.c5
  have bz := blk_lt b_13.out.cells
  have rc0 := r_13.out.c0
  have rc1 := r_13.out.c1
  have rc2 := r_13.out.c2
  have rz := blk_lt r_13.out.cells
  go_wp2_with fail
  clear ac0 ac1 ac2 ac3 ac4 ac5 az bc0 bc1 bc2 bc3 bc4 bc5 bz rc0 rc1 rc2 rz
  obtain ⟨B5, hB5⟩ : ∃ B, B = v13.heap.size := ⟨_, rfl⟩
  obtain ⟨W5_0, hW5_0⟩ : ∃ W, W = v13.alloc (Obj.cells #[Value.bool x.low.neg, Value.string x.low.num, Value.string x.low.den, Value.bool x.high.neg, Value.string x.high.num, Value.string x.high.den] 26) := ⟨_, rfl⟩
  have hb : Below v13.heap.size v13 W5_0 := by rw [hW5_0]; exact (Below.refl _ _).alloc (Nat.le_refl _) _
  have hzW5_0 : v13.heap.size = B5 := by rw [hB5]
  have hlW5_0 : IvAt (B5) x W5_0 := by rw [← hzW5_0, hW5_0]; exact ⟨heap_lastM _ _⟩
  have D14 := Lib.hid (D13.out.trans (hb.mono D13.out.size))
  have a_14 := Lib.hid (a_13.out.bel hb)
  have b_14 := Lib.hid (b_13.out.bel hb)
  have r_14 := Lib.hid (r_13.out.bel hb)
  have p1_14 := Lib.hid (p1_13.out.bel hb)
  have q1_14 := Lib.hid (q1_13.out.bel hb)
  have p2_14 := Lib.hid (p2_13.out.bel hb)
  clear D13 a_13 b_13 r_13 p1_13 q1_13 p2_13
  clear hb
  have q2_14 := Lib.hid hlW5_0
  clear hlW5_0
  rw [← hW5_0]
  simp only [← hB5]
  clear hW5_0 hzW5_0
  have HB5 := Lib.hid hB5
  clear hB5
  refine (pihull_any _ l _ (HOKL.out.bel D14.out)).mono ?_
  rintro e v15 ⟨rfl, hb⟩
  have D15 := Lib.hid (D14.out.trans (hb.mono D14.out.size))
  have a_15 := Lib.hid (a_14.out.bel hb)
  have b_15 := Lib.hid (b_14.out.bel hb)
  have r_15 := Lib.hid (r_14.out.bel hb)
  have p1_15 := Lib.hid (p1_14.out.bel hb)
  have q1_15 := Lib.hid (q1_14.out.bel hb)
  have p2_15 := Lib.hid (p2_14.out.bel hb)
  have q2_15 := Lib.hid (q2_14.out.bel hb)
  clear D14 a_14 b_14 r_14 p1_14 q1_14 p2_14 q2_14
  clear hb
  simp only [Hy.out]
  have ac0 := a_15.out.c0
  have ac1 := a_15.out.c1
  have ac2 := a_15.out.c2
  have ac3 := a_15.out.c3
  have ac4 := a_15.out.c4
  have ac5 := a_15.out.c5
  have az := blk_lt a_15.out.cells
  have bc0 := b_15.out.c0
  have bc1 := b_15.out.c1
  have bc2 := b_15.out.c2
  have bc3 := b_15.out.c3
  have bc4 := b_15.out.c4
  have bc5 := b_15.out.c5
  have bz := blk_lt b_15.out.cells
  have rc0 := r_15.out.c0
  have rc1 := r_15.out.c1
  have rc2 := r_15.out.c2
  have rz := blk_lt r_15.out.cells
  go_wp2_with fail
  clear ac0 ac1 ac2 ac3 ac4 ac5 az bc0 bc1 bc2 bc3 bc4 bc5 bz rc0 rc1 rc2 rz
  obtain ⟨B6, hB6⟩ : ∃ B, B = v15.heap.size := ⟨_, rfl⟩
  obtain ⟨W6_0, hW6_0⟩ : ∃ W, W = v15.alloc (Obj.cells #[Value.bool y.low.neg, Value.string y.low.num, Value.string y.low.den, Value.bool y.high.neg, Value.string y.high.num, Value.string y.high.den] 26) := ⟨_, rfl⟩
  have hb : Below v15.heap.size v15 W6_0 := by rw [hW6_0]; exact (Below.refl _ _).alloc (Nat.le_refl _) _
  have hzW6_0 : v15.heap.size = B6 := by rw [hB6]
  have hlW6_0 : IvAt (B6) y W6_0 := by rw [← hzW6_0, hW6_0]; exact ⟨heap_lastM _ _⟩
  have D16 := Lib.hid (D15.out.trans (hb.mono D15.out.size))
  have a_16 := Lib.hid (a_15.out.bel hb)
  have b_16 := Lib.hid (b_15.out.bel hb)
  have r_16 := Lib.hid (r_15.out.bel hb)
  have p1_16 := Lib.hid (p1_15.out.bel hb)
  have q1_16 := Lib.hid (q1_15.out.bel hb)
  have p2_16 := Lib.hid (p2_15.out.bel hb)
  have q2_16 := Lib.hid (q2_15.out.bel hb)
  clear D15 a_15 b_15 r_15 p1_15 q1_15 p2_15 q2_15
  clear hb
  have p3_16 := Lib.hid hlW6_0
  clear hlW6_0
  rw [← hW6_0]
  simp only [← hB6]
  clear hW6_0 hzW6_0
  have HB6 := Lib.hid hB6
  clear hB6
  refine (refihull_any _ l _ (HOKL.out.bel D16.out)).mono ?_
  rintro e v17 ⟨rfl, hb⟩
  have D17 := Lib.hid (D16.out.trans (hb.mono D16.out.size))
  have a_17 := Lib.hid (a_16.out.bel hb)
  have b_17 := Lib.hid (b_16.out.bel hb)
  have r_17 := Lib.hid (r_16.out.bel hb)
  have p1_17 := Lib.hid (p1_16.out.bel hb)
  have q1_17 := Lib.hid (q1_16.out.bel hb)
  have p2_17 := Lib.hid (p2_16.out.bel hb)
  have q2_17 := Lib.hid (q2_16.out.bel hb)
  have p3_17 := Lib.hid (p3_16.out.bel hb)
  clear D16 a_16 b_16 r_16 p1_16 q1_16 p2_16 q2_16 p3_16
  clear hb
  simp only [Hy.out]
  have ac0 := a_17.out.c0
  have ac1 := a_17.out.c1
  have ac2 := a_17.out.c2
  have ac3 := a_17.out.c3
  have ac4 := a_17.out.c4
  have ac5 := a_17.out.c5
  have az := blk_lt a_17.out.cells
  have bc0 := b_17.out.c0
  have bc1 := b_17.out.c1
  have bc2 := b_17.out.c2
  have bc3 := b_17.out.c3
  have bc4 := b_17.out.c4
  have bc5 := b_17.out.c5
  have bz := blk_lt b_17.out.cells
  have rc0 := r_17.out.c0
  have rc1 := r_17.out.c1
  have rc2 := r_17.out.c2
  have rz := blk_lt r_17.out.cells
  go_wp2_with fail
  clear ac0 ac1 ac2 ac3 ac4 ac5 az bc0 bc1 bc2 bc3 bc4 bc5 bz rc0 rc1 rc2 rz
  obtain ⟨B7, hB7⟩ : ∃ B, B = v17.heap.size := ⟨_, rfl⟩
  obtain ⟨W7_0, hW7_0⟩ : ∃ W, W = v17.alloc (Obj.cells #[Value.bool y.low.neg, Value.string y.low.num, Value.string y.low.den, Value.bool y.high.neg, Value.string y.high.num, Value.string y.high.den] 26) := ⟨_, rfl⟩
  have hb : Below v17.heap.size v17 W7_0 := by rw [hW7_0]; exact (Below.refl _ _).alloc (Nat.le_refl _) _
  have hzW7_0 : v17.heap.size = B7 := by rw [hB7]
  have hlW7_0 : IvAt (B7) y W7_0 := by rw [← hzW7_0, hW7_0]; exact ⟨heap_lastM _ _⟩
  have D18 := Lib.hid (D17.out.trans (hb.mono D17.out.size))
  have a_18 := Lib.hid (a_17.out.bel hb)
  have b_18 := Lib.hid (b_17.out.bel hb)
  have r_18 := Lib.hid (r_17.out.bel hb)
  have p1_18 := Lib.hid (p1_17.out.bel hb)
  have q1_18 := Lib.hid (q1_17.out.bel hb)
  have p2_18 := Lib.hid (p2_17.out.bel hb)
  have q2_18 := Lib.hid (q2_17.out.bel hb)
  have p3_18 := Lib.hid (p3_17.out.bel hb)
  clear D17 a_17 b_17 r_17 p1_17 q1_17 p2_17 q2_17 p3_17
  clear hb
  have q3_18 := Lib.hid hlW7_0
  clear hlW7_0
  rw [← hW7_0]
  simp only [← hB7]
  clear hW7_0 hzW7_0
  have HB7 := Lib.hid hB7
  clear hB7
  refine (pimeet_any a b _).mono ?_
  rintro e v19 ⟨rfl, hb⟩
  have D19 := Lib.hid (D18.out.trans (hb.mono D18.out.size))
  have a_19 := Lib.hid (a_18.out.bel hb)
  have b_19 := Lib.hid (b_18.out.bel hb)
  have r_19 := Lib.hid (r_18.out.bel hb)
  have p1_19 := Lib.hid (p1_18.out.bel hb)
  have q1_19 := Lib.hid (q1_18.out.bel hb)
  have p2_19 := Lib.hid (p2_18.out.bel hb)
  have q2_19 := Lib.hid (q2_18.out.bel hb)
  have p3_19 := Lib.hid (p3_18.out.bel hb)
  have q3_19 := Lib.hid (q3_18.out.bel hb)
  clear D18 a_18 b_18 r_18 p1_18 q1_18 p2_18 q2_18 p3_18 q3_18
  clear hb
  simp only [Hu.out]
  have ac0 := a_19.out.c0
  have ac1 := a_19.out.c1
  have ac2 := a_19.out.c2
  have ac3 := a_19.out.c3
  have ac4 := a_19.out.c4
  have ac5 := a_19.out.c5
  have az := blk_lt a_19.out.cells
  have bc0 := b_19.out.c0
  have bc1 := b_19.out.c1
  have bc2 := b_19.out.c2
  have bc3 := b_19.out.c3
  have bc4 := b_19.out.c4
  have bc5 := b_19.out.c5
  have bz := blk_lt b_19.out.cells
  have rc0 := r_19.out.c0
  have rc1 := r_19.out.c1
  have rc2 := r_19.out.c2
  have rz := blk_lt r_19.out.cells
  go_wp2_with fail
  clear ac0 ac1 ac2 ac3 ac4 ac5 az bc0 bc1 bc2 bc3 bc4 bc5 bz rc0 rc1 rc2 rz
  obtain ⟨B8, hB8⟩ : ∃ B, B = v19.heap.size := ⟨_, rfl⟩
  obtain ⟨W8_0, hW8_0⟩ : ∃ W, W = v19.alloc (Obj.cells #[Value.bool u.low.neg, Value.string u.low.num, Value.string u.low.den, Value.bool u.high.neg, Value.string u.high.num, Value.string u.high.den] 26) := ⟨_, rfl⟩
  have hb : Below v19.heap.size v19 W8_0 := by rw [hW8_0]; exact (Below.refl _ _).alloc (Nat.le_refl _) _
  have hzW8_0 : v19.heap.size = B8 := by rw [hB8]
  have hlW8_0 : IvAt (B8) u W8_0 := by rw [← hzW8_0, hW8_0]; exact ⟨heap_lastM _ _⟩
  have D20 := Lib.hid (D19.out.trans (hb.mono D19.out.size))
  have a_20 := Lib.hid (a_19.out.bel hb)
  have b_20 := Lib.hid (b_19.out.bel hb)
  have r_20 := Lib.hid (r_19.out.bel hb)
  have p1_20 := Lib.hid (p1_19.out.bel hb)
  have q1_20 := Lib.hid (q1_19.out.bel hb)
  have p2_20 := Lib.hid (p2_19.out.bel hb)
  have q2_20 := Lib.hid (q2_19.out.bel hb)
  have p3_20 := Lib.hid (p3_19.out.bel hb)
  have q3_20 := Lib.hid (q3_19.out.bel hb)
  clear D19 a_19 b_19 r_19 p1_19 q1_19 p2_19 q2_19 p3_19 q3_19
  clear hb
  have p4_20 := Lib.hid hlW8_0
  clear hlW8_0
  rw [← hW8_0]
  simp only [← hB8]
  clear hW8_0 hzW8_0
  have HB8 := Lib.hid hB8
  clear hB8
  refine (refimeet_any a b _).mono ?_
  rintro e v21 ⟨rfl, hb⟩
  have D21 := Lib.hid (D20.out.trans (hb.mono D20.out.size))
  have a_21 := Lib.hid (a_20.out.bel hb)
  have b_21 := Lib.hid (b_20.out.bel hb)
  have r_21 := Lib.hid (r_20.out.bel hb)
  have p1_21 := Lib.hid (p1_20.out.bel hb)
  have q1_21 := Lib.hid (q1_20.out.bel hb)
  have p2_21 := Lib.hid (p2_20.out.bel hb)
  have q2_21 := Lib.hid (q2_20.out.bel hb)
  have p3_21 := Lib.hid (p3_20.out.bel hb)
  have q3_21 := Lib.hid (q3_20.out.bel hb)
  have p4_21 := Lib.hid (p4_20.out.bel hb)
  clear D20 a_20 b_20 r_20 p1_20 q1_20 p2_20 q2_20 p3_20 q3_20 p4_20
  clear hb
  simp only [Hu.out]
  have ac0 := a_21.out.c0
  have ac1 := a_21.out.c1
  have ac2 := a_21.out.c2
  have ac3 := a_21.out.c3
  have ac4 := a_21.out.c4
  have ac5 := a_21.out.c5
  have az := blk_lt a_21.out.cells
  have bc0 := b_21.out.c0
  have bc1 := b_21.out.c1
  have bc2 := b_21.out.c2
  have bc3 := b_21.out.c3
  have bc4 := b_21.out.c4
  have bc5 := b_21.out.c5
  have bz := blk_lt b_21.out.cells
  have rc0 := r_21.out.c0
  have rc1 := r_21.out.c1
  have rc2 := r_21.out.c2
  have rz := blk_lt r_21.out.cells
  go_upto_region 12 with fail
  clear ac0 ac1 ac2 ac3 ac4 ac5 az bc0 bc1 bc2 bc3 bc4 bc5 bz rc0 rc1 rc2 rz
  obtain ⟨B9, hB9⟩ : ∃ B, B = v21.heap.size := ⟨_, rfl⟩
  obtain ⟨W9_0, hW9_0⟩ : ∃ W, W = v21.alloc (Obj.cells #[Value.bool u.low.neg, Value.string u.low.num, Value.string u.low.den, Value.bool u.high.neg, Value.string u.high.num, Value.string u.high.den] 26) := ⟨_, rfl⟩
  have hb : Below v21.heap.size v21 W9_0 := by rw [hW9_0]; exact (Below.refl _ _).alloc (Nat.le_refl _) _
  have hzW9_0 : v21.heap.size = B9 := by rw [hB9]
  have hlW9_0 : IvAt (B9) u W9_0 := by rw [← hzW9_0, hW9_0]; exact ⟨heap_lastM _ _⟩
  have D22 := Lib.hid (D21.out.trans (hb.mono D21.out.size))
  have a_22 := Lib.hid (a_21.out.bel hb)
  have b_22 := Lib.hid (b_21.out.bel hb)
  have r_22 := Lib.hid (r_21.out.bel hb)
  have p1_22 := Lib.hid (p1_21.out.bel hb)
  have q1_22 := Lib.hid (q1_21.out.bel hb)
  have p2_22 := Lib.hid (p2_21.out.bel hb)
  have q2_22 := Lib.hid (q2_21.out.bel hb)
  have p3_22 := Lib.hid (p3_21.out.bel hb)
  have q3_22 := Lib.hid (q3_21.out.bel hb)
  have p4_22 := Lib.hid (p4_21.out.bel hb)
  clear D21 a_21 b_21 r_21 p1_21 q1_21 p2_21 q2_21 p3_21 q3_21 p4_21
  clear hb
  have q4_22 := Lib.hid hlW9_0
  clear hlW9_0
  rw [← hW9_0]
  simp only [← hB9]
  clear hW9_0 hzW9_0
  have HB9 := Lib.hid hB9
  clear hB9
  have K1 : Hid (∀ w, Calls Tryz.prog 14 #[.agg #[.bool a.low.neg, .string a.low.num, .string a.low.den, .bool a.high.neg, .string a.high.num, .string a.high.den]] w (GivesB (okI a) w)) := Lib.hid (fun w => pivalid_any a w)
  have K2 : Hid (∀ w, Calls Tryz.prog 15 #[.agg #[.bool a.low.neg, .string a.low.num, .string a.low.den, .bool a.high.neg, .string a.high.num, .string a.high.den]] w (GivesB (okI a) w)) := Lib.hid (fun w => refivalid_any a w)
  have K3 : Hid (∀ w, Calls Tryz.prog 16 #[.agg #[.bool a.low.neg, .string a.low.num, .string a.low.den, .bool a.high.neg, .string a.high.num, .string a.high.den], .agg #[.bool r.neg, .string r.num, .string r.den]] w (GivesB (hasI a r) w)) := Lib.hid (fun w => picon_any a r w)
  have K4 : Hid (∀ w, Calls Tryz.prog 17 #[.agg #[.bool a.low.neg, .string a.low.num, .string a.low.den, .bool a.high.neg, .string a.high.num, .string a.high.den], .agg #[.bool r.neg, .string r.num, .string r.den]] w (GivesB (hasI a r) w)) := Lib.hid (fun w => reficon_any a r w)
  generalize okI a = z1 at K1 K2
  generalize hasI a r = z2 at K3 K4
  have n1 := run_eql_iv p
  have tz1 : (z1 == z1) = true := by simp
  have tz2 : (z2 == z2) = true := by simp
  go_cut [26] (fun s26 wx => s26 = .bool true ∧ Hid (Below W9_0.heap.size W9_0 wx))
  case first =>
    go_region_held3 (fun w' => Below W9_0.heap.size W9_0 w' ∧ w'.cell? ⟨B1, 0, none⟩ = some (.bool (a).low.neg) ∧ w'.cell? ⟨B1, 1, none⟩ = some (.string (a).low.num) ∧ w'.cell? ⟨B1, 2, none⟩ = some (.string (a).low.den) ∧ w'.cell? ⟨B1, 3, none⟩ = some (.bool (a).high.neg) ∧ w'.cell? ⟨B1, 4, none⟩ = some (.string (a).high.num) ∧ w'.cell? ⟨B1, 5, none⟩ = some (.string (a).high.den) ∧ w'.cell? ⟨B1 + 1 + 1, 0, none⟩ = some (.bool (r).neg) ∧ w'.cell? ⟨B1 + 1 + 1, 1, none⟩ = some (.string (r).num) ∧ w'.cell? ⟨B1 + 1 + 1, 2, none⟩ = some (.string (r).den) ∧ w'.cell? ⟨B2, 0, none⟩ = some (.bool (p).low.neg) ∧ w'.cell? ⟨B2, 1, none⟩ = some (.string (p).low.num) ∧ w'.cell? ⟨B2, 2, none⟩ = some (.string (p).low.den) ∧ w'.cell? ⟨B2, 3, none⟩ = some (.bool (p).high.neg) ∧ w'.cell? ⟨B2, 4, none⟩ = some (.string (p).high.num) ∧ w'.cell? ⟨B2, 5, none⟩ = some (.string (p).high.den) ∧ w'.cell? ⟨B3, 0, none⟩ = some (.bool (p).low.neg) ∧ w'.cell? ⟨B3, 1, none⟩ = some (.string (p).low.num) ∧ w'.cell? ⟨B3, 2, none⟩ = some (.string (p).low.den) ∧ w'.cell? ⟨B3, 3, none⟩ = some (.bool (p).high.neg) ∧ w'.cell? ⟨B3, 4, none⟩ = some (.string (p).high.num) ∧ w'.cell? ⟨B3, 5, none⟩ = some (.string (p).high.den)) (first | (with_reducible assumption) | exact startM4 a_22.out r_22.out p1_22.out q1_22.out | exact nextM4 (by assumption) (by assumption) | exact nextM4 ((Below.refl _ _).alloc (Nat.le_refl _) _) (by assumption)) (first | (go_at_call 14; ((with_reducible refine (K1.out _).mono ?_); rintro e u0 ⟨rfl, hbu⟩)) | (go_at_call 15; ((with_reducible refine (K2.out _).mono ?_); rintro e u0 ⟨rfl, hbu⟩)) | (go_at_call 16; ((with_reducible refine (K3.out _).mono ?_); rintro e u0 ⟨rfl, hbu⟩)) | (go_at_call 17; ((with_reducible refine (K4.out _).mono ?_); rintro e u0 ⟨rfl, hbu⟩)) | fail "no arm")
    all_goals (go_wp2_with fail; go_meet; exact ⟨rfl, Lib.hid (And.left (by assumption))⟩)
  case rest =>
    obtain ⟨rfl, hcutB⟩ := hcut
    have D23 := Lib.hid (D22.out.trans (hcutB.out.mono D22.out.size))
    have a_23 := Lib.hid (a_22.out.bel hcutB.out)
    have b_23 := Lib.hid (b_22.out.bel hcutB.out)
    have r_23 := Lib.hid (r_22.out.bel hcutB.out)
    have p1_23 := Lib.hid (p1_22.out.bel hcutB.out)
    have q1_23 := Lib.hid (q1_22.out.bel hcutB.out)
    have p2_23 := Lib.hid (p2_22.out.bel hcutB.out)
    have q2_23 := Lib.hid (q2_22.out.bel hcutB.out)
    have p3_23 := Lib.hid (p3_22.out.bel hcutB.out)
    have q3_23 := Lib.hid (q3_22.out.bel hcutB.out)
    have p4_23 := Lib.hid (p4_22.out.bel hcutB.out)
    have q4_23 := Lib.hid (q4_22.out.bel hcutB.out)
    clear D22 a_22 b_22 r_22 p1_22 q1_22 p2_22 q2_22 p3_22 q3_22 p4_22 q4_22
    clear hcutB
    obtain ⟨wc12, hnm⟩ : ∃ x, x = wc := ⟨_, rfl⟩
    subst hnm
    clear n1 tz1 tz2 K1 K2 K3 K4
    have n2 := run_eql_iv x; have n3 := run_eql_iv y; have n4 := run_eql_iv u
    have p2c0 := p2_23.out.c0
    have p2c1 := p2_23.out.c1
    have p2c2 := p2_23.out.c2
    have p2c3 := p2_23.out.c3
    have p2c4 := p2_23.out.c4
    have p2c5 := p2_23.out.c5
    have q2c0 := q2_23.out.c0
    have q2c1 := q2_23.out.c1
    have q2c2 := q2_23.out.c2
    have q2c3 := q2_23.out.c3
    have q2c4 := q2_23.out.c4
    have q2c5 := q2_23.out.c5
    have p3c0 := p3_23.out.c0
    have p3c1 := p3_23.out.c1
    have p3c2 := p3_23.out.c2
    have p3c3 := p3_23.out.c3
    have p3c4 := p3_23.out.c4
    have p3c5 := p3_23.out.c5
    have q3c0 := q3_23.out.c0
    have q3c1 := q3_23.out.c1
    have q3c2 := q3_23.out.c2
    have q3c3 := q3_23.out.c3
    have q3c4 := q3_23.out.c4
    have q3c5 := q3_23.out.c5
    have p4c0 := p4_23.out.c0
    have p4c1 := p4_23.out.c1
    have p4c2 := p4_23.out.c2
    have p4c3 := p4_23.out.c3
    have p4c4 := p4_23.out.c4
    have p4c5 := p4_23.out.c5
    have q4c0 := q4_23.out.c0
    have q4c1 := q4_23.out.c1
    have q4c2 := q4_23.out.c2
    have q4c3 := q4_23.out.c3
    have q4c4 := q4_23.out.c4
    have q4c5 := q4_23.out.c5
    go_wp2_with fail
    go_ret
    exact ⟨by first | rfl | (simp; done), D23.out⟩
end Go.Proofs.YtbcoblpnihdhgaaGreatDoor
