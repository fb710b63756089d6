/-
  The walks of IntervalContains and IntervalMeets.
-/
import Derived.Test.YtbcoblpnihdhgaaDoorIvHead
set_option linter.unusedVariables false
set_option maxRecDepth 100000
namespace Go.Proofs.YtbcoblpnihdhgaaDoor
open Go.RowKit
open Rt
theorem nums_1 (a : Raw) (w : World) (ha : BigR a) : NumsOk (w.alloc (Obj.cells #[Value.bool a.neg, Value.string a.num, Value.string a.den] 24)) (.slice (some ⟨w.heap.size, 0, none⟩) 1 1) [a] := by
  refine ⟨.inr ⟨by simp, w.heap.size, 1, rfl, ?_⟩, (show 1 ≤ 1000 by decide), ?_⟩
  · intro j hj
    match j, hj with
    | 0, _ => simp
  · intro i hi; simp only [List.mem_cons, List.not_mem_nil, or_false] at hi; rcases hi with rfl <;> assumption
theorem nums_2 (a b : Raw) (w : World) (ha : BigR a) (hb : BigR b) : NumsOk (w.alloc (Obj.cells #[Value.bool a.neg, Value.string a.num, Value.string a.den, Value.bool b.neg, Value.string b.num, Value.string b.den] 24)) (.slice (some ⟨w.heap.size, 0, none⟩) 2 2) [a, b] := by
  refine ⟨.inr ⟨by simp, w.heap.size, 2, rfl, ?_⟩, (show 2 ≤ 1000 by decide), ?_⟩
  · intro j hj
    match j, hj with
    | 0, _ => simp
    | 1, _ => simp
  · intro i hi; simp only [List.mem_cons, List.not_mem_nil, or_false] at hi; rcases hi with rfl | rfl <;> assumption
set_option maxHeartbeats 8000000 in
theorem walkIntervalContains (a : Iv) (b : Iv) (r : Raw) (s : Raw) (w : World) (ht : TabOk w) (sa : BigI a) (sb : BigI b) (sr : BigR r) (ss : BigR s) : Calls Tryd.prog 3 #[.agg #[.bool a.low.neg, .string a.low.num, .string a.low.den, .bool a.high.neg, .string a.high.num, .string a.high.den], .agg #[.bool b.low.neg, .string b.low.num, .string b.low.den, .bool b.high.neg, .string b.high.num, .string b.high.den], .agg #[.bool r.neg, .string r.num, .string r.den], .agg #[.bool s.neg, .string s.num, .string s.den]] w fun e w' => e = .returned (.bool true) ∧ Below w.heap.size w w' := by
  have HT := Lib.hid ht; clear ht
  have HSa := Lib.hid sa; clear sa
  have HSb := Lib.hid sb; clear sb
  have HSr := Lib.hid sr; clear sr
  have HSs := Lib.hid ss; clear ss
  have D0 := Lib.hid (Below.refl w.heap.size w)
  go_enter Tryd.func3, Tryd.ntmps3
  go_wp2_with fail
  obtain ⟨B1, hB1⟩ : ∃ B, B = w.heap.size := ⟨_, rfl⟩
  obtain ⟨W1_0, hW1_0⟩ : ∃ W, W = w.alloc (Obj.cells #[Value.bool a.low.neg, Value.string a.low.num, Value.string a.low.den, Value.bool a.high.neg, Value.string a.high.num, Value.string a.high.den] 26) := ⟨_, rfl⟩
  have hb : Below w.heap.size w W1_0 := by rw [hW1_0]; exact (Below.refl _ _).alloc (Nat.le_refl _) _
  have hzW1_0 : w.heap.size = B1 := by rw [hB1]
  have hlW1_0 : IvAt (B1) a W1_0 := by rw [← hzW1_0, hW1_0]; exact ⟨heap_lastM _ _⟩
  have D1 := Lib.hid (D0.out.trans (hb.mono D0.out.size))
  clear hb
  have a_1 := Lib.hid hlW1_0
  clear hlW1_0
  obtain ⟨W1_1, hW1_1⟩ : ∃ W, W = W1_0.alloc (Obj.cells #[Value.bool b.low.neg, Value.string b.low.num, Value.string b.low.den, Value.bool b.high.neg, Value.string b.high.num, Value.string b.high.den] 26) := ⟨_, rfl⟩
  have hb : Below W1_0.heap.size W1_0 W1_1 := by rw [hW1_1]; exact (Below.refl _ _).alloc (Nat.le_refl _) _
  have hzW1_1 : W1_0.heap.size = B1 + 1 := by rw [hW1_0]; simp [hzW1_0]
  have hlW1_1 : IvAt (B1 + 1) b W1_1 := by rw [← hzW1_1, hW1_1]; exact ⟨heap_lastM _ _⟩
  have D2 := Lib.hid (D1.out.trans (hb.mono D1.out.size))
  have a_2 := Lib.hid (a_1.out.bel hb)
  clear D1 a_1
  clear hb
  have b_2 := Lib.hid hlW1_1
  clear hlW1_1
  obtain ⟨W1_2, hW1_2⟩ : ∃ W, W = W1_1.alloc (Obj.cells #[Value.bool r.neg, Value.string r.num, Value.string r.den] 24) := ⟨_, rfl⟩
  have hb : Below W1_1.heap.size W1_1 W1_2 := by rw [hW1_2]; exact (Below.refl _ _).alloc (Nat.le_refl _) _
  have hzW1_2 : W1_1.heap.size = B1 + 1 + 1 := by rw [hW1_1]; simp [hzW1_1]
  have hlW1_2 : RatAt (B1 + 1 + 1) r W1_2 := by rw [← hzW1_2, hW1_2]; exact ⟨heap_lastM _ _⟩
  have D3 := Lib.hid (D2.out.trans (hb.mono D2.out.size))
  have a_3 := Lib.hid (a_2.out.bel hb)
  have b_3 := Lib.hid (b_2.out.bel hb)
  clear D2 a_2 b_2
  clear hb
  have r_3 := Lib.hid hlW1_2
  clear hlW1_2
  obtain ⟨W1_3, hW1_3⟩ : ∃ W, W = W1_2.alloc (Obj.cells #[Value.bool s.neg, Value.string s.num, Value.string s.den] 24) := ⟨_, rfl⟩
  have hb : Below W1_2.heap.size W1_2 W1_3 := by rw [hW1_3]; exact (Below.refl _ _).alloc (Nat.le_refl _) _
  have hzW1_3 : W1_2.heap.size = B1 + 1 + 1 + 1 := by rw [hW1_2]; simp [hzW1_2]
  have hlW1_3 : RatAt (B1 + 1 + 1 + 1) s W1_3 := by rw [← hzW1_3, hW1_3]; exact ⟨heap_lastM _ _⟩
  have D4 := Lib.hid (D3.out.trans (hb.mono D3.out.size))
  have a_4 := Lib.hid (a_3.out.bel hb)
  have b_4 := Lib.hid (b_3.out.bel hb)
  have r_4 := Lib.hid (r_3.out.bel hb)
  clear D3 a_3 b_3 r_3
  clear hb
  have s_4 := Lib.hid hlW1_3
  clear hlW1_3
  rw [← hW1_0]
  rw [← hW1_1]
  rw [← hW1_2]
  rw [← hW1_3]
  simp only [← hB1]
  have HW1_0 := Lib.hid hW1_0
  clear hW1_0 hzW1_0
  have HW1_1 := Lib.hid hW1_1
  clear hW1_1 hzW1_1
  have HW1_2 := Lib.hid hW1_2
  clear hW1_2 hzW1_2
  have HW1_3 := Lib.hid hW1_3
  clear hW1_3 hzW1_3
  have HB1 := Lib.hid hB1
  clear hB1
  refine (head5_any _ (HT.out.below D4.out)).mono ?_
  rintro e v5 ⟨rfl, hb⟩
  have D5 := Lib.hid (D4.out.trans (hb.mono D4.out.size))
  have a_5 := Lib.hid (a_4.out.bel hb)
  have b_5 := Lib.hid (b_4.out.bel hb)
  have r_5 := Lib.hid (r_4.out.bel hb)
  have s_5 := Lib.hid (s_4.out.bel hb)
  clear D4 a_4 b_4 r_4 s_4
  clear hb
  have ac0 := a_5.out.c0
  have ac1 := a_5.out.c1
  have ac2 := a_5.out.c2
  have ac3 := a_5.out.c3
  have ac4 := a_5.out.c4
  have ac5 := a_5.out.c5
  have az := blk_lt a_5.out.cells
  have bc0 := b_5.out.c0
  have bc1 := b_5.out.c1
  have bc2 := b_5.out.c2
  have bc3 := b_5.out.c3
  have bc4 := b_5.out.c4
  have bc5 := b_5.out.c5
  have bz := blk_lt b_5.out.cells
  have rc0 := r_5.out.c0
  have rc1 := r_5.out.c1
  have rc2 := r_5.out.c2
  have rz := blk_lt r_5.out.cells
  have sc0 := s_5.out.c0
  have sc1 := s_5.out.c1
  have sc2 := s_5.out.c2
  have sz := blk_lt s_5.out.cells
  go_wp2_with fail
  clear ac0 ac1 ac2 ac3 ac4 ac5 az bc0 bc1 bc2 bc3 bc4 bc5 bz rc0 rc1 rc2 rz sc0 sc1 sc2 sz
  have h1 : IvsOk (v5.alloc (Obj.cells #[Value.bool a.low.neg, Value.string a.low.num, Value.string a.low.den, Value.bool a.high.neg, Value.string a.high.num, Value.string a.high.den, Value.bool b.low.neg, Value.string b.low.num, Value.string b.low.den, Value.bool b.high.neg, Value.string b.high.num, Value.string b.high.den] 26)) (.slice (some ⟨v5.heap.size, 0, none⟩) 2 2) [a, b] := ivs_2 a b v5 HSa.out HSb.out
  have hx1 : Below v5.heap.size v5 (v5.alloc (Obj.cells #[Value.bool a.low.neg, Value.string a.low.num, Value.string a.low.den, Value.bool a.high.neg, Value.string a.high.num, Value.string a.high.den, Value.bool b.low.neg, Value.string b.low.num, Value.string b.low.den, Value.bool b.high.neg, Value.string b.high.num, Value.string b.high.den] 26)) := (Below.refl _ _).alloc (Nat.le_refl _) _
  have hx2 : Below (v5.alloc (Obj.cells #[Value.bool a.low.neg, Value.string a.low.num, Value.string a.low.den, Value.bool a.high.neg, Value.string a.high.num, Value.string a.high.den, Value.bool b.low.neg, Value.string b.low.num, Value.string b.low.den, Value.bool b.high.neg, Value.string b.high.num, Value.string b.high.den] 26)).heap.size (v5.alloc (Obj.cells #[Value.bool a.low.neg, Value.string a.low.num, Value.string a.low.den, Value.bool a.high.neg, Value.string a.high.num, Value.string a.high.den, Value.bool b.low.neg, Value.string b.low.num, Value.string b.low.den, Value.bool b.high.neg, Value.string b.high.num, Value.string b.high.den] 26)) ((v5.alloc (Obj.cells #[Value.bool a.low.neg, Value.string a.low.num, Value.string a.low.den, Value.bool a.high.neg, Value.string a.high.num, Value.string a.high.den, Value.bool b.low.neg, Value.string b.low.num, Value.string b.low.den, Value.bool b.high.neg, Value.string b.high.num, Value.string b.high.den] 26)).alloc (Obj.cells #[Value.bool r.neg, Value.string r.num, Value.string r.den, Value.bool s.neg, Value.string s.num, Value.string s.den] 24)) := (Below.refl _ _).alloc (Nat.le_refl _) _
  have h2 : NumsOk ((v5.alloc (Obj.cells #[Value.bool a.low.neg, Value.string a.low.num, Value.string a.low.den, Value.bool a.high.neg, Value.string a.high.num, Value.string a.high.den, Value.bool b.low.neg, Value.string b.low.num, Value.string b.low.den, Value.bool b.high.neg, Value.string b.high.num, Value.string b.high.den] 26)).alloc (Obj.cells #[Value.bool r.neg, Value.string r.num, Value.string r.den, Value.bool s.neg, Value.string s.num, Value.string s.den] 24)) (.slice (some ⟨v5.heap.size + 1, 0, none⟩) 2 2) [r, s] := by have := nums_2 r s (v5.alloc (Obj.cells #[Value.bool a.low.neg, Value.string a.low.num, Value.string a.low.den, Value.bool a.high.neg, Value.string a.high.num, Value.string a.high.den, Value.bool b.low.neg, Value.string b.low.num, Value.string b.low.den, Value.bool b.high.neg, Value.string b.high.num, Value.string b.high.den] 26)) HSr.out HSs.out; rwa [show (v5.alloc (Obj.cells #[Value.bool a.low.neg, Value.string a.low.num, Value.string a.low.den, Value.bool a.high.neg, Value.string a.high.num, Value.string a.high.den, Value.bool b.low.neg, Value.string b.low.num, Value.string b.low.den, Value.bool b.high.neg, Value.string b.high.num, Value.string b.high.den] 26)).heap.size = v5.heap.size + 1 by simp] at this
  have hx := hx1.trans (hx2.mono hx1.size)
  refine (few5_any _ _ _ _ _ (h1.bel hx2) h2).mono ?_
  rintro e vf ⟨rfl, hbf⟩
  have hb := hx.trans (hbf.mono hx.size); clear h1 hx1 hx hbf hx2 h2
  have D6 := Lib.hid (D5.out.trans (hb.mono D5.out.size))
  have a_6 := Lib.hid (a_5.out.bel hb)
  have b_6 := Lib.hid (b_5.out.bel hb)
  have r_6 := Lib.hid (r_5.out.bel hb)
  have s_6 := Lib.hid (s_5.out.bel hb)
  clear D5 a_5 b_5 r_5 s_5
  clear hb
  rcases Bool.eq_false_or_eq_true (fewI [a, b] && fewS [r, s]) with hp | hp
  rotate_left
  ·
    simp only [hp]
    go_wp2_with fail
    go_ret
    exact ⟨rfl, D6.out⟩
  simp only [hp]
  have HF := Lib.hid hp; clear hp
  have hf := HF.out; rw [Bool.and_eq_true, fewI_iff, fewS_iff] at hf
  have Za : Hid (SzI a) := Lib.hid (hf.1.2 a (by simp))
  have Zb : Hid (SzI b) := Lib.hid (hf.1.2 b (by simp))
  have Zr : Hid (Sz r) := Lib.hid (hf.2 r (by simp))
  have Zs : Hid (Sz s) := Lib.hid (hf.2 s (by simp))
  clear hf
  have ac0 := a_6.out.c0
  have ac1 := a_6.out.c1
  have ac2 := a_6.out.c2
  have ac3 := a_6.out.c3
  have ac4 := a_6.out.c4
  have ac5 := a_6.out.c5
  have bc0 := b_6.out.c0
  have bc1 := b_6.out.c1
  have bc2 := b_6.out.c2
  have bc3 := b_6.out.c3
  have bc4 := b_6.out.c4
  have bc5 := b_6.out.c5
  have rc0 := r_6.out.c0
  have rc1 := r_6.out.c1
  have rc2 := r_6.out.c2
  have sc0 := s_6.out.c0
  have sc1 := s_6.out.c1
  have sc2 := s_6.out.c2
  go_wp2_with fail
  clear ac0 ac1 ac2 ac3 ac4 ac5 bc0 bc1 bc2 bc3 bc4 bc5 rc0 rc1 rc2 sc0 sc1 sc2
  refine (picon_any a r _).mono ?_
  rintro e v7 ⟨rfl, hb⟩
  have D7 := Lib.hid (D6.out.trans (hb.mono D6.out.size))
  have a_7 := Lib.hid (a_6.out.bel hb)
  have b_7 := Lib.hid (b_6.out.bel hb)
  have r_7 := Lib.hid (r_6.out.bel hb)
  have s_7 := Lib.hid (s_6.out.bel hb)
  clear D6 a_6 b_6 r_6 s_6
  clear hb
  rcases Bool.eq_false_or_eq_true (hasI a r) with hp | hp
  rotate_left
  ·
    simp only [hp]
    go_wp2_with fail
    go_ret
    exact ⟨rfl, D7.out⟩
  simp only [hp]
  have HA := Lib.hid hp; clear hp
  have ac0 := a_7.out.c0
  have ac1 := a_7.out.c1
  have ac2 := a_7.out.c2
  have ac3 := a_7.out.c3
  have ac4 := a_7.out.c4
  have ac5 := a_7.out.c5
  have bc0 := b_7.out.c0
  have bc1 := b_7.out.c1
  have bc2 := b_7.out.c2
  have bc3 := b_7.out.c3
  have bc4 := b_7.out.c4
  have bc5 := b_7.out.c5
  have rc0 := r_7.out.c0
  have rc1 := r_7.out.c1
  have rc2 := r_7.out.c2
  have sc0 := s_7.out.c0
  have sc1 := s_7.out.c1
  have sc2 := s_7.out.c2
  go_wp2_with fail
  clear ac0 ac1 ac2 ac3 ac4 ac5 bc0 bc1 bc2 bc3 bc4 bc5 rc0 rc1 rc2 sc0 sc1 sc2
  refine (picon_any b s _).mono ?_
  rintro e v8 ⟨rfl, hb⟩
  have D8 := Lib.hid (D7.out.trans (hb.mono D7.out.size))
  have a_8 := Lib.hid (a_7.out.bel hb)
  have b_8 := Lib.hid (b_7.out.bel hb)
  have r_8 := Lib.hid (r_7.out.bel hb)
  have s_8 := Lib.hid (s_7.out.bel hb)
  clear D7 a_7 b_7 r_7 s_7
  clear hb
  rcases Bool.eq_false_or_eq_true (hasI b s) with hp | hp
  rotate_left
  ·
    simp only [hp]
    go_wp2_with fail
    go_ret
    exact ⟨rfl, D8.out⟩
  simp only [hp]
  have HB := Lib.hid hp; clear hp
  obtain ⟨c, d, x, y, e1, e2, e3, e4, q1, q2⟩ := contains_pure HA.out HB.out Za.out Zb.out Zr.out Zs.out
  have E1 := Lib.hid e1; clear e1
  have E2 := Lib.hid e2; clear e2
  have E3 := Lib.hid e3; clear e3
  have E4 := Lib.hid e4; clear e4
  have Q1 := Lib.hid q1; have Q2 := Lib.hid q2; clear q1 q2
  have ac0 := a_8.out.c0
  have ac1 := a_8.out.c1
  have ac2 := a_8.out.c2
  have ac3 := a_8.out.c3
  have ac4 := a_8.out.c4
  have ac5 := a_8.out.c5
  have bc0 := b_8.out.c0
  have bc1 := b_8.out.c1
  have bc2 := b_8.out.c2
  have bc3 := b_8.out.c3
  have bc4 := b_8.out.c4
  have bc5 := b_8.out.c5
  have rc0 := r_8.out.c0
  have rc1 := r_8.out.c1
  have rc2 := r_8.out.c2
  have sc0 := s_8.out.c0
  have sc1 := s_8.out.c1
  have sc2 := s_8.out.c2
  go_wp2_with fail
  clear ac0 ac1 ac2 ac3 ac4 ac5 bc0 bc1 bc2 bc3 bc4 bc5 rc0 rc1 rc2 sc0 sc1 sc2
  refine (piadd_any a b _).mono ?_
  rintro e v9 ⟨rfl, hb⟩
  have D9 := Lib.hid (D8.out.trans (hb.mono D8.out.size))
  have a_9 := Lib.hid (a_8.out.bel hb)
  have b_9 := Lib.hid (b_8.out.bel hb)
  have r_9 := Lib.hid (r_8.out.bel hb)
  have s_9 := Lib.hid (s_8.out.bel hb)
  clear D8 a_8 b_8 r_8 s_8
  clear hb
  simp only [E1.out]
  have ac0 := a_9.out.c0
  have ac1 := a_9.out.c1
  have ac2 := a_9.out.c2
  have ac3 := a_9.out.c3
  have ac4 := a_9.out.c4
  have ac5 := a_9.out.c5
  have az := blk_lt a_9.out.cells
  have bc0 := b_9.out.c0
  have bc1 := b_9.out.c1
  have bc2 := b_9.out.c2
  have bc3 := b_9.out.c3
  have bc4 := b_9.out.c4
  have bc5 := b_9.out.c5
  have bz := blk_lt b_9.out.cells
  have rc0 := r_9.out.c0
  have rc1 := r_9.out.c1
  have rc2 := r_9.out.c2
  have rz := blk_lt r_9.out.cells
  have sc0 := s_9.out.c0
  have sc1 := s_9.out.c1
  have sc2 := s_9.out.c2
  have sz := blk_lt s_9.out.cells
  go_wp2_with fail
  clear ac0 ac1 ac2 ac3 ac4 ac5 az bc0 bc1 bc2 bc3 bc4 bc5 bz rc0 rc1 rc2 rz sc0 sc1 sc2 sz
  obtain ⟨B2, hB2⟩ : ∃ B, B = v9.heap.size := ⟨_, rfl⟩
  obtain ⟨W2_0, hW2_0⟩ : ∃ W, W = v9.alloc (Obj.cells #[Value.bool c.low.neg, Value.string c.low.num, Value.string c.low.den, Value.bool c.high.neg, Value.string c.high.num, Value.string c.high.den] 26) := ⟨_, rfl⟩
  have hb : Below v9.heap.size v9 W2_0 := by rw [hW2_0]; exact (Below.refl _ _).alloc (Nat.le_refl _) _
  have hzW2_0 : v9.heap.size = B2 := by rw [hB2]
  have hlW2_0 : IvAt (B2) c W2_0 := by rw [← hzW2_0, hW2_0]; exact ⟨heap_lastM _ _⟩
  have D10 := Lib.hid (D9.out.trans (hb.mono D9.out.size))
  have a_10 := Lib.hid (a_9.out.bel hb)
  have b_10 := Lib.hid (b_9.out.bel hb)
  have r_10 := Lib.hid (r_9.out.bel hb)
  have s_10 := Lib.hid (s_9.out.bel hb)
  clear D9 a_9 b_9 r_9 s_9
  clear hb
  have c_10 := Lib.hid hlW2_0
  clear hlW2_0
  rw [← hW2_0]
  simp only [← hB2]
  have HW2_0 := Lib.hid hW2_0
  clear hW2_0 hzW2_0
  have HB2 := Lib.hid hB2
  clear hB2
  refine (pimul_any a b _).mono ?_
  rintro e v11 ⟨rfl, hb⟩
  have D11 := Lib.hid (D10.out.trans (hb.mono D10.out.size))
  have a_11 := Lib.hid (a_10.out.bel hb)
  have b_11 := Lib.hid (b_10.out.bel hb)
  have r_11 := Lib.hid (r_10.out.bel hb)
  have s_11 := Lib.hid (s_10.out.bel hb)
  have c_11 := Lib.hid (c_10.out.bel hb)
  clear D10 a_10 b_10 r_10 s_10 c_10
  clear hb
  simp only [E2.out]
  have ac0 := a_11.out.c0
  have ac1 := a_11.out.c1
  have ac2 := a_11.out.c2
  have ac3 := a_11.out.c3
  have ac4 := a_11.out.c4
  have ac5 := a_11.out.c5
  have az := blk_lt a_11.out.cells
  have bc0 := b_11.out.c0
  have bc1 := b_11.out.c1
  have bc2 := b_11.out.c2
  have bc3 := b_11.out.c3
  have bc4 := b_11.out.c4
  have bc5 := b_11.out.c5
  have bz := blk_lt b_11.out.cells
  have rc0 := r_11.out.c0
  have rc1 := r_11.out.c1
  have rc2 := r_11.out.c2
  have rz := blk_lt r_11.out.cells
  have sc0 := s_11.out.c0
  have sc1 := s_11.out.c1
  have sc2 := s_11.out.c2
  have sz := blk_lt s_11.out.cells
  go_wp2_with fail
  clear ac0 ac1 ac2 ac3 ac4 ac5 az bc0 bc1 bc2 bc3 bc4 bc5 bz rc0 rc1 rc2 rz sc0 sc1 sc2 sz
  obtain ⟨B3, hB3⟩ : ∃ B, B = v11.heap.size := ⟨_, rfl⟩
  obtain ⟨W3_0, hW3_0⟩ : ∃ W, W = v11.alloc (Obj.cells #[Value.bool d.low.neg, Value.string d.low.num, Value.string d.low.den, Value.bool d.high.neg, Value.string d.high.num, Value.string d.high.den] 26) := ⟨_, rfl⟩
  have hb : Below v11.heap.size v11 W3_0 := by rw [hW3_0]; exact (Below.refl _ _).alloc (Nat.le_refl _) _
  have hzW3_0 : v11.heap.size = B3 := by rw [hB3]
  have hlW3_0 : IvAt (B3) d W3_0 := by rw [← hzW3_0, hW3_0]; exact ⟨heap_lastM _ _⟩
  have D12 := Lib.hid (D11.out.trans (hb.mono D11.out.size))
  have a_12 := Lib.hid (a_11.out.bel hb)
  have b_12 := Lib.hid (b_11.out.bel hb)
  have r_12 := Lib.hid (r_11.out.bel hb)
  have s_12 := Lib.hid (s_11.out.bel hb)
  have c_12 := Lib.hid (c_11.out.bel hb)
  clear D11 a_11 b_11 r_11 s_11 c_11
  clear hb
  have d_12 := Lib.hid hlW3_0
  clear hlW3_0
  rw [← hW3_0]
  simp only [← hB3]
  have HW3_0 := Lib.hid hW3_0
  clear hW3_0 hzW3_0
  have HB3 := Lib.hid hB3
  clear hB3
  refine (pratadd_any r s _).mono ?_
  rintro e v13 ⟨rfl, hb⟩
  have D13 := Lib.hid (D12.out.trans (hb.mono D12.out.size))
  have a_13 := Lib.hid (a_12.out.bel hb)
  have b_13 := Lib.hid (b_12.out.bel hb)
  have r_13 := Lib.hid (r_12.out.bel hb)
  have s_13 := Lib.hid (s_12.out.bel hb)
  have c_13 := Lib.hid (c_12.out.bel hb)
  have d_13 := Lib.hid (d_12.out.bel hb)
  clear D12 a_12 b_12 r_12 s_12 c_12 d_12
  clear hb
  simp only [E3.out]
  have ac0 := a_13.out.c0
  have ac1 := a_13.out.c1
  have ac2 := a_13.out.c2
  have ac3 := a_13.out.c3
  have ac4 := a_13.out.c4
  have ac5 := a_13.out.c5
  have az := blk_lt a_13.out.cells
  have bc0 := b_13.out.c0
  have bc1 := b_13.out.c1
  have bc2 := b_13.out.c2
  have bc3 := b_13.out.c3
  have bc4 := b_13.out.c4
  have bc5 := b_13.out.c5
  have bz := blk_lt b_13.out.cells
  have rc0 := r_13.out.c0
  have rc1 := r_13.out.c1
  have rc2 := r_13.out.c2
  have rz := blk_lt r_13.out.cells
  have sc0 := s_13.out.c0
  have sc1 := s_13.out.c1
  have sc2 := s_13.out.c2
  have sz := blk_lt s_13.out.cells
  go_wp2_with fail
  clear ac0 ac1 ac2 ac3 ac4 ac5 az bc0 bc1 bc2 bc3 bc4 bc5 bz rc0 rc1 rc2 rz sc0 sc1 sc2 sz
  obtain ⟨B4, hB4⟩ : ∃ B, B = v13.heap.size := ⟨_, rfl⟩
  obtain ⟨W4_0, hW4_0⟩ : ∃ W, W = v13.alloc (Obj.cells #[Value.bool x.neg, Value.string x.num, Value.string x.den] 24) := ⟨_, rfl⟩
  have hb : Below v13.heap.size v13 W4_0 := by rw [hW4_0]; exact (Below.refl _ _).alloc (Nat.le_refl _) _
  have hzW4_0 : v13.heap.size = B4 := by rw [hB4]
  have hlW4_0 : RatAt (B4) x W4_0 := by rw [← hzW4_0, hW4_0]; exact ⟨heap_lastM _ _⟩
  have D14 := Lib.hid (D13.out.trans (hb.mono D13.out.size))
  have a_14 := Lib.hid (a_13.out.bel hb)
  have b_14 := Lib.hid (b_13.out.bel hb)
  have r_14 := Lib.hid (r_13.out.bel hb)
  have s_14 := Lib.hid (s_13.out.bel hb)
  have c_14 := Lib.hid (c_13.out.bel hb)
  have d_14 := Lib.hid (d_13.out.bel hb)
  clear D13 a_13 b_13 r_13 s_13 c_13 d_13
  clear hb
  have x_14 := Lib.hid hlW4_0
  clear hlW4_0
  rw [← hW4_0]
  simp only [← hB4]
  have HW4_0 := Lib.hid hW4_0
  clear hW4_0 hzW4_0
  have HB4 := Lib.hid hB4
  clear hB4
  refine (pratmul_any r s _).mono ?_
  rintro e v15 ⟨rfl, hb⟩
  have D15 := Lib.hid (D14.out.trans (hb.mono D14.out.size))
  have a_15 := Lib.hid (a_14.out.bel hb)
  have b_15 := Lib.hid (b_14.out.bel hb)
  have r_15 := Lib.hid (r_14.out.bel hb)
  have s_15 := Lib.hid (s_14.out.bel hb)
  have c_15 := Lib.hid (c_14.out.bel hb)
  have d_15 := Lib.hid (d_14.out.bel hb)
  have x_15 := Lib.hid (x_14.out.bel hb)
  clear D14 a_14 b_14 r_14 s_14 c_14 d_14 x_14
  clear hb
  simp only [E4.out]
  have ac0 := a_15.out.c0
  have ac1 := a_15.out.c1
  have ac2 := a_15.out.c2
  have ac3 := a_15.out.c3
  have ac4 := a_15.out.c4
  have ac5 := a_15.out.c5
  have az := blk_lt a_15.out.cells
  have bc0 := b_15.out.c0
  have bc1 := b_15.out.c1
  have bc2 := b_15.out.c2
  have bc3 := b_15.out.c3
  have bc4 := b_15.out.c4
  have bc5 := b_15.out.c5
  have bz := blk_lt b_15.out.cells
  have rc0 := r_15.out.c0
  have rc1 := r_15.out.c1
  have rc2 := r_15.out.c2
  have rz := blk_lt r_15.out.cells
  have sc0 := s_15.out.c0
  have sc1 := s_15.out.c1
  have sc2 := s_15.out.c2
  have sz := blk_lt s_15.out.cells
  have cc0 := c_15.out.c0
  have cc1 := c_15.out.c1
  have cc2 := c_15.out.c2
  have cc3 := c_15.out.c3
  have cc4 := c_15.out.c4
  have cc5 := c_15.out.c5
  have cz := blk_lt c_15.out.cells
  have dc0 := d_15.out.c0
  have dc1 := d_15.out.c1
  have dc2 := d_15.out.c2
  have dc3 := d_15.out.c3
  have dc4 := d_15.out.c4
  have dc5 := d_15.out.c5
  have dz := blk_lt d_15.out.cells
  have xc0 := x_15.out.c0
  have xc1 := x_15.out.c1
  have xc2 := x_15.out.c2
  have xz := blk_lt x_15.out.cells
  go_wp2_with fail
  clear ac0 ac1 ac2 ac3 ac4 ac5 az bc0 bc1 bc2 bc3 bc4 bc5 bz rc0 rc1 rc2 rz sc0 sc1 sc2 sz cc0 cc1 cc2 cc3 cc4 cc5 cz dc0 dc1 dc2 dc3 dc4 dc5 dz xc0 xc1 xc2 xz
  obtain ⟨B5, hB5⟩ : ∃ B, B = v15.heap.size := ⟨_, rfl⟩
  obtain ⟨W5_0, hW5_0⟩ : ∃ W, W = v15.alloc (Obj.cells #[Value.bool y.neg, Value.string y.num, Value.string y.den] 24) := ⟨_, rfl⟩
  have hb : Below v15.heap.size v15 W5_0 := by rw [hW5_0]; exact (Below.refl _ _).alloc (Nat.le_refl _) _
  have hzW5_0 : v15.heap.size = B5 := by rw [hB5]
  have hlW5_0 : RatAt (B5) y W5_0 := by rw [← hzW5_0, hW5_0]; exact ⟨heap_lastM _ _⟩
  have D16 := Lib.hid (D15.out.trans (hb.mono D15.out.size))
  have a_16 := Lib.hid (a_15.out.bel hb)
  have b_16 := Lib.hid (b_15.out.bel hb)
  have r_16 := Lib.hid (r_15.out.bel hb)
  have s_16 := Lib.hid (s_15.out.bel hb)
  have c_16 := Lib.hid (c_15.out.bel hb)
  have d_16 := Lib.hid (d_15.out.bel hb)
  have x_16 := Lib.hid (x_15.out.bel hb)
  clear D15 a_15 b_15 r_15 s_15 c_15 d_15 x_15
  clear hb
  have y_16 := Lib.hid hlW5_0
  clear hlW5_0
  rw [← hW5_0]
  simp only [← hB5]
  have HW5_0 := Lib.hid hW5_0
  clear hW5_0 hzW5_0
  have HB5 := Lib.hid hB5
  clear hB5
  refine (picon_any c x _).mono ?_
  rintro e v17 ⟨rfl, hb⟩
  have D17 := Lib.hid (D16.out.trans (hb.mono D16.out.size))
  have a_17 := Lib.hid (a_16.out.bel hb)
  have b_17 := Lib.hid (b_16.out.bel hb)
  have r_17 := Lib.hid (r_16.out.bel hb)
  have s_17 := Lib.hid (s_16.out.bel hb)
  have c_17 := Lib.hid (c_16.out.bel hb)
  have d_17 := Lib.hid (d_16.out.bel hb)
  have x_17 := Lib.hid (x_16.out.bel hb)
  have y_17 := Lib.hid (y_16.out.bel hb)
  clear D16 a_16 b_16 r_16 s_16 c_16 d_16 x_16 y_16
  clear hb
  simp only [Q1.out]
  have ac0 := a_17.out.c0
  have ac1 := a_17.out.c1
  have ac2 := a_17.out.c2
  have ac3 := a_17.out.c3
  have ac4 := a_17.out.c4
  have ac5 := a_17.out.c5
  have bc0 := b_17.out.c0
  have bc1 := b_17.out.c1
  have bc2 := b_17.out.c2
  have bc3 := b_17.out.c3
  have bc4 := b_17.out.c4
  have bc5 := b_17.out.c5
  have rc0 := r_17.out.c0
  have rc1 := r_17.out.c1
  have rc2 := r_17.out.c2
  have sc0 := s_17.out.c0
  have sc1 := s_17.out.c1
  have sc2 := s_17.out.c2
  have cc0 := c_17.out.c0
  have cc1 := c_17.out.c1
  have cc2 := c_17.out.c2
  have cc3 := c_17.out.c3
  have cc4 := c_17.out.c4
  have cc5 := c_17.out.c5
  have dc0 := d_17.out.c0
  have dc1 := d_17.out.c1
  have dc2 := d_17.out.c2
  have dc3 := d_17.out.c3
  have dc4 := d_17.out.c4
  have dc5 := d_17.out.c5
  have xc0 := x_17.out.c0
  have xc1 := x_17.out.c1
  have xc2 := x_17.out.c2
  have yc0 := y_17.out.c0
  have yc1 := y_17.out.c1
  have yc2 := y_17.out.c2
  go_wp2_with fail
  clear ac0 ac1 ac2 ac3 ac4 ac5 bc0 bc1 bc2 bc3 bc4 bc5 rc0 rc1 rc2 sc0 sc1 sc2 cc0 cc1 cc2 cc3 cc4 cc5 dc0 dc1 dc2 dc3 dc4 dc5 xc0 xc1 xc2 yc0 yc1 yc2
  refine (picon_any d y _).mono ?_
  rintro e v18 ⟨rfl, hb⟩
  have D18 := Lib.hid (D17.out.trans (hb.mono D17.out.size))
  have a_18 := Lib.hid (a_17.out.bel hb)
  have b_18 := Lib.hid (b_17.out.bel hb)
  have r_18 := Lib.hid (r_17.out.bel hb)
  have s_18 := Lib.hid (s_17.out.bel hb)
  have c_18 := Lib.hid (c_17.out.bel hb)
  have d_18 := Lib.hid (d_17.out.bel hb)
  have x_18 := Lib.hid (x_17.out.bel hb)
  have y_18 := Lib.hid (y_17.out.bel hb)
  clear D17 a_17 b_17 r_17 s_17 c_17 d_17 x_17 y_17
  clear hb
  simp only [Q2.out]
  go_wp2_with fail
  go_ret
  exact ⟨rfl, D18.out⟩
set_option maxHeartbeats 8000000 in
theorem walkIntervalMeets (a : Iv) (b : Iv) (r : Raw) (w : World) (ht : TabOk w) (sa : BigI a) (sb : BigI b) (sr : BigR r) : Calls Tryd.prog 6 #[.agg #[.bool a.low.neg, .string a.low.num, .string a.low.den, .bool a.high.neg, .string a.high.num, .string a.high.den], .agg #[.bool b.low.neg, .string b.low.num, .string b.low.den, .bool b.high.neg, .string b.high.num, .string b.high.den], .agg #[.bool r.neg, .string r.num, .string r.den]] w fun e w' => e = .returned (.bool true) ∧ Below w.heap.size w w' := by
  have HT := Lib.hid ht; clear ht
  have HSa := Lib.hid sa; clear sa
  have HSb := Lib.hid sb; clear sb
  have HSr := Lib.hid sr; clear sr
  have D0 := Lib.hid (Below.refl w.heap.size w)
  go_enter Tryd.func6, Tryd.ntmps6
  go_wp2_with fail
  obtain ⟨B1, hB1⟩ : ∃ B, B = w.heap.size := ⟨_, rfl⟩
  obtain ⟨W1_0, hW1_0⟩ : ∃ W, W = w.alloc (Obj.cells #[Value.bool a.low.neg, Value.string a.low.num, Value.string a.low.den, Value.bool a.high.neg, Value.string a.high.num, Value.string a.high.den] 26) := ⟨_, rfl⟩
  have hb : Below w.heap.size w W1_0 := by rw [hW1_0]; exact (Below.refl _ _).alloc (Nat.le_refl _) _
  have hzW1_0 : w.heap.size = B1 := by rw [hB1]
  have hlW1_0 : IvAt (B1) a W1_0 := by rw [← hzW1_0, hW1_0]; exact ⟨heap_lastM _ _⟩
  have D1 := Lib.hid (D0.out.trans (hb.mono D0.out.size))
  clear hb
  have a_1 := Lib.hid hlW1_0
  clear hlW1_0
  obtain ⟨W1_1, hW1_1⟩ : ∃ W, W = W1_0.alloc (Obj.cells #[Value.bool b.low.neg, Value.string b.low.num, Value.string b.low.den, Value.bool b.high.neg, Value.string b.high.num, Value.string b.high.den] 26) := ⟨_, rfl⟩
  have hb : Below W1_0.heap.size W1_0 W1_1 := by rw [hW1_1]; exact (Below.refl _ _).alloc (Nat.le_refl _) _
  have hzW1_1 : W1_0.heap.size = B1 + 1 := by rw [hW1_0]; simp [hzW1_0]
  have hlW1_1 : IvAt (B1 + 1) b W1_1 := by rw [← hzW1_1, hW1_1]; exact ⟨heap_lastM _ _⟩
  have D2 := Lib.hid (D1.out.trans (hb.mono D1.out.size))
  have a_2 := Lib.hid (a_1.out.bel hb)
  clear D1 a_1
  clear hb
  have b_2 := Lib.hid hlW1_1
  clear hlW1_1
  obtain ⟨W1_2, hW1_2⟩ : ∃ W, W = W1_1.alloc (Obj.cells #[Value.bool r.neg, Value.string r.num, Value.string r.den] 24) := ⟨_, rfl⟩
  have hb : Below W1_1.heap.size W1_1 W1_2 := by rw [hW1_2]; exact (Below.refl _ _).alloc (Nat.le_refl _) _
  have hzW1_2 : W1_1.heap.size = B1 + 1 + 1 := by rw [hW1_1]; simp [hzW1_1]
  have hlW1_2 : RatAt (B1 + 1 + 1) r W1_2 := by rw [← hzW1_2, hW1_2]; exact ⟨heap_lastM _ _⟩
  have D3 := Lib.hid (D2.out.trans (hb.mono D2.out.size))
  have a_3 := Lib.hid (a_2.out.bel hb)
  have b_3 := Lib.hid (b_2.out.bel hb)
  clear D2 a_2 b_2
  clear hb
  have r_3 := Lib.hid hlW1_2
  clear hlW1_2
  rw [← hW1_0]
  rw [← hW1_1]
  rw [← hW1_2]
  simp only [← hB1]
  have HW1_0 := Lib.hid hW1_0
  clear hW1_0 hzW1_0
  have HW1_1 := Lib.hid hW1_1
  clear hW1_1 hzW1_1
  have HW1_2 := Lib.hid hW1_2
  clear hW1_2 hzW1_2
  have HB1 := Lib.hid hB1
  clear hB1
  refine (head5_any _ (HT.out.below D3.out)).mono ?_
  rintro e v4 ⟨rfl, hb⟩
  have D4 := Lib.hid (D3.out.trans (hb.mono D3.out.size))
  have a_4 := Lib.hid (a_3.out.bel hb)
  have b_4 := Lib.hid (b_3.out.bel hb)
  have r_4 := Lib.hid (r_3.out.bel hb)
  clear D3 a_3 b_3 r_3
  clear hb
  have ac0 := a_4.out.c0
  have ac1 := a_4.out.c1
  have ac2 := a_4.out.c2
  have ac3 := a_4.out.c3
  have ac4 := a_4.out.c4
  have ac5 := a_4.out.c5
  have az := blk_lt a_4.out.cells
  have bc0 := b_4.out.c0
  have bc1 := b_4.out.c1
  have bc2 := b_4.out.c2
  have bc3 := b_4.out.c3
  have bc4 := b_4.out.c4
  have bc5 := b_4.out.c5
  have bz := blk_lt b_4.out.cells
  have rc0 := r_4.out.c0
  have rc1 := r_4.out.c1
  have rc2 := r_4.out.c2
  have rz := blk_lt r_4.out.cells
  go_wp2_with fail
  clear ac0 ac1 ac2 ac3 ac4 ac5 az bc0 bc1 bc2 bc3 bc4 bc5 bz rc0 rc1 rc2 rz
  have h1 : IvsOk (v4.alloc (Obj.cells #[Value.bool a.low.neg, Value.string a.low.num, Value.string a.low.den, Value.bool a.high.neg, Value.string a.high.num, Value.string a.high.den, Value.bool b.low.neg, Value.string b.low.num, Value.string b.low.den, Value.bool b.high.neg, Value.string b.high.num, Value.string b.high.den] 26)) (.slice (some ⟨v4.heap.size, 0, none⟩) 2 2) [a, b] := ivs_2 a b v4 HSa.out HSb.out
  have hx1 : Below v4.heap.size v4 (v4.alloc (Obj.cells #[Value.bool a.low.neg, Value.string a.low.num, Value.string a.low.den, Value.bool a.high.neg, Value.string a.high.num, Value.string a.high.den, Value.bool b.low.neg, Value.string b.low.num, Value.string b.low.den, Value.bool b.high.neg, Value.string b.high.num, Value.string b.high.den] 26)) := (Below.refl _ _).alloc (Nat.le_refl _) _
  have hx2 : Below (v4.alloc (Obj.cells #[Value.bool a.low.neg, Value.string a.low.num, Value.string a.low.den, Value.bool a.high.neg, Value.string a.high.num, Value.string a.high.den, Value.bool b.low.neg, Value.string b.low.num, Value.string b.low.den, Value.bool b.high.neg, Value.string b.high.num, Value.string b.high.den] 26)).heap.size (v4.alloc (Obj.cells #[Value.bool a.low.neg, Value.string a.low.num, Value.string a.low.den, Value.bool a.high.neg, Value.string a.high.num, Value.string a.high.den, Value.bool b.low.neg, Value.string b.low.num, Value.string b.low.den, Value.bool b.high.neg, Value.string b.high.num, Value.string b.high.den] 26)) ((v4.alloc (Obj.cells #[Value.bool a.low.neg, Value.string a.low.num, Value.string a.low.den, Value.bool a.high.neg, Value.string a.high.num, Value.string a.high.den, Value.bool b.low.neg, Value.string b.low.num, Value.string b.low.den, Value.bool b.high.neg, Value.string b.high.num, Value.string b.high.den] 26)).alloc (Obj.cells #[Value.bool r.neg, Value.string r.num, Value.string r.den] 24)) := (Below.refl _ _).alloc (Nat.le_refl _) _
  have h2 : NumsOk ((v4.alloc (Obj.cells #[Value.bool a.low.neg, Value.string a.low.num, Value.string a.low.den, Value.bool a.high.neg, Value.string a.high.num, Value.string a.high.den, Value.bool b.low.neg, Value.string b.low.num, Value.string b.low.den, Value.bool b.high.neg, Value.string b.high.num, Value.string b.high.den] 26)).alloc (Obj.cells #[Value.bool r.neg, Value.string r.num, Value.string r.den] 24)) (.slice (some ⟨v4.heap.size + 1, 0, none⟩) 1 1) [r] := by have := nums_1 r (v4.alloc (Obj.cells #[Value.bool a.low.neg, Value.string a.low.num, Value.string a.low.den, Value.bool a.high.neg, Value.string a.high.num, Value.string a.high.den, Value.bool b.low.neg, Value.string b.low.num, Value.string b.low.den, Value.bool b.high.neg, Value.string b.high.num, Value.string b.high.den] 26)) HSr.out; rwa [show (v4.alloc (Obj.cells #[Value.bool a.low.neg, Value.string a.low.num, Value.string a.low.den, Value.bool a.high.neg, Value.string a.high.num, Value.string a.high.den, Value.bool b.low.neg, Value.string b.low.num, Value.string b.low.den, Value.bool b.high.neg, Value.string b.high.num, Value.string b.high.den] 26)).heap.size = v4.heap.size + 1 by simp] at this
  have hx := hx1.trans (hx2.mono hx1.size)
  refine (few5_any _ _ _ _ _ (h1.bel hx2) h2).mono ?_
  rintro e vf ⟨rfl, hbf⟩
  have hb := hx.trans (hbf.mono hx.size); clear h1 hx1 hx hbf hx2 h2
  have D5 := Lib.hid (D4.out.trans (hb.mono D4.out.size))
  have a_5 := Lib.hid (a_4.out.bel hb)
  have b_5 := Lib.hid (b_4.out.bel hb)
  have r_5 := Lib.hid (r_4.out.bel hb)
  clear D4 a_4 b_4 r_4
  clear hb
  rcases Bool.eq_false_or_eq_true (fewI [a, b] && fewS [r]) with hp | hp
  rotate_left
  ·
    simp only [hp]
    go_wp2_with fail
    go_ret
    exact ⟨rfl, D5.out⟩
  simp only [hp]
  have HF := Lib.hid hp; clear hp
  have hf := HF.out; rw [Bool.and_eq_true, fewI_iff, fewS_iff] at hf
  have Za : Hid (SzI a) := Lib.hid (hf.1.2 a (by simp))
  have Zb : Hid (SzI b) := Lib.hid (hf.1.2 b (by simp))
  have Zr : Hid (Sz r) := Lib.hid (hf.2 r (by simp))
  clear hf
  have ac0 := a_5.out.c0
  have ac1 := a_5.out.c1
  have ac2 := a_5.out.c2
  have ac3 := a_5.out.c3
  have ac4 := a_5.out.c4
  have ac5 := a_5.out.c5
  have bc0 := b_5.out.c0
  have bc1 := b_5.out.c1
  have bc2 := b_5.out.c2
  have bc3 := b_5.out.c3
  have bc4 := b_5.out.c4
  have bc5 := b_5.out.c5
  have rc0 := r_5.out.c0
  have rc1 := r_5.out.c1
  have rc2 := r_5.out.c2
  go_wp2_with fail
  clear ac0 ac1 ac2 ac3 ac4 ac5 bc0 bc1 bc2 bc3 bc4 bc5 rc0 rc1 rc2
  refine (pimeet_any a b _).mono ?_
  rintro e v6 ⟨rfl, hb⟩
  have D6 := Lib.hid (D5.out.trans (hb.mono D5.out.size))
  have a_6 := Lib.hid (a_5.out.bel hb)
  have b_6 := Lib.hid (b_5.out.bel hb)
  have r_6 := Lib.hid (r_5.out.bel hb)
  clear D5 a_5 b_5 r_5
  clear hb
  rcases meets_pure a b with ⟨c, e1, o1, o2, o3, hq⟩ | ⟨e1, hq⟩
  ·
    have hq := hq r; simp only [e1]
    have E1 := Lib.hid e1; have O1 := Lib.hid o1; have O2 := Lib.hid o2; have O3 := Lib.hid o3; have HQ := Lib.hid hq; clear e1 o1 o2 o3 hq
    have ac0 := a_6.out.c0
    have ac1 := a_6.out.c1
    have ac2 := a_6.out.c2
    have ac3 := a_6.out.c3
    have ac4 := a_6.out.c4
    have ac5 := a_6.out.c5
    have az := blk_lt a_6.out.cells
    have bc0 := b_6.out.c0
    have bc1 := b_6.out.c1
    have bc2 := b_6.out.c2
    have bc3 := b_6.out.c3
    have bc4 := b_6.out.c4
    have bc5 := b_6.out.c5
    have bz := blk_lt b_6.out.cells
    have rc0 := r_6.out.c0
    have rc1 := r_6.out.c1
    have rc2 := r_6.out.c2
    have rz := blk_lt r_6.out.cells
    go_wp2_with fail
    clear ac0 ac1 ac2 ac3 ac4 ac5 az bc0 bc1 bc2 bc3 bc4 bc5 bz rc0 rc1 rc2 rz
    obtain ⟨B2, hB2⟩ : ∃ B, B = v6.heap.size := ⟨_, rfl⟩
    obtain ⟨W2_0, hW2_0⟩ : ∃ W, W = v6.alloc (Obj.cells #[Value.bool c.low.neg, Value.string c.low.num, Value.string c.low.den, Value.bool c.high.neg, Value.string c.high.num, Value.string c.high.den] 26) := ⟨_, rfl⟩
    have hb : Below v6.heap.size v6 W2_0 := by rw [hW2_0]; exact (Below.refl _ _).alloc (Nat.le_refl _) _
    have hzW2_0 : v6.heap.size = B2 := by rw [hB2]
    have hlW2_0 : IvAt (B2) c W2_0 := by rw [← hzW2_0, hW2_0]; exact ⟨heap_lastM _ _⟩
    have D7 := Lib.hid (D6.out.trans (hb.mono D6.out.size))
    have a_7 := Lib.hid (a_6.out.bel hb)
    have b_7 := Lib.hid (b_6.out.bel hb)
    have r_7 := Lib.hid (r_6.out.bel hb)
    clear D6 a_6 b_6 r_6
    clear hb
    have c_7 := Lib.hid hlW2_0
    clear hlW2_0
    rw [← hW2_0]
    simp only [← hB2]
    have HW2_0 := Lib.hid hW2_0
    clear hW2_0 hzW2_0
    have HB2 := Lib.hid hB2
    clear hB2
    refine (pivalid_any a _).mono ?_
    rintro e v8 ⟨rfl, hb⟩
    have D8 := Lib.hid (D7.out.trans (hb.mono D7.out.size))
    have a_8 := Lib.hid (a_7.out.bel hb)
    have b_8 := Lib.hid (b_7.out.bel hb)
    have r_8 := Lib.hid (r_7.out.bel hb)
    have c_8 := Lib.hid (c_7.out.bel hb)
    clear D7 a_7 b_7 r_7 c_7
    clear hb
    simp only [O1.out]
    have ac0 := a_8.out.c0
    have ac1 := a_8.out.c1
    have ac2 := a_8.out.c2
    have ac3 := a_8.out.c3
    have ac4 := a_8.out.c4
    have ac5 := a_8.out.c5
    have bc0 := b_8.out.c0
    have bc1 := b_8.out.c1
    have bc2 := b_8.out.c2
    have bc3 := b_8.out.c3
    have bc4 := b_8.out.c4
    have bc5 := b_8.out.c5
    have rc0 := r_8.out.c0
    have rc1 := r_8.out.c1
    have rc2 := r_8.out.c2
    have cc0 := c_8.out.c0
    have cc1 := c_8.out.c1
    have cc2 := c_8.out.c2
    have cc3 := c_8.out.c3
    have cc4 := c_8.out.c4
    have cc5 := c_8.out.c5
    go_wp2_with fail
    clear ac0 ac1 ac2 ac3 ac4 ac5 bc0 bc1 bc2 bc3 bc4 bc5 rc0 rc1 rc2 cc0 cc1 cc2 cc3 cc4 cc5
    refine (pivalid_any b _).mono ?_
    rintro e v9 ⟨rfl, hb⟩
    have D9 := Lib.hid (D8.out.trans (hb.mono D8.out.size))
    have a_9 := Lib.hid (a_8.out.bel hb)
    have b_9 := Lib.hid (b_8.out.bel hb)
    have r_9 := Lib.hid (r_8.out.bel hb)
    have c_9 := Lib.hid (c_8.out.bel hb)
    clear D8 a_8 b_8 r_8 c_8
    clear hb
    simp only [O2.out]
    have ac0 := a_9.out.c0
    have ac1 := a_9.out.c1
    have ac2 := a_9.out.c2
    have ac3 := a_9.out.c3
    have ac4 := a_9.out.c4
    have ac5 := a_9.out.c5
    have bc0 := b_9.out.c0
    have bc1 := b_9.out.c1
    have bc2 := b_9.out.c2
    have bc3 := b_9.out.c3
    have bc4 := b_9.out.c4
    have bc5 := b_9.out.c5
    have rc0 := r_9.out.c0
    have rc1 := r_9.out.c1
    have rc2 := r_9.out.c2
    have cc0 := c_9.out.c0
    have cc1 := c_9.out.c1
    have cc2 := c_9.out.c2
    have cc3 := c_9.out.c3
    have cc4 := c_9.out.c4
    have cc5 := c_9.out.c5
    go_wp2_with fail
    clear ac0 ac1 ac2 ac3 ac4 ac5 bc0 bc1 bc2 bc3 bc4 bc5 rc0 rc1 rc2 cc0 cc1 cc2 cc3 cc4 cc5
    refine (pivalid_any c _).mono ?_
    rintro e v10 ⟨rfl, hb⟩
    have D10 := Lib.hid (D9.out.trans (hb.mono D9.out.size))
    have a_10 := Lib.hid (a_9.out.bel hb)
    have b_10 := Lib.hid (b_9.out.bel hb)
    have r_10 := Lib.hid (r_9.out.bel hb)
    have c_10 := Lib.hid (c_9.out.bel hb)
    clear D9 a_9 b_9 r_9 c_9
    clear hb
    simp only [O3.out]
    have ac0 := a_10.out.c0
    have ac1 := a_10.out.c1
    have ac2 := a_10.out.c2
    have ac3 := a_10.out.c3
    have ac4 := a_10.out.c4
    have ac5 := a_10.out.c5
    have bc0 := b_10.out.c0
    have bc1 := b_10.out.c1
    have bc2 := b_10.out.c2
    have bc3 := b_10.out.c3
    have bc4 := b_10.out.c4
    have bc5 := b_10.out.c5
    have rc0 := r_10.out.c0
    have rc1 := r_10.out.c1
    have rc2 := r_10.out.c2
    have cc0 := c_10.out.c0
    have cc1 := c_10.out.c1
    have cc2 := c_10.out.c2
    have cc3 := c_10.out.c3
    have cc4 := c_10.out.c4
    have cc5 := c_10.out.c5
    go_wp2_with fail
    clear ac0 ac1 ac2 ac3 ac4 ac5 bc0 bc1 bc2 bc3 bc4 bc5 rc0 rc1 rc2 cc0 cc1 cc2 cc3 cc4 cc5
    refine (picon_any a r _).mono ?_
    rintro e v11 ⟨rfl, hb⟩
    have D11 := Lib.hid (D10.out.trans (hb.mono D10.out.size))
    have a_11 := Lib.hid (a_10.out.bel hb)
    have b_11 := Lib.hid (b_10.out.bel hb)
    have r_11 := Lib.hid (r_10.out.bel hb)
    have c_11 := Lib.hid (c_10.out.bel hb)
    clear D10 a_10 b_10 r_10 c_10
    clear hb
    have hq := HQ.out; clear HQ
    have HVB : Hid (∀ w, Calls Tryd.prog 10 #[.agg #[.bool b.low.neg, .string b.low.num, .string b.low.den, .bool b.high.neg, .string b.high.num, .string b.high.den], .agg #[.bool r.neg, .string r.num, .string r.den]] w (GivesB (hasI b r) w)) := Lib.hid (fun w => picon_any b r w)
    generalize hasI a r = va at *
    generalize hasI b r = vb at *
    rcases Bool.eq_false_or_eq_true va with hv | hv <;> subst hv
    ·
      have ac0 := a_11.out.c0
      have ac1 := a_11.out.c1
      have ac2 := a_11.out.c2
      have ac3 := a_11.out.c3
      have ac4 := a_11.out.c4
      have ac5 := a_11.out.c5
      have bc0 := b_11.out.c0
      have bc1 := b_11.out.c1
      have bc2 := b_11.out.c2
      have bc3 := b_11.out.c3
      have bc4 := b_11.out.c4
      have bc5 := b_11.out.c5
      have rc0 := r_11.out.c0
      have rc1 := r_11.out.c1
      have rc2 := r_11.out.c2
      have cc0 := c_11.out.c0
      have cc1 := c_11.out.c1
      have cc2 := c_11.out.c2
      have cc3 := c_11.out.c3
      have cc4 := c_11.out.c4
      have cc5 := c_11.out.c5
      go_wp2_with fail
      clear ac0 ac1 ac2 ac3 ac4 ac5 bc0 bc1 bc2 bc3 bc4 bc5 rc0 rc1 rc2 cc0 cc1 cc2 cc3 cc4 cc5
      have hvb : Hid (∀ w, Calls Tryd.prog 10 #[.agg #[.bool b.low.neg, .string b.low.num, .string b.low.den, .bool b.high.neg, .string b.high.num, .string b.high.den], .agg #[.bool r.neg, .string r.num, .string r.den]] w (GivesB vb w)) := HVB
      refine (hvb.out _).mono ?_
      rintro e v12 ⟨rfl, hb⟩
      have D12 := Lib.hid (D11.out.trans (hb.mono D11.out.size))
      have a_12 := Lib.hid (a_11.out.bel hb)
      have b_12 := Lib.hid (b_11.out.bel hb)
      have r_12 := Lib.hid (r_11.out.bel hb)
      have c_12 := Lib.hid (c_11.out.bel hb)
      clear D11 a_11 b_11 r_11 c_11
      clear hb
      have ac0 := a_12.out.c0
      have ac1 := a_12.out.c1
      have ac2 := a_12.out.c2
      have ac3 := a_12.out.c3
      have ac4 := a_12.out.c4
      have ac5 := a_12.out.c5
      have bc0 := b_12.out.c0
      have bc1 := b_12.out.c1
      have bc2 := b_12.out.c2
      have bc3 := b_12.out.c3
      have bc4 := b_12.out.c4
      have bc5 := b_12.out.c5
      have rc0 := r_12.out.c0
      have rc1 := r_12.out.c1
      have rc2 := r_12.out.c2
      have cc0 := c_12.out.c0
      have cc1 := c_12.out.c1
      have cc2 := c_12.out.c2
      have cc3 := c_12.out.c3
      have cc4 := c_12.out.c4
      have cc5 := c_12.out.c5
      go_wp2_with fail
      clear ac0 ac1 ac2 ac3 ac4 ac5 bc0 bc1 bc2 bc3 bc4 bc5 rc0 rc1 rc2 cc0 cc1 cc2 cc3 cc4 cc5
      refine (picon_any c r _).mono ?_
      rintro e v13 ⟨rfl, hb⟩
      have D13 := Lib.hid (D12.out.trans (hb.mono D12.out.size))
      have a_13 := Lib.hid (a_12.out.bel hb)
      have b_13 := Lib.hid (b_12.out.bel hb)
      have r_13 := Lib.hid (r_12.out.bel hb)
      have c_13 := Lib.hid (c_12.out.bel hb)
      clear D12 a_12 b_12 r_12 c_12
      clear hb
      rw [← hq]
      go_wp2_with fail
      go_ret
      exact ⟨by first | (simp; done) | (simp [← hq]; done), D13.out⟩
    ·
      have ac0 := a_11.out.c0
      have ac1 := a_11.out.c1
      have ac2 := a_11.out.c2
      have ac3 := a_11.out.c3
      have ac4 := a_11.out.c4
      have ac5 := a_11.out.c5
      have bc0 := b_11.out.c0
      have bc1 := b_11.out.c1
      have bc2 := b_11.out.c2
      have bc3 := b_11.out.c3
      have bc4 := b_11.out.c4
      have bc5 := b_11.out.c5
      have rc0 := r_11.out.c0
      have rc1 := r_11.out.c1
      have rc2 := r_11.out.c2
      have cc0 := c_11.out.c0
      have cc1 := c_11.out.c1
      have cc2 := c_11.out.c2
      have cc3 := c_11.out.c3
      have cc4 := c_11.out.c4
      have cc5 := c_11.out.c5
      go_wp2_with fail
      clear ac0 ac1 ac2 ac3 ac4 ac5 bc0 bc1 bc2 bc3 bc4 bc5 rc0 rc1 rc2 cc0 cc1 cc2 cc3 cc4 cc5
      refine (picon_any c r _).mono ?_
      rintro e v12 ⟨rfl, hb⟩
      have D12 := Lib.hid (D11.out.trans (hb.mono D11.out.size))
      have a_12 := Lib.hid (a_11.out.bel hb)
      have b_12 := Lib.hid (b_11.out.bel hb)
      have r_12 := Lib.hid (r_11.out.bel hb)
      have c_12 := Lib.hid (c_11.out.bel hb)
      clear D11 a_11 b_11 r_11 c_11
      clear hb
      rw [← hq]
      go_wp2_with fail
      go_ret
      exact ⟨by first | (simp; done) | (simp [← hq]; done), D12.out⟩
  ·
    have hq := hq r; simp only [e1, noI, noRaw]; clear e1
    have HQ := Lib.hid hq; clear hq
    have ac0 := a_6.out.c0
    have ac1 := a_6.out.c1
    have ac2 := a_6.out.c2
    have ac3 := a_6.out.c3
    have ac4 := a_6.out.c4
    have ac5 := a_6.out.c5
    have az := blk_lt a_6.out.cells
    have bc0 := b_6.out.c0
    have bc1 := b_6.out.c1
    have bc2 := b_6.out.c2
    have bc3 := b_6.out.c3
    have bc4 := b_6.out.c4
    have bc5 := b_6.out.c5
    have bz := blk_lt b_6.out.cells
    have rc0 := r_6.out.c0
    have rc1 := r_6.out.c1
    have rc2 := r_6.out.c2
    have rz := blk_lt r_6.out.cells
    have nz := run_neq_iv noI; simp only [noI, noRaw] at nz
    go_wp2_with fail
    clear ac0 ac1 ac2 ac3 ac4 ac5 az bc0 bc1 bc2 bc3 bc4 bc5 bz rc0 rc1 rc2 rz
    obtain ⟨B2, hB2⟩ : ∃ B, B = v6.heap.size := ⟨_, rfl⟩
    obtain ⟨W2_0, hW2_0⟩ : ∃ W, W = v6.alloc (Obj.cells #[Value.bool false, Value.string ⟨#[]⟩, Value.string ⟨#[]⟩, Value.bool false, Value.string ⟨#[]⟩, Value.string ⟨#[]⟩] 26) := ⟨_, rfl⟩
    have hb : Below v6.heap.size v6 W2_0 := by rw [hW2_0]; exact (Below.refl _ _).alloc (Nat.le_refl _) _
    have hzW2_0 : v6.heap.size = B2 := by rw [hB2]
    have D7 := Lib.hid (D6.out.trans (hb.mono D6.out.size))
    have a_7 := Lib.hid (a_6.out.bel hb)
    have b_7 := Lib.hid (b_6.out.bel hb)
    have r_7 := Lib.hid (r_6.out.bel hb)
    clear D6 a_6 b_6 r_6
    clear hb
    rw [← hW2_0]
    simp only [← hB2]
    have HW2_0 := Lib.hid hW2_0
    clear hW2_0 hzW2_0
    have HB2 := Lib.hid hB2
    clear hB2
    refine (picon_any a r _).mono ?_
    rintro e v8 ⟨rfl, hb⟩
    have D8 := Lib.hid (D7.out.trans (hb.mono D7.out.size))
    have a_8 := Lib.hid (a_7.out.bel hb)
    have b_8 := Lib.hid (b_7.out.bel hb)
    have r_8 := Lib.hid (r_7.out.bel hb)
    clear D7 a_7 b_7 r_7
    clear hb
    have hq := HQ.out; clear HQ
    rcases Bool.eq_false_or_eq_true (hasI a r) with hv | hv <;> rw [hv] <;> rw [hv] at hq
    ·
      have ac0 := a_8.out.c0
      have ac1 := a_8.out.c1
      have ac2 := a_8.out.c2
      have ac3 := a_8.out.c3
      have ac4 := a_8.out.c4
      have ac5 := a_8.out.c5
      have bc0 := b_8.out.c0
      have bc1 := b_8.out.c1
      have bc2 := b_8.out.c2
      have bc3 := b_8.out.c3
      have bc4 := b_8.out.c4
      have bc5 := b_8.out.c5
      have rc0 := r_8.out.c0
      have rc1 := r_8.out.c1
      have rc2 := r_8.out.c2
      go_wp2_with fail
      clear ac0 ac1 ac2 ac3 ac4 ac5 bc0 bc1 bc2 bc3 bc4 bc5 rc0 rc1 rc2
      refine (picon_any b r _).mono ?_
      rintro e v9 ⟨rfl, hb⟩
      have D9 := Lib.hid (D8.out.trans (hb.mono D8.out.size))
      have a_9 := Lib.hid (a_8.out.bel hb)
      have b_9 := Lib.hid (b_8.out.bel hb)
      have r_9 := Lib.hid (r_8.out.bel hb)
      clear D8 a_8 b_8 r_8
      clear hb
      simp only [Bool.true_and] at hq; rw [hq]
      go_wp2_with fail
      go_ret
      exact ⟨by first | rfl | simp, D9.out⟩
    ·
      have ac0 := a_8.out.c0
      have ac1 := a_8.out.c1
      have ac2 := a_8.out.c2
      have ac3 := a_8.out.c3
      have ac4 := a_8.out.c4
      have ac5 := a_8.out.c5
      have bc0 := b_8.out.c0
      have bc1 := b_8.out.c1
      have bc2 := b_8.out.c2
      have bc3 := b_8.out.c3
      have bc4 := b_8.out.c4
      have bc5 := b_8.out.c5
      have rc0 := r_8.out.c0
      have rc1 := r_8.out.c1
      have rc2 := r_8.out.c2
      go_wp2_with fail
      clear ac0 ac1 ac2 ac3 ac4 ac5 bc0 bc1 bc2 bc3 bc4 bc5 rc0 rc1 rc2
      go_ret
      exact ⟨by first | rfl | simp, D8.out⟩
end Go.Proofs.YtbcoblpnihdhgaaDoor
