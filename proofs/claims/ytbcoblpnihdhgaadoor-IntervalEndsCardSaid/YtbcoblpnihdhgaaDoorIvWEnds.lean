/-
  The walk of IntervalEnds.
-/
import Derived.Test.YtbcoblpnihdhgaaDoorIvHead
import Derived.Test.YtbcoblpnihdhgaaDoorRmI
set_option linter.unusedVariables false
set_option maxRecDepth 100000
namespace Go.Proofs.YtbcoblpnihdhgaaDoor
open Go.RowKit
open Rt
/-- the two ends of an interval as a list -/
structure TwoAt (B : Nat) (i : Iv) (w : World) : Prop where
  cells : w.heap[B]? = some (.cells #[.bool i.low.neg, .string i.low.num, .string i.low.den, .bool i.high.neg, .string i.high.num, .string i.high.den] 24 (0, 0))
theorem TwoAt.bel {B : Nat} {i : Iv} {w w' : World} (h : TwoAt B i w) (hb : Below w.heap.size w w') : TwoAt B i w' := ⟨(hb.block _ (blk_lt h.cells)).trans h.cells⟩
theorem run_neq_rat' (a b : Raw) (w : World) : (binOp .neq 24 (.agg #[.bool a.neg, .string a.num, .string a.den]) (.agg #[.bool b.neg, .string b.num, .string b.den])).run Tryd.prog w = .ok (.bool (!sameR a b)) w := by
  have h1 := str_beq a.num b.num
  have h2 := str_beq a.den b.den
  by_cases e0 : a.neg = b.neg
  · by_cases e1 : a.num = b.num
    · by_cases e2 : a.den = b.den
      · have hs : sameR a b = true := sameR_iff.2 (Raw.eq_of e0 e1 e2)
        rw [hs, e0, e1, e2]
        simp [go_sem, run_neq_struct, Program.fieldsOf]
      · have hs : sameR a b = false := Bool.eq_false_iff.2 (fun h => e2 (by rw [sameR_iff.1 h]))
        rw [decide_eq_false e2] at h2
        rw [hs, e0, e1]
        simp [go_sem, run_neq_struct, Program.fieldsOf, h2]
    · have hs : sameR a b = false := Bool.eq_false_iff.2 (fun h => e1 (by rw [sameR_iff.1 h]))
      rw [decide_eq_false e1] at h1
      rw [hs, e0]
      simp [go_sem, run_neq_struct, Program.fieldsOf, h1]
  · have hs : sameR a b = false := Bool.eq_false_iff.2 (fun h => e0 (by rw [sameR_iff.1 h]))
    have h0 : (a.neg == b.neg) = false := by simpa using e0
    rw [hs]
    simp [go_sem, run_neq_struct, Program.fieldsOf, h0]
theorem two_new (i : Iv) (w : World) : TwoAt w.heap.size i (w.alloc (Obj.cells #[.bool i.low.neg, .string i.low.num, .string i.low.den, .bool i.high.neg, .string i.high.num, .string i.high.den] 24)) := ⟨heap_lastM _ _⟩
theorem pair_new (v : World) (i j : Iv) : TwoAt v.heap.size i ((v.alloc (Obj.cells #[.bool i.low.neg, .string i.low.num, .string i.low.den, .bool i.high.neg, .string i.high.num, .string i.high.den] 24)).alloc (Obj.cells #[.bool j.low.neg, .string j.low.num, .string j.low.den, .bool j.high.neg, .string j.high.num, .string j.high.den] 24)).drew ∧
    TwoAt (v.heap.size + 1) j ((v.alloc (Obj.cells #[.bool i.low.neg, .string i.low.num, .string i.low.den, .bool i.high.neg, .string i.high.num, .string i.high.den] 24)).alloc (Obj.cells #[.bool j.low.neg, .string j.low.num, .string j.low.den, .bool j.high.neg, .string j.high.num, .string j.high.den] 24)).drew ∧
    Below v.heap.size v ((v.alloc (Obj.cells #[.bool i.low.neg, .string i.low.num, .string i.low.den, .bool i.high.neg, .string i.high.num, .string i.high.den] 24)).alloc (Obj.cells #[.bool j.low.neg, .string j.low.num, .string j.low.den, .bool j.high.neg, .string j.high.num, .string j.high.den] 24)).drew := by
  have h1 := two_new i v
  have hs : (v.alloc (Obj.cells #[.bool i.low.neg, .string i.low.num, .string i.low.den, .bool i.high.neg, .string i.high.num, .string i.high.den] 24)).heap.size = v.heap.size + 1 := by simp
  have hb1 : Below v.heap.size v (v.alloc (Obj.cells #[.bool i.low.neg, .string i.low.num, .string i.low.den, .bool i.high.neg, .string i.high.num, .string i.high.den] 24)) := (Below.refl _ _).alloc (Nat.le_refl _) _
  generalize v.alloc (Obj.cells #[.bool i.low.neg, .string i.low.num, .string i.low.den, .bool i.high.neg, .string i.high.num, .string i.high.den] 24) = V at *
  have h2 := two_new j V
  have hb2 : Below V.heap.size V (V.alloc (Obj.cells #[.bool j.low.neg, .string j.low.num, .string j.low.den, .bool j.high.neg, .string j.high.num, .string j.high.den] 24)) := (Below.refl _ _).alloc (Nat.le_refl _) _
  rw [hs] at h2
  have hd := (Below.refl (V.alloc (Obj.cells #[.bool j.low.neg, .string j.low.num, .string j.low.den, .bool j.high.neg, .string j.high.num, .string j.high.den] 24)).heap.size (V.alloc (Obj.cells #[.bool j.low.neg, .string j.low.num, .string j.low.den, .bool j.high.neg, .string j.high.num, .string j.high.den] 24))).drew
  exact ⟨(h1.bel hb2).bel hd, h2.bel hd, (hb1.trans (hb2.mono hb1.size)).drew⟩
def IdxE (k : Nat) (i : Value) : Prop := (k = 0 ∧ i = .int .i64 0) ∨ (k = 1 ∧ i = .int .i64 1) ∨ (k = 2 ∧ i = .int .i64 2) ∨ (k = 3 ∧ i = .int .i64 3) ∨ (k = 4 ∧ i = .int .i64 4)
def anyB (p q r s t : Raw) : Nat → Bool
  | 0 => false
  | 1 => sameR p t
  | 2 => sameR p t || sameR q t
  | 3 => (sameR p t || sameR q t) || sameR r t
  | _ => ((sameR p t || sameR q t) || sameR r t) || sameR s t
theorem anyB_all {p q r s t : Raw} (h : t = p ∨ t = q ∨ t = r ∨ t = s) : anyB p q r s t 4 = true := by
  unfold anyB
  rcases h with rfl | rfl | rfl | rfl <;> simp [sameR_iff.2 rfl]
theorem TwoAt.c {B : Nat} {i : Iv} {w : World} (h : TwoAt B i w) : w.cell? ⟨B, 0, none⟩ = some (.bool i.low.neg) ∧ w.cell? ⟨B, 1, none⟩ = some (.string i.low.num) ∧ w.cell? ⟨B, 2, none⟩ = some (.string i.low.den) ∧ w.cell? ⟨B, 3, none⟩ = some (.bool i.high.neg) ∧ w.cell? ⟨B, 4, none⟩ = some (.string i.high.num) ∧ w.cell? ⟨B, 5, none⟩ = some (.string i.high.den) := by
  refine ⟨?_, ?_, ?_, ?_, ?_, ?_⟩ <;> (rw [Lib.cell_of_heap h.cells]; rfl)
theorem keepT {W w' : World} {B C : Nat} {i j : Iv} (h1 : TwoAt B i W) (h2 : TwoAt C j W) (hb : Below W.heap.size W w') : Below W.heap.size W w' ∧ w'.cell? ⟨B, 0, none⟩ = some (.bool i.low.neg) ∧ w'.cell? ⟨B, 1, none⟩ = some (.string i.low.num) ∧ w'.cell? ⟨B, 2, none⟩ = some (.string i.low.den) ∧ w'.cell? ⟨B, 3, none⟩ = some (.bool i.high.neg) ∧ w'.cell? ⟨B, 4, none⟩ = some (.string i.high.num) ∧ w'.cell? ⟨B, 5, none⟩ = some (.string i.high.den) ∧ w'.cell? ⟨C, 0, none⟩ = some (.bool j.low.neg) ∧ w'.cell? ⟨C, 1, none⟩ = some (.string j.low.num) ∧ w'.cell? ⟨C, 2, none⟩ = some (.string j.low.den) ∧ w'.cell? ⟨C, 3, none⟩ = some (.bool j.high.neg) ∧ w'.cell? ⟨C, 4, none⟩ = some (.string j.high.num) ∧ w'.cell? ⟨C, 5, none⟩ = some (.string j.high.den) := by
  obtain ⟨a0, a1, a2, a3, a4, a5⟩ := (h1.bel hb).c
  obtain ⟨c0, c1, c2, c3, c4, c5⟩ := (h2.bel hb).c
  exact ⟨hb, a0, a1, a2, a3, a4, a5, c0, c1, c2, c3, c4, c5⟩
theorem nextT {W w' w'' : World} {B C : Nat} {i j : Iv} (hb : Below w'.heap.size w' w'') (h : Below W.heap.size W w' ∧ TwoAt B i w' ∧ TwoAt C j w') : Below W.heap.size W w'' ∧ TwoAt B i w'' ∧ TwoAt C j w'' := ⟨h.1.trans (hb.mono h.1.size), h.2.1.bel hb, h.2.2.bel hb⟩
set_option maxHeartbeats 8000000 in
theorem walkIntervalEnds (a : Iv) (b : Iv) (w : World) (ht : TabOk w) (sa : BigI a) (sb : BigI b) : Calls Tryd.prog 4 #[.agg #[.bool a.low.neg, .string a.low.num, .string a.low.den, .bool a.high.neg, .string a.high.num, .string a.high.den], .agg #[.bool b.low.neg, .string b.low.num, .string b.low.den, .bool b.high.neg, .string b.high.num, .string b.high.den]] w fun e w' => e = .returned (.bool true) ∧ Below w.heap.size w w' := by
  have HT := Lib.hid ht; clear ht
  have HSa := Lib.hid sa; clear sa
  have HSb := Lib.hid sb; clear sb
  have D0 := Lib.hid (Below.refl w.heap.size w)
  go_enter Tryd.func4, Tryd.ntmps4
  go_wp2_with fail
  obtain ⟨B1, hB1⟩ : ∃ B, B = w.heap.size := ⟨_, rfl⟩
  obtain ⟨W1_0, hW1_0⟩ : ∃ W, W = w.alloc (Obj.cells #[Value.bool a.low.neg, Value.string a.low.num, Value.string a.low.den, Value.bool a.high.neg, Value.string a.high.num, Value.string a.high.den] 26) := ⟨_, rfl⟩
  have hb : Below w.heap.size w W1_0 := by rw [hW1_0]; exact (Below.refl _ _).alloc (Nat.le_refl _) _
  have hzW1_0 : w.heap.size = B1 := by rw [hB1]
  have hlW1_0 : IvAt (B1) a W1_0 := by rw [← hzW1_0, hW1_0]; exact ⟨heap_lastM _ _⟩
  have D1 := Lib.hid (D0.out.trans (hb.mono D0.out.size))
  clear hb
  have a_1 := Lib.hid hlW1_0
  clear hlW1_0
  obtain ⟨W1_1, hW1_1⟩ : ∃ W, W = W1_0.alloc (Obj.cells #[Value.bool b.low.neg, Value.string b.low.num, Value.string b.low.den, Value.bool b.high.neg, Value.string b.high.num, Value.string b.high.den] 26) := ⟨_, rfl⟩
  have hb : Below W1_0.heap.size W1_0 W1_1 := by rw [hW1_1]; exact (Below.refl _ _).alloc (Nat.le_refl _) _
  have hzW1_1 : W1_0.heap.size = B1 + 1 := by rw [hW1_0]; simp [hzW1_0]
  have hlW1_1 : IvAt (B1 + 1) b W1_1 := by rw [← hzW1_1, hW1_1]; exact ⟨heap_lastM _ _⟩
  have D2 := Lib.hid (D1.out.trans (hb.mono D1.out.size))
  have a_2 := Lib.hid (a_1.out.bel hb)
  clear D1 a_1
  clear hb
  have b_2 := Lib.hid hlW1_1
  clear hlW1_1
  rw [← hW1_0]
  rw [← hW1_1]
  simp only [← hB1]
  have HW1_0 := Lib.hid hW1_0
  clear hW1_0 hzW1_0
  have HW1_1 := Lib.hid hW1_1
  clear hW1_1 hzW1_1
  have HB1 := Lib.hid hB1
  clear hB1
  refine (head5_any _ (HT.out.below D2.out)).mono ?_
  rintro e v3 ⟨rfl, hb⟩
  have D3 := Lib.hid (D2.out.trans (hb.mono D2.out.size))
  have a_3 := Lib.hid (a_2.out.bel hb)
  have b_3 := Lib.hid (b_2.out.bel hb)
  clear D2 a_2 b_2
  clear hb
  have ac0 := a_3.out.c0
  have ac1 := a_3.out.c1
  have ac2 := a_3.out.c2
  have ac3 := a_3.out.c3
  have ac4 := a_3.out.c4
  have ac5 := a_3.out.c5
  have az := blk_lt a_3.out.cells
  have bc0 := b_3.out.c0
  have bc1 := b_3.out.c1
  have bc2 := b_3.out.c2
  have bc3 := b_3.out.c3
  have bc4 := b_3.out.c4
  have bc5 := b_3.out.c5
  have bz := blk_lt b_3.out.cells
  go_wp2_with fail
  clear ac0 ac1 ac2 ac3 ac4 ac5 az bc0 bc1 bc2 bc3 bc4 bc5 bz
  have h1 : IvsOk (v3.alloc (Obj.cells #[Value.bool a.low.neg, Value.string a.low.num, Value.string a.low.den, Value.bool a.high.neg, Value.string a.high.num, Value.string a.high.den, Value.bool b.low.neg, Value.string b.low.num, Value.string b.low.den, Value.bool b.high.neg, Value.string b.high.num, Value.string b.high.den] 26)) (.slice (some ⟨v3.heap.size, 0, none⟩) 2 2) [a, b] := ivs_2 a b v3 HSa.out HSb.out
  have hx1 : Below v3.heap.size v3 (v3.alloc (Obj.cells #[Value.bool a.low.neg, Value.string a.low.num, Value.string a.low.den, Value.bool a.high.neg, Value.string a.high.num, Value.string a.high.den, Value.bool b.low.neg, Value.string b.low.num, Value.string b.low.den, Value.bool b.high.neg, Value.string b.high.num, Value.string b.high.den] 26)) := (Below.refl _ _).alloc (Nat.le_refl _) _
  have hx := hx1
  refine (few5_any _ _ _ _ _ h1 ⟨.inl ⟨rfl, rfl⟩, by decide, by intro r hr; cases hr⟩).mono ?_
  rintro e vf ⟨rfl, hbf⟩
  have hb := hx.trans (hbf.mono hx.size); clear h1 hx1 hx hbf
  have D4 := Lib.hid (D3.out.trans (hb.mono D3.out.size))
  have a_4 := Lib.hid (a_3.out.bel hb)
  have b_4 := Lib.hid (b_3.out.bel hb)
  clear D3 a_3 b_3
  clear hb
  rcases Bool.eq_false_or_eq_true (fewI [a, b] && fewS []) with hp | hp
  rotate_left
  ·
    simp only [hp]
    go_wp2_with fail
    go_ret
    exact ⟨rfl, D4.out⟩
  simp only [hp]
  have HF := Lib.hid hp; clear hp
  have hf := HF.out; rw [Bool.and_eq_true, fewI_iff, fewS_iff] at hf
  have Za : Hid (SzI a) := Lib.hid (hf.1.2 a (by simp))
  have Zb : Hid (SzI b) := Lib.hid (hf.1.2 b (by simp))
  clear hf
  rcases Bool.eq_false_or_eq_true (okI a && okI b) with ho | ho
  rotate_left
  ·
    have E1 := Lib.hid (bad_val ho).1; have E2 := Lib.hid (bad_val ho).2; clear ho
    have ac0 := a_4.out.c0
    have ac1 := a_4.out.c1
    have ac2 := a_4.out.c2
    have ac3 := a_4.out.c3
    have ac4 := a_4.out.c4
    have ac5 := a_4.out.c5
    have bc0 := b_4.out.c0
    have bc1 := b_4.out.c1
    have bc2 := b_4.out.c2
    have bc3 := b_4.out.c3
    have bc4 := b_4.out.c4
    have bc5 := b_4.out.c5
    go_wp2_with fail
    clear ac0 ac1 ac2 ac3 ac4 ac5 bc0 bc1 bc2 bc3 bc4 bc5
    refine (piadd_any a b _).mono ?_
    rintro e v5 ⟨rfl, hb⟩
    have D5 := Lib.hid (D4.out.trans (hb.mono D4.out.size))
    have a_5 := Lib.hid (a_4.out.bel hb)
    have b_5 := Lib.hid (b_4.out.bel hb)
    clear D4 a_4 b_4
    clear hb
    simp only [E1.out, noI, noRaw]
    have ac0 := a_5.out.c0
    have ac1 := a_5.out.c1
    have ac2 := a_5.out.c2
    have ac3 := a_5.out.c3
    have ac4 := a_5.out.c4
    have ac5 := a_5.out.c5
    have az := blk_lt a_5.out.cells
    have bc0 := b_5.out.c0
    have bc1 := b_5.out.c1
    have bc2 := b_5.out.c2
    have bc3 := b_5.out.c3
    have bc4 := b_5.out.c4
    have bc5 := b_5.out.c5
    have bz := blk_lt b_5.out.cells
    go_wp2_with fail
    clear ac0 ac1 ac2 ac3 ac4 ac5 az bc0 bc1 bc2 bc3 bc4 bc5 bz
    obtain ⟨B2, hB2⟩ : ∃ B, B = v5.heap.size := ⟨_, rfl⟩
    obtain ⟨W2_0, hW2_0⟩ : ∃ W, W = v5.alloc (Obj.cells #[Value.bool false, Value.string ⟨#[]⟩, Value.string ⟨#[]⟩, Value.bool false, Value.string ⟨#[]⟩, Value.string ⟨#[]⟩] 26) := ⟨_, rfl⟩
    have hb : Below v5.heap.size v5 W2_0 := by rw [hW2_0]; exact (Below.refl _ _).alloc (Nat.le_refl _) _
    have hzW2_0 : v5.heap.size = B2 := by rw [hB2]
    have D6 := Lib.hid (D5.out.trans (hb.mono D5.out.size))
    have a_6 := Lib.hid (a_5.out.bel hb)
    have b_6 := Lib.hid (b_5.out.bel hb)
    clear D5 a_5 b_5
    clear hb
    rw [← hW2_0]
    simp only [← hB2]
    have HW2_0 := Lib.hid hW2_0
    clear hW2_0 hzW2_0
    have HB2 := Lib.hid hB2
    clear hB2
    refine (pimul_any a b _).mono ?_
    rintro e v7 ⟨rfl, hb⟩
    have D7 := Lib.hid (D6.out.trans (hb.mono D6.out.size))
    have a_7 := Lib.hid (a_6.out.bel hb)
    have b_7 := Lib.hid (b_6.out.bel hb)
    clear D6 a_6 b_6
    clear hb
    simp only [E2.out, noI, noRaw]
    have nz := run_eql_iv noI; simp only [noI, noRaw] at nz
    go_wp2_with fail
    go_ret
    exact ⟨rfl, D7.out.alloc D7.out.size _⟩
  rw [Bool.and_eq_true] at ho
  obtain ⟨x, y, p, q, r, s, d, e1, e2, e3, e4, m1, m2, m3, m4, m5, m6, l1, l2⟩ := ends_pure ho.1 ho.2 Za.out Zb.out
  clear ho
  obtain ⟨c, hc⟩ : ∃ c : Iv, c = ⟨x, y⟩ := ⟨_, rfl⟩
  rw [← hc] at e3 e4
  obtain rfl : x = c.low := by rw [hc]
  obtain rfl : y = c.high := by rw [hc]
  clear hc
  have E1 := Lib.hid e1; clear e1
  have E2 := Lib.hid e2; clear e2
  have E3 := Lib.hid e3; clear e3
  have E4 := Lib.hid e4; clear e4
  have M1 := Lib.hid m1; clear m1
  have M2 := Lib.hid m2; clear m2
  have M3 := Lib.hid m3; clear m3
  have M4 := Lib.hid m4; clear m4
  have M5 := Lib.hid m5; clear m5
  have M6 := Lib.hid m6; clear m6
  have L1 := Lib.hid l1; clear l1
  have L2 := Lib.hid l2; clear l2
  have ac0 := a_4.out.c0
  have ac1 := a_4.out.c1
  have ac2 := a_4.out.c2
  have ac3 := a_4.out.c3
  have ac4 := a_4.out.c4
  have ac5 := a_4.out.c5
  have bc0 := b_4.out.c0
  have bc1 := b_4.out.c1
  have bc2 := b_4.out.c2
  have bc3 := b_4.out.c3
  have bc4 := b_4.out.c4
  have bc5 := b_4.out.c5
  go_wp2_with fail
  clear ac0 ac1 ac2 ac3 ac4 ac5 bc0 bc1 bc2 bc3 bc4 bc5
  refine (piadd_any a b _).mono ?_
  rintro e v5 ⟨rfl, hb⟩
  have D5 := Lib.hid (D4.out.trans (hb.mono D4.out.size))
  have a_5 := Lib.hid (a_4.out.bel hb)
  have b_5 := Lib.hid (b_4.out.bel hb)
  clear D4 a_4 b_4
  clear hb
  simp only [E3.out]
  have ac0 := a_5.out.c0
  have ac1 := a_5.out.c1
  have ac2 := a_5.out.c2
  have ac3 := a_5.out.c3
  have ac4 := a_5.out.c4
  have ac5 := a_5.out.c5
  have az := blk_lt a_5.out.cells
  have bc0 := b_5.out.c0
  have bc1 := b_5.out.c1
  have bc2 := b_5.out.c2
  have bc3 := b_5.out.c3
  have bc4 := b_5.out.c4
  have bc5 := b_5.out.c5
  have bz := blk_lt b_5.out.cells
  go_wp2_with fail
  clear ac0 ac1 ac2 ac3 ac4 ac5 az bc0 bc1 bc2 bc3 bc4 bc5 bz
  obtain ⟨B2, hB2⟩ : ∃ B, B = v5.heap.size := ⟨_, rfl⟩
  obtain ⟨W2_0, hW2_0⟩ : ∃ W, W = v5.alloc (Obj.cells #[Value.bool c.low.neg, Value.string c.low.num, Value.string c.low.den, Value.bool c.high.neg, Value.string c.high.num, Value.string c.high.den] 26) := ⟨_, rfl⟩
  have hb : Below v5.heap.size v5 W2_0 := by rw [hW2_0]; exact (Below.refl _ _).alloc (Nat.le_refl _) _
  have hzW2_0 : v5.heap.size = B2 := by rw [hB2]
  have hlW2_0 : IvAt (B2) c W2_0 := by rw [← hzW2_0, hW2_0]; exact ⟨heap_lastM _ _⟩
  have D6 := Lib.hid (D5.out.trans (hb.mono D5.out.size))
  have a_6 := Lib.hid (a_5.out.bel hb)
  have b_6 := Lib.hid (b_5.out.bel hb)
  clear D5 a_5 b_5
  clear hb
  have c_6 := Lib.hid hlW2_0
  clear hlW2_0
  rw [← hW2_0]
  simp only [← hB2]
  have HW2_0 := Lib.hid hW2_0
  clear hW2_0 hzW2_0
  have HB2 := Lib.hid hB2
  clear hB2
  refine (pimul_any a b _).mono ?_
  rintro e v7 ⟨rfl, hb⟩
  have D7 := Lib.hid (D6.out.trans (hb.mono D6.out.size))
  have a_7 := Lib.hid (a_6.out.bel hb)
  have b_7 := Lib.hid (b_6.out.bel hb)
  have c_7 := Lib.hid (c_6.out.bel hb)
  clear D6 a_6 b_6 c_6
  clear hb
  simp only [M5.out]
  have ac0 := a_7.out.c0
  have ac1 := a_7.out.c1
  have ac2 := a_7.out.c2
  have ac3 := a_7.out.c3
  have ac4 := a_7.out.c4
  have ac5 := a_7.out.c5
  have az := blk_lt a_7.out.cells
  have bc0 := b_7.out.c0
  have bc1 := b_7.out.c1
  have bc2 := b_7.out.c2
  have bc3 := b_7.out.c3
  have bc4 := b_7.out.c4
  have bc5 := b_7.out.c5
  have bz := blk_lt b_7.out.cells
  go_wp2_with fail
  clear ac0 ac1 ac2 ac3 ac4 ac5 az bc0 bc1 bc2 bc3 bc4 bc5 bz
  obtain ⟨B3, hB3⟩ : ∃ B, B = v7.heap.size := ⟨_, rfl⟩
  obtain ⟨W3_0, hW3_0⟩ : ∃ W, W = v7.alloc (Obj.cells #[Value.bool d.low.neg, Value.string d.low.num, Value.string d.low.den, Value.bool d.high.neg, Value.string d.high.num, Value.string d.high.den] 26) := ⟨_, rfl⟩
  have hb : Below v7.heap.size v7 W3_0 := by rw [hW3_0]; exact (Below.refl _ _).alloc (Nat.le_refl _) _
  have hzW3_0 : v7.heap.size = B3 := by rw [hB3]
  have hlW3_0 : IvAt (B3) d W3_0 := by rw [← hzW3_0, hW3_0]; exact ⟨heap_lastM _ _⟩
  have D8 := Lib.hid (D7.out.trans (hb.mono D7.out.size))
  have a_8 := Lib.hid (a_7.out.bel hb)
  have b_8 := Lib.hid (b_7.out.bel hb)
  have c_8 := Lib.hid (c_7.out.bel hb)
  clear D7 a_7 b_7 c_7
  clear hb
  have d_8 := Lib.hid hlW3_0
  clear hlW3_0
  rw [← hW3_0]
  simp only [← hB3]
  have HW3_0 := Lib.hid hW3_0
  clear hW3_0 hzW3_0
  have HB3 := Lib.hid hB3
  clear hB3
  refine (pratadd_any a.low b.low _).mono ?_
  rintro e v9 ⟨rfl, hb⟩
  have D9 := Lib.hid (D8.out.trans (hb.mono D8.out.size))
  have a_9 := Lib.hid (a_8.out.bel hb)
  have b_9 := Lib.hid (b_8.out.bel hb)
  have c_9 := Lib.hid (c_8.out.bel hb)
  have d_9 := Lib.hid (d_8.out.bel hb)
  clear D8 a_8 b_8 c_8 d_8
  clear hb
  simp only [E1.out]
  have ac0 := a_9.out.c0
  have ac1 := a_9.out.c1
  have ac2 := a_9.out.c2
  have ac3 := a_9.out.c3
  have ac4 := a_9.out.c4
  have ac5 := a_9.out.c5
  have az := blk_lt a_9.out.cells
  have bc0 := b_9.out.c0
  have bc1 := b_9.out.c1
  have bc2 := b_9.out.c2
  have bc3 := b_9.out.c3
  have bc4 := b_9.out.c4
  have bc5 := b_9.out.c5
  have bz := blk_lt b_9.out.cells
  go_wp2_with fail
  clear ac0 ac1 ac2 ac3 ac4 ac5 az bc0 bc1 bc2 bc3 bc4 bc5 bz
  obtain ⟨B4, hB4⟩ : ∃ B, B = v9.heap.size := ⟨_, rfl⟩
  obtain ⟨W4_0, hW4_0⟩ : ∃ W, W = v9.alloc (Obj.cells #[Value.bool c.low.neg, Value.string c.low.num, Value.string c.low.den] 24) := ⟨_, rfl⟩
  have hb : Below v9.heap.size v9 W4_0 := by rw [hW4_0]; exact (Below.refl _ _).alloc (Nat.le_refl _) _
  have hzW4_0 : v9.heap.size = B4 := by rw [hB4]
  have hlW4_0 : RatAt (B4) c.low W4_0 := by rw [← hzW4_0, hW4_0]; exact ⟨heap_lastM _ _⟩
  have D10 := Lib.hid (D9.out.trans (hb.mono D9.out.size))
  have a_10 := Lib.hid (a_9.out.bel hb)
  have b_10 := Lib.hid (b_9.out.bel hb)
  have c_10 := Lib.hid (c_9.out.bel hb)
  have d_10 := Lib.hid (d_9.out.bel hb)
  clear D9 a_9 b_9 c_9 d_9
  clear hb
  have x_10 := Lib.hid hlW4_0
  clear hlW4_0
  rw [← hW4_0]
  simp only [← hB4]
  have HW4_0 := Lib.hid hW4_0
  clear hW4_0 hzW4_0
  have HB4 := Lib.hid hB4
  clear hB4
  refine (pratadd_any a.high b.high _).mono ?_
  rintro e v11 ⟨rfl, hb⟩
  have D11 := Lib.hid (D10.out.trans (hb.mono D10.out.size))
  have a_11 := Lib.hid (a_10.out.bel hb)
  have b_11 := Lib.hid (b_10.out.bel hb)
  have c_11 := Lib.hid (c_10.out.bel hb)
  have d_11 := Lib.hid (d_10.out.bel hb)
  have x_11 := Lib.hid (x_10.out.bel hb)
  clear D10 a_10 b_10 c_10 d_10 x_10
  clear hb
  simp only [E2.out]
  have n1 : ∀ w, (binOp .neq 24 (.agg #[.bool c.low.neg, .string c.low.num, .string c.low.den]) (.agg #[.bool c.low.neg, .string c.low.num, .string c.low.den])).run Tryd.prog w = .ok (.bool false) w := fun w => by rw [run_neq_rat', sameR_iff.2 rfl]; rfl
  have n2 : ∀ w, (binOp .neq 24 (.agg #[.bool c.high.neg, .string c.high.num, .string c.high.den]) (.agg #[.bool c.high.neg, .string c.high.num, .string c.high.den])).run Tryd.prog w = .ok (.bool false) w := fun w => by rw [run_neq_rat', sameR_iff.2 rfl]; rfl
  have cc0 := c_11.out.c0
  have cc1 := c_11.out.c1
  have cc2 := c_11.out.c2
  have cc3 := c_11.out.c3
  have cc4 := c_11.out.c4
  have cc5 := c_11.out.c5
  have cz := blk_lt c_11.out.cells
  have xc0 := x_11.out.c0
  have xc1 := x_11.out.c1
  have xc2 := x_11.out.c2
  have xz := blk_lt x_11.out.cells
  go_wp2_with fail
  clear cc0 cc1 cc2 cc3 cc4 cc5 cz xc0 xc1 xc2 xz
  obtain ⟨B5, hB5⟩ : ∃ B, B = v11.heap.size := ⟨_, rfl⟩
  obtain ⟨W5_0, hW5_0⟩ : ∃ W, W = v11.alloc (Obj.cells #[Value.bool c.high.neg, Value.string c.high.num, Value.string c.high.den] 24) := ⟨_, rfl⟩
  have hb : Below v11.heap.size v11 W5_0 := by rw [hW5_0]; exact (Below.refl _ _).alloc (Nat.le_refl _) _
  have hzW5_0 : v11.heap.size = B5 := by rw [hB5]
  have hlW5_0 : RatAt (B5) c.high W5_0 := by rw [← hzW5_0, hW5_0]; exact ⟨heap_lastM _ _⟩
  have D12 := Lib.hid (D11.out.trans (hb.mono D11.out.size))
  have a_12 := Lib.hid (a_11.out.bel hb)
  have b_12 := Lib.hid (b_11.out.bel hb)
  have c_12 := Lib.hid (c_11.out.bel hb)
  have d_12 := Lib.hid (d_11.out.bel hb)
  have x_12 := Lib.hid (x_11.out.bel hb)
  clear D11 a_11 b_11 c_11 d_11 x_11
  clear hb
  have y_12 := Lib.hid hlW5_0
  clear hlW5_0
  rw [← hW5_0]
  simp only [← hB5]
  have HW5_0 := Lib.hid hW5_0
  clear hW5_0 hzW5_0
  have HB5 := Lib.hid hB5
  clear hB5
  clear n1 n2
  clear x_12
  clear y_12
  clear c_12
  refine (pivalid_any c _).mono ?_
  rintro e v13 ⟨rfl, hb⟩
  have D13 := Lib.hid (D12.out.trans (hb.mono D12.out.size))
  have a_13 := Lib.hid (a_12.out.bel hb)
  have b_13 := Lib.hid (b_12.out.bel hb)
  have d_13 := Lib.hid (d_12.out.bel hb)
  clear D12 a_12 b_12 d_12
  clear hb
  simp only [E4.out]
  have ac0 := a_13.out.c0
  have ac1 := a_13.out.c1
  have ac2 := a_13.out.c2
  have ac3 := a_13.out.c3
  have ac4 := a_13.out.c4
  have ac5 := a_13.out.c5
  have bc0 := b_13.out.c0
  have bc1 := b_13.out.c1
  have bc2 := b_13.out.c2
  have bc3 := b_13.out.c3
  have bc4 := b_13.out.c4
  have bc5 := b_13.out.c5
  have dc0 := d_13.out.c0
  have dc1 := d_13.out.c1
  have dc2 := d_13.out.c2
  have dc3 := d_13.out.c3
  have dc4 := d_13.out.c4
  have dc5 := d_13.out.c5
  go_upto_region 13 with fail
  clear ac0 ac1 ac2 ac3 ac4 ac5 bc0 bc1 bc2 bc3 bc4 bc5 dc0 dc1 dc2 dc3 dc4 dc5
  go_cut [14, 15] (fun s14 s15 wx => ∃ B C : Nat, s14 = .slice (some ⟨B, 0, none⟩) 2 2 ∧ s15 = .slice (some ⟨C, 0, none⟩) 2 2 ∧ Hid (TwoAt B a wx ∧ TwoAt C b wx ∧ Below v13.heap.size v13 wx))
  case first =>
    have ac0 := a_13.out.c0
    have ac1 := a_13.out.c1
    have ac2 := a_13.out.c2
    have ac3 := a_13.out.c3
    have ac4 := a_13.out.c4
    have ac5 := a_13.out.c5
    have az := blk_lt a_13.out.cells
    have bc0 := b_13.out.c0
    have bc1 := b_13.out.c1
    have bc2 := b_13.out.c2
    have bc3 := b_13.out.c3
    have bc4 := b_13.out.c4
    have bc5 := b_13.out.c5
    have bz := blk_lt b_13.out.cells
    go_region
    all_goals (go_wp2_with fail; go_meet)
    · exact ⟨_, _, rfl, rfl, Lib.hid (pair_new v13 a b)⟩
    · exact ⟨_, _, rfl, rfl, Lib.hid ⟨(pair_new v13 b a).2.1, (pair_new v13 b a).1, (pair_new v13 b a).2.2⟩⟩
  case rest =>
    obtain ⟨B, C, rfl, rfl, hcut⟩ := hcut
    have HTA := Lib.hid hcut.out.1; have HTC := Lib.hid hcut.out.2.1; have hb := hcut.out.2.2; clear hcut
    have D14 := Lib.hid (D13.out.trans (hb.mono D13.out.size))
    have a_14 := Lib.hid (a_13.out.bel hb)
    have b_14 := Lib.hid (b_13.out.bel hb)
    have d_14 := Lib.hid (d_13.out.bel hb)
    clear D13 a_13 b_13 d_13
    clear hb
    obtain ⟨wd, hnm⟩ : ∃ x, x = wc := ⟨_, rfl⟩
    subst hnm
    go_wp2_with fail
    go_loopw [16, 17, 18] (fun lo hi i wr => ∃ k : Nat, IdxE k i ∧ lo = .bool (anyB p q r s d.low k) ∧ hi = .bool (anyB p q r s d.high k) ∧ Hid (Below wd.heap.size wd wr)) (fun _ _ i _ => 4 - (intOf i).toNat)
    case atStart => exact ⟨0, .inl ⟨rfl, rfl⟩, rfl, rfl, Lib.hid (Below.refl _ _)⟩
    case round =>
      obtain ⟨k, hk, rfl, rfl, hB⟩ := hrel
      have HA := Lib.hid (HTA.out.bel hB.out); have HC := Lib.hid (HTC.out.bel hB.out)
      have hd := Lib.hid (d_14.out.bel hB.out)
      have DD := Lib.hid (D14.out.trans (hB.out.mono D14.out.size))
      rcases hk with ⟨rfl, rfl⟩ | ⟨rfl, rfl⟩ | ⟨rfl, rfl⟩ | ⟨rfl, rfl⟩ | ⟨rfl, rfl⟩
      ·
        have ca := HA.out.c; have cc := HC.out.c
        obtain ⟨a0, a1, a2, a3, a4, a5⟩ := ca; obtain ⟨c0, c1, c2, c3, c4, c5⟩ := cc
        have qq3 : IntKind.i64.wrap 0 = 0 := by decide
        have qq4 : IntKind.i64.wrap 1 = 1 := by decide
        go_upto_region 18 with fail
        go_cut [19, 20] (fun s19 s20 wx => ∃ R, s19 = .pointer (some ⟨R, 0, none⟩) ∧ s20 = .int .i64 0 ∧ Hid (RatAt R p wx ∧ Below wr.heap.size wr wx))
        case first =>
          have hdr : Below wr.heap.size wr wr.drew := (Below.refl _ _).drew
          have HDR := Lib.hid hdr; clear hdr
          have HB0 : Hid (Below wr.heap.size wr (wr.alloc ratZ).drew) := Lib.hid (((Below.refl _ _).alloc (Nat.le_refl _) _).drew)
          have HZ0 : Hid (RatAt wr.heap.size noRaw (wr.alloc ratZ).drew) := Lib.hid (RatAt.bel ⟨heap_lastM _ _⟩ ((Below.refl _ _).drew))
          go_region_held3 (fun w' => Below wr.heap.size wr w' ∧ w'.cell? ⟨B, 0, none⟩ = some (.bool a.low.neg) ∧ w'.cell? ⟨B, 1, none⟩ = some (.string a.low.num) ∧ w'.cell? ⟨B, 2, none⟩ = some (.string a.low.den) ∧ w'.cell? ⟨B, 3, none⟩ = some (.bool a.high.neg) ∧ w'.cell? ⟨B, 4, none⟩ = some (.string a.high.num) ∧ w'.cell? ⟨B, 5, none⟩ = some (.string a.high.den) ∧ w'.cell? ⟨C, 0, none⟩ = some (.bool b.low.neg) ∧ w'.cell? ⟨C, 1, none⟩ = some (.string b.low.num) ∧ w'.cell? ⟨C, 2, none⟩ = some (.string b.low.den) ∧ w'.cell? ⟨C, 3, none⟩ = some (.bool b.high.neg) ∧ w'.cell? ⟨C, 4, none⟩ = some (.string b.high.num) ∧ w'.cell? ⟨C, 5, none⟩ = some (.string b.high.den)) (first | (with_reducible assumption) | exact keepT HA.out HC.out (HY.out.alloc HY.out.size _) | exact ⟨HDR.out, (HA.out.bel HDR.out).c.1, (HA.out.bel HDR.out).c.2.1, (HA.out.bel HDR.out).c.2.2.1, (HA.out.bel HDR.out).c.2.2.2.1, (HA.out.bel HDR.out).c.2.2.2.2.1, (HA.out.bel HDR.out).c.2.2.2.2.2, (HC.out.bel HDR.out).c.1, (HC.out.bel HDR.out).c.2.1, (HC.out.bel HDR.out).c.2.2.1, (HC.out.bel HDR.out).c.2.2.2.1, (HC.out.bel HDR.out).c.2.2.2.2.1, (HC.out.bel HDR.out).c.2.2.2.2.2⟩ | exact ⟨HB0.out, (HA.out.bel HB0.out).c.1, (HA.out.bel HB0.out).c.2.1, (HA.out.bel HB0.out).c.2.2.1, (HA.out.bel HB0.out).c.2.2.2.1, (HA.out.bel HB0.out).c.2.2.2.2.1, (HA.out.bel HB0.out).c.2.2.2.2.2, (HC.out.bel HB0.out).c.1, (HC.out.bel HB0.out).c.2.1, (HC.out.bel HB0.out).c.2.2.1, (HC.out.bel HB0.out).c.2.2.2.1, (HC.out.bel HB0.out).c.2.2.2.2.1, (HC.out.bel HB0.out).c.2.2.2.2.2⟩ | exact ⟨HY.out, (HA.out.bel HY.out).c.1, (HA.out.bel HY.out).c.2.1, (HA.out.bel HY.out).c.2.2.1, (HA.out.bel HY.out).c.2.2.2.1, (HA.out.bel HY.out).c.2.2.2.2.1, (HA.out.bel HY.out).c.2.2.2.2.2, (HC.out.bel HY.out).c.1, (HC.out.bel HY.out).c.2.1, (HC.out.bel HY.out).c.2.2.1, (HC.out.bel HY.out).c.2.2.2.1, (HC.out.bel HY.out).c.2.2.2.2.1, (HC.out.bel HY.out).c.2.2.2.2.2⟩ | exact keepT HA.out HC.out (((HY.out.setCell (p := ⟨wr.heap.size, 0, none⟩) (Nat.le_refl _) _).setCell (p := ⟨wr.heap.size, 1, none⟩) (Nat.le_refl _) _).setCell (p := ⟨wr.heap.size, 2, none⟩) (Nat.le_refl _) _)) (first | (go_at_call 14; ((with_reducible refine (pratmul_any a.low b.low _).mono ?_); rintro e y1 ⟨rfl, hy⟩; have HY := Lib.hid (HB0.out.trans (hy.mono HB0.out.size)); have HZ1 := Lib.hid (HZ0.out.bel hy); have zc0 := HZ1.out.c0; have zc1 := HZ1.out.c1; have zc2 := HZ1.out.c2; have zf0 := HZ1.out.fz 0; have zf1 := HZ1.out.fz 1; have zf2 := HZ1.out.fz 2; simp only [M1.out])) | (go_at_call 14; ((with_reducible refine (pratmul_any a.low b.low _).mono ?_); rintro e y1 ⟨rfl, hy⟩; have HY := Lib.hid (HDR.out.trans (hy.mono HDR.out.size)); simp only [M1.out])) | fail "no arm")
          all_goals (go_wp2_with fail; go_meet)
          all_goals first | exact ⟨_, rfl, rfl, Lib.hid ⟨HZ1.out.set p, (((HY.out.setCell (p := ⟨wr.heap.size, 0, none⟩) (Nat.le_refl _) _).setCell (p := ⟨wr.heap.size, 1, none⟩) (Nat.le_refl _) _).setCell (p := ⟨wr.heap.size, 2, none⟩) (Nat.le_refl _) _)⟩⟩ | exact ⟨_, rfl, rfl, Lib.hid ⟨⟨heap_lastM _ _⟩, HY.out.alloc HY.out.size _⟩⟩
        case rest =>
          obtain ⟨R, rfl, rfl, hcut⟩ := hcut
          have hrr := Lib.hid hcut.out.1; have HX := Lib.hid hcut.out.2; clear hcut
          have HBN := Lib.hid (hB.out.trans (HX.out.mono hB.out.size))
          have hd2 := Lib.hid (hd.out.bel HX.out)
          have rc0 := hrr.out.c0
          have rc1 := hrr.out.c1
          have rc2 := hrr.out.c2
          have dc0 := hd2.out.c0
          have dc1 := hd2.out.c1
          have dc2 := hd2.out.c2
          have dc3 := hd2.out.c3
          have dc4 := hd2.out.c4
          have dc5 := hd2.out.c5
          have u1 : ∀ w, (binOp .eql 24 (.agg #[.bool p.neg, .string p.num, .string p.den]) (.agg #[.bool d.low.neg, .string d.low.num, .string d.low.den])).run Tryd.prog w = .ok (.bool (sameR p d.low)) w := fun w => run_eql_rat p d.low w
          obtain ⟨xu1, hu1⟩ : ∃ z, z = anyB p q r s d.low 0 := ⟨_, rfl⟩
          have ku1 : Hid (anyB p q r s d.low 1 = (xu1 || sameR p d.low)) := Lib.hid (by rw [hu1]; first | rfl | simp [anyB])
          rw [← hu1]; clear hu1
          have u2 : ∀ w, (binOp .eql 24 (.agg #[.bool p.neg, .string p.num, .string p.den]) (.agg #[.bool d.high.neg, .string d.high.num, .string d.high.den])).run Tryd.prog w = .ok (.bool (sameR p d.high)) w := fun w => run_eql_rat p d.high w
          obtain ⟨xu2, hu2⟩ : ∃ z, z = anyB p q r s d.high 0 := ⟨_, rfl⟩
          have ku2 : Hid (anyB p q r s d.high 1 = (xu2 || sameR p d.high)) := Lib.hid (by rw [hu2]; first | rfl | simp [anyB])
          rw [← hu2]; clear hu2
          generalize sameR p d.low = z1 at *
          generalize sameR p d.high = z2 at *
          cases xu1 <;> cases xu2
          all_goals (go_wp2_with fail; go_roundw)
          all_goals first | exact ⟨1, .inr (.inl ⟨rfl, rfl⟩), by rw [ku1.out]; first | rfl | simp, by rw [ku2.out]; first | rfl | simp, HBN⟩ | (simp [intOf]; done)
      ·
        have ca := HA.out.c; have cc := HC.out.c
        obtain ⟨a0, a1, a2, a3, a4, a5⟩ := ca; obtain ⟨c0, c1, c2, c3, c4, c5⟩ := cc
        have qq3 : IntKind.i64.wrap 0 = 0 := by decide
        have qq4 : IntKind.i64.wrap 1 = 1 := by decide
        go_upto_region 18 with fail
        go_cut [19, 20] (fun s19 s20 wx => ∃ R, s19 = .pointer (some ⟨R, 0, none⟩) ∧ s20 = .int .i64 0 ∧ Hid (RatAt R q wx ∧ Below wr.heap.size wr wx))
        case first =>
          have hdr : Below wr.heap.size wr wr.drew := (Below.refl _ _).drew
          have HDR := Lib.hid hdr; clear hdr
          have HB0 : Hid (Below wr.heap.size wr (wr.alloc ratZ).drew) := Lib.hid (((Below.refl _ _).alloc (Nat.le_refl _) _).drew)
          have HZ0 : Hid (RatAt wr.heap.size noRaw (wr.alloc ratZ).drew) := Lib.hid (RatAt.bel ⟨heap_lastM _ _⟩ ((Below.refl _ _).drew))
          go_region_held3 (fun w' => Below wr.heap.size wr w' ∧ w'.cell? ⟨B, 0, none⟩ = some (.bool a.low.neg) ∧ w'.cell? ⟨B, 1, none⟩ = some (.string a.low.num) ∧ w'.cell? ⟨B, 2, none⟩ = some (.string a.low.den) ∧ w'.cell? ⟨B, 3, none⟩ = some (.bool a.high.neg) ∧ w'.cell? ⟨B, 4, none⟩ = some (.string a.high.num) ∧ w'.cell? ⟨B, 5, none⟩ = some (.string a.high.den) ∧ w'.cell? ⟨C, 0, none⟩ = some (.bool b.low.neg) ∧ w'.cell? ⟨C, 1, none⟩ = some (.string b.low.num) ∧ w'.cell? ⟨C, 2, none⟩ = some (.string b.low.den) ∧ w'.cell? ⟨C, 3, none⟩ = some (.bool b.high.neg) ∧ w'.cell? ⟨C, 4, none⟩ = some (.string b.high.num) ∧ w'.cell? ⟨C, 5, none⟩ = some (.string b.high.den)) (first | (with_reducible assumption) | exact keepT HA.out HC.out (HY.out.alloc HY.out.size _) | exact ⟨HDR.out, (HA.out.bel HDR.out).c.1, (HA.out.bel HDR.out).c.2.1, (HA.out.bel HDR.out).c.2.2.1, (HA.out.bel HDR.out).c.2.2.2.1, (HA.out.bel HDR.out).c.2.2.2.2.1, (HA.out.bel HDR.out).c.2.2.2.2.2, (HC.out.bel HDR.out).c.1, (HC.out.bel HDR.out).c.2.1, (HC.out.bel HDR.out).c.2.2.1, (HC.out.bel HDR.out).c.2.2.2.1, (HC.out.bel HDR.out).c.2.2.2.2.1, (HC.out.bel HDR.out).c.2.2.2.2.2⟩ | exact ⟨HB0.out, (HA.out.bel HB0.out).c.1, (HA.out.bel HB0.out).c.2.1, (HA.out.bel HB0.out).c.2.2.1, (HA.out.bel HB0.out).c.2.2.2.1, (HA.out.bel HB0.out).c.2.2.2.2.1, (HA.out.bel HB0.out).c.2.2.2.2.2, (HC.out.bel HB0.out).c.1, (HC.out.bel HB0.out).c.2.1, (HC.out.bel HB0.out).c.2.2.1, (HC.out.bel HB0.out).c.2.2.2.1, (HC.out.bel HB0.out).c.2.2.2.2.1, (HC.out.bel HB0.out).c.2.2.2.2.2⟩ | exact ⟨HY.out, (HA.out.bel HY.out).c.1, (HA.out.bel HY.out).c.2.1, (HA.out.bel HY.out).c.2.2.1, (HA.out.bel HY.out).c.2.2.2.1, (HA.out.bel HY.out).c.2.2.2.2.1, (HA.out.bel HY.out).c.2.2.2.2.2, (HC.out.bel HY.out).c.1, (HC.out.bel HY.out).c.2.1, (HC.out.bel HY.out).c.2.2.1, (HC.out.bel HY.out).c.2.2.2.1, (HC.out.bel HY.out).c.2.2.2.2.1, (HC.out.bel HY.out).c.2.2.2.2.2⟩ | exact keepT HA.out HC.out (((HY.out.setCell (p := ⟨wr.heap.size, 0, none⟩) (Nat.le_refl _) _).setCell (p := ⟨wr.heap.size, 1, none⟩) (Nat.le_refl _) _).setCell (p := ⟨wr.heap.size, 2, none⟩) (Nat.le_refl _) _)) (first | (go_at_call 14; ((with_reducible refine (pratmul_any a.low b.high _).mono ?_); rintro e y1 ⟨rfl, hy⟩; have HY := Lib.hid (HB0.out.trans (hy.mono HB0.out.size)); have HZ1 := Lib.hid (HZ0.out.bel hy); have zc0 := HZ1.out.c0; have zc1 := HZ1.out.c1; have zc2 := HZ1.out.c2; have zf0 := HZ1.out.fz 0; have zf1 := HZ1.out.fz 1; have zf2 := HZ1.out.fz 2; simp only [M2.out])) | (go_at_call 14; ((with_reducible refine (pratmul_any a.low b.high _).mono ?_); rintro e y1 ⟨rfl, hy⟩; have HY := Lib.hid (HDR.out.trans (hy.mono HDR.out.size)); simp only [M2.out])) | fail "no arm")
          all_goals (go_wp2_with fail; go_meet)
          all_goals first | exact ⟨_, rfl, rfl, Lib.hid ⟨HZ1.out.set q, (((HY.out.setCell (p := ⟨wr.heap.size, 0, none⟩) (Nat.le_refl _) _).setCell (p := ⟨wr.heap.size, 1, none⟩) (Nat.le_refl _) _).setCell (p := ⟨wr.heap.size, 2, none⟩) (Nat.le_refl _) _)⟩⟩ | exact ⟨_, rfl, rfl, Lib.hid ⟨⟨heap_lastM _ _⟩, HY.out.alloc HY.out.size _⟩⟩
        case rest =>
          obtain ⟨R, rfl, rfl, hcut⟩ := hcut
          have hrr := Lib.hid hcut.out.1; have HX := Lib.hid hcut.out.2; clear hcut
          have HBN := Lib.hid (hB.out.trans (HX.out.mono hB.out.size))
          have hd2 := Lib.hid (hd.out.bel HX.out)
          have rc0 := hrr.out.c0
          have rc1 := hrr.out.c1
          have rc2 := hrr.out.c2
          have dc0 := hd2.out.c0
          have dc1 := hd2.out.c1
          have dc2 := hd2.out.c2
          have dc3 := hd2.out.c3
          have dc4 := hd2.out.c4
          have dc5 := hd2.out.c5
          have u1 : ∀ w, (binOp .eql 24 (.agg #[.bool q.neg, .string q.num, .string q.den]) (.agg #[.bool d.low.neg, .string d.low.num, .string d.low.den])).run Tryd.prog w = .ok (.bool (sameR q d.low)) w := fun w => run_eql_rat q d.low w
          obtain ⟨xu1, hu1⟩ : ∃ z, z = anyB p q r s d.low 1 := ⟨_, rfl⟩
          have ku1 : Hid (anyB p q r s d.low 2 = (xu1 || sameR q d.low)) := Lib.hid (by rw [hu1]; first | rfl | simp [anyB])
          rw [← hu1]; clear hu1
          have u2 : ∀ w, (binOp .eql 24 (.agg #[.bool q.neg, .string q.num, .string q.den]) (.agg #[.bool d.high.neg, .string d.high.num, .string d.high.den])).run Tryd.prog w = .ok (.bool (sameR q d.high)) w := fun w => run_eql_rat q d.high w
          obtain ⟨xu2, hu2⟩ : ∃ z, z = anyB p q r s d.high 1 := ⟨_, rfl⟩
          have ku2 : Hid (anyB p q r s d.high 2 = (xu2 || sameR q d.high)) := Lib.hid (by rw [hu2]; first | rfl | simp [anyB])
          rw [← hu2]; clear hu2
          generalize sameR q d.low = z1 at *
          generalize sameR q d.high = z2 at *
          cases xu1 <;> cases xu2
          all_goals (go_wp2_with fail; go_roundw)
          all_goals first | exact ⟨2, .inr (.inr (.inl ⟨rfl, rfl⟩)), by rw [ku1.out]; first | rfl | simp, by rw [ku2.out]; first | rfl | simp, HBN⟩ | (simp [intOf]; done)
      ·
        have ca := HA.out.c; have cc := HC.out.c
        obtain ⟨a0, a1, a2, a3, a4, a5⟩ := ca; obtain ⟨c0, c1, c2, c3, c4, c5⟩ := cc
        have qq3 : IntKind.i64.wrap 0 = 0 := by decide
        have qq4 : IntKind.i64.wrap 1 = 1 := by decide
        go_upto_region 18 with fail
        go_cut [19, 20] (fun s19 s20 wx => ∃ R, s19 = .pointer (some ⟨R, 0, none⟩) ∧ s20 = .int .i64 0 ∧ Hid (RatAt R r wx ∧ Below wr.heap.size wr wx))
        case first =>
          have hdr : Below wr.heap.size wr wr.drew := (Below.refl _ _).drew
          have HDR := Lib.hid hdr; clear hdr
          have HB0 : Hid (Below wr.heap.size wr (wr.alloc ratZ).drew) := Lib.hid (((Below.refl _ _).alloc (Nat.le_refl _) _).drew)
          have HZ0 : Hid (RatAt wr.heap.size noRaw (wr.alloc ratZ).drew) := Lib.hid (RatAt.bel ⟨heap_lastM _ _⟩ ((Below.refl _ _).drew))
          go_region_held3 (fun w' => Below wr.heap.size wr w' ∧ w'.cell? ⟨B, 0, none⟩ = some (.bool a.low.neg) ∧ w'.cell? ⟨B, 1, none⟩ = some (.string a.low.num) ∧ w'.cell? ⟨B, 2, none⟩ = some (.string a.low.den) ∧ w'.cell? ⟨B, 3, none⟩ = some (.bool a.high.neg) ∧ w'.cell? ⟨B, 4, none⟩ = some (.string a.high.num) ∧ w'.cell? ⟨B, 5, none⟩ = some (.string a.high.den) ∧ w'.cell? ⟨C, 0, none⟩ = some (.bool b.low.neg) ∧ w'.cell? ⟨C, 1, none⟩ = some (.string b.low.num) ∧ w'.cell? ⟨C, 2, none⟩ = some (.string b.low.den) ∧ w'.cell? ⟨C, 3, none⟩ = some (.bool b.high.neg) ∧ w'.cell? ⟨C, 4, none⟩ = some (.string b.high.num) ∧ w'.cell? ⟨C, 5, none⟩ = some (.string b.high.den)) (first | (with_reducible assumption) | exact keepT HA.out HC.out (HY.out.alloc HY.out.size _) | exact ⟨HDR.out, (HA.out.bel HDR.out).c.1, (HA.out.bel HDR.out).c.2.1, (HA.out.bel HDR.out).c.2.2.1, (HA.out.bel HDR.out).c.2.2.2.1, (HA.out.bel HDR.out).c.2.2.2.2.1, (HA.out.bel HDR.out).c.2.2.2.2.2, (HC.out.bel HDR.out).c.1, (HC.out.bel HDR.out).c.2.1, (HC.out.bel HDR.out).c.2.2.1, (HC.out.bel HDR.out).c.2.2.2.1, (HC.out.bel HDR.out).c.2.2.2.2.1, (HC.out.bel HDR.out).c.2.2.2.2.2⟩ | exact ⟨HB0.out, (HA.out.bel HB0.out).c.1, (HA.out.bel HB0.out).c.2.1, (HA.out.bel HB0.out).c.2.2.1, (HA.out.bel HB0.out).c.2.2.2.1, (HA.out.bel HB0.out).c.2.2.2.2.1, (HA.out.bel HB0.out).c.2.2.2.2.2, (HC.out.bel HB0.out).c.1, (HC.out.bel HB0.out).c.2.1, (HC.out.bel HB0.out).c.2.2.1, (HC.out.bel HB0.out).c.2.2.2.1, (HC.out.bel HB0.out).c.2.2.2.2.1, (HC.out.bel HB0.out).c.2.2.2.2.2⟩ | exact ⟨HY.out, (HA.out.bel HY.out).c.1, (HA.out.bel HY.out).c.2.1, (HA.out.bel HY.out).c.2.2.1, (HA.out.bel HY.out).c.2.2.2.1, (HA.out.bel HY.out).c.2.2.2.2.1, (HA.out.bel HY.out).c.2.2.2.2.2, (HC.out.bel HY.out).c.1, (HC.out.bel HY.out).c.2.1, (HC.out.bel HY.out).c.2.2.1, (HC.out.bel HY.out).c.2.2.2.1, (HC.out.bel HY.out).c.2.2.2.2.1, (HC.out.bel HY.out).c.2.2.2.2.2⟩ | exact keepT HA.out HC.out (((HY.out.setCell (p := ⟨wr.heap.size, 0, none⟩) (Nat.le_refl _) _).setCell (p := ⟨wr.heap.size, 1, none⟩) (Nat.le_refl _) _).setCell (p := ⟨wr.heap.size, 2, none⟩) (Nat.le_refl _) _)) (first | (go_at_call 14; ((with_reducible refine (pratmul_any a.high b.low _).mono ?_); rintro e y1 ⟨rfl, hy⟩; have HY := Lib.hid (HB0.out.trans (hy.mono HB0.out.size)); have HZ1 := Lib.hid (HZ0.out.bel hy); have zc0 := HZ1.out.c0; have zc1 := HZ1.out.c1; have zc2 := HZ1.out.c2; have zf0 := HZ1.out.fz 0; have zf1 := HZ1.out.fz 1; have zf2 := HZ1.out.fz 2; simp only [M3.out])) | (go_at_call 14; ((with_reducible refine (pratmul_any a.high b.low _).mono ?_); rintro e y1 ⟨rfl, hy⟩; have HY := Lib.hid (HDR.out.trans (hy.mono HDR.out.size)); simp only [M3.out])) | fail "no arm")
          all_goals (go_wp2_with fail; go_meet)
          all_goals first | exact ⟨_, rfl, rfl, Lib.hid ⟨HZ1.out.set r, (((HY.out.setCell (p := ⟨wr.heap.size, 0, none⟩) (Nat.le_refl _) _).setCell (p := ⟨wr.heap.size, 1, none⟩) (Nat.le_refl _) _).setCell (p := ⟨wr.heap.size, 2, none⟩) (Nat.le_refl _) _)⟩⟩ | exact ⟨_, rfl, rfl, Lib.hid ⟨⟨heap_lastM _ _⟩, HY.out.alloc HY.out.size _⟩⟩
        case rest =>
          obtain ⟨R, rfl, rfl, hcut⟩ := hcut
          have hrr := Lib.hid hcut.out.1; have HX := Lib.hid hcut.out.2; clear hcut
          have HBN := Lib.hid (hB.out.trans (HX.out.mono hB.out.size))
          have hd2 := Lib.hid (hd.out.bel HX.out)
          have rc0 := hrr.out.c0
          have rc1 := hrr.out.c1
          have rc2 := hrr.out.c2
          have dc0 := hd2.out.c0
          have dc1 := hd2.out.c1
          have dc2 := hd2.out.c2
          have dc3 := hd2.out.c3
          have dc4 := hd2.out.c4
          have dc5 := hd2.out.c5
          have u1 : ∀ w, (binOp .eql 24 (.agg #[.bool r.neg, .string r.num, .string r.den]) (.agg #[.bool d.low.neg, .string d.low.num, .string d.low.den])).run Tryd.prog w = .ok (.bool (sameR r d.low)) w := fun w => run_eql_rat r d.low w
          obtain ⟨xu1, hu1⟩ : ∃ z, z = anyB p q r s d.low 2 := ⟨_, rfl⟩
          have ku1 : Hid (anyB p q r s d.low 3 = (xu1 || sameR r d.low)) := Lib.hid (by rw [hu1]; first | rfl | simp [anyB])
          rw [← hu1]; clear hu1
          have u2 : ∀ w, (binOp .eql 24 (.agg #[.bool r.neg, .string r.num, .string r.den]) (.agg #[.bool d.high.neg, .string d.high.num, .string d.high.den])).run Tryd.prog w = .ok (.bool (sameR r d.high)) w := fun w => run_eql_rat r d.high w
          obtain ⟨xu2, hu2⟩ : ∃ z, z = anyB p q r s d.high 2 := ⟨_, rfl⟩
          have ku2 : Hid (anyB p q r s d.high 3 = (xu2 || sameR r d.high)) := Lib.hid (by rw [hu2]; first | rfl | simp [anyB])
          rw [← hu2]; clear hu2
          generalize sameR r d.low = z1 at *
          generalize sameR r d.high = z2 at *
          cases xu1 <;> cases xu2
          all_goals (go_wp2_with fail; go_roundw)
          all_goals first | exact ⟨3, .inr (.inr (.inr (.inl ⟨rfl, rfl⟩))), by rw [ku1.out]; first | rfl | simp, by rw [ku2.out]; first | rfl | simp, HBN⟩ | (simp [intOf]; done)
      ·
        have ca := HA.out.c; have cc := HC.out.c
        obtain ⟨a0, a1, a2, a3, a4, a5⟩ := ca; obtain ⟨c0, c1, c2, c3, c4, c5⟩ := cc
        have qq3 : IntKind.i64.wrap 0 = 0 := by decide
        have qq4 : IntKind.i64.wrap 1 = 1 := by decide
        go_upto_region 18 with fail
        go_cut [19, 20] (fun s19 s20 wx => ∃ R, s19 = .pointer (some ⟨R, 0, none⟩) ∧ s20 = .int .i64 0 ∧ Hid (RatAt R s wx ∧ Below wr.heap.size wr wx))
        case first =>
          have hdr : Below wr.heap.size wr wr.drew := (Below.refl _ _).drew
          have HDR := Lib.hid hdr; clear hdr
          have HB0 : Hid (Below wr.heap.size wr (wr.alloc ratZ).drew) := Lib.hid (((Below.refl _ _).alloc (Nat.le_refl _) _).drew)
          have HZ0 : Hid (RatAt wr.heap.size noRaw (wr.alloc ratZ).drew) := Lib.hid (RatAt.bel ⟨heap_lastM _ _⟩ ((Below.refl _ _).drew))
          go_region_held3 (fun w' => Below wr.heap.size wr w' ∧ w'.cell? ⟨B, 0, none⟩ = some (.bool a.low.neg) ∧ w'.cell? ⟨B, 1, none⟩ = some (.string a.low.num) ∧ w'.cell? ⟨B, 2, none⟩ = some (.string a.low.den) ∧ w'.cell? ⟨B, 3, none⟩ = some (.bool a.high.neg) ∧ w'.cell? ⟨B, 4, none⟩ = some (.string a.high.num) ∧ w'.cell? ⟨B, 5, none⟩ = some (.string a.high.den) ∧ w'.cell? ⟨C, 0, none⟩ = some (.bool b.low.neg) ∧ w'.cell? ⟨C, 1, none⟩ = some (.string b.low.num) ∧ w'.cell? ⟨C, 2, none⟩ = some (.string b.low.den) ∧ w'.cell? ⟨C, 3, none⟩ = some (.bool b.high.neg) ∧ w'.cell? ⟨C, 4, none⟩ = some (.string b.high.num) ∧ w'.cell? ⟨C, 5, none⟩ = some (.string b.high.den)) (first | (with_reducible assumption) | exact keepT HA.out HC.out (HY.out.alloc HY.out.size _) | exact ⟨HDR.out, (HA.out.bel HDR.out).c.1, (HA.out.bel HDR.out).c.2.1, (HA.out.bel HDR.out).c.2.2.1, (HA.out.bel HDR.out).c.2.2.2.1, (HA.out.bel HDR.out).c.2.2.2.2.1, (HA.out.bel HDR.out).c.2.2.2.2.2, (HC.out.bel HDR.out).c.1, (HC.out.bel HDR.out).c.2.1, (HC.out.bel HDR.out).c.2.2.1, (HC.out.bel HDR.out).c.2.2.2.1, (HC.out.bel HDR.out).c.2.2.2.2.1, (HC.out.bel HDR.out).c.2.2.2.2.2⟩ | exact ⟨HB0.out, (HA.out.bel HB0.out).c.1, (HA.out.bel HB0.out).c.2.1, (HA.out.bel HB0.out).c.2.2.1, (HA.out.bel HB0.out).c.2.2.2.1, (HA.out.bel HB0.out).c.2.2.2.2.1, (HA.out.bel HB0.out).c.2.2.2.2.2, (HC.out.bel HB0.out).c.1, (HC.out.bel HB0.out).c.2.1, (HC.out.bel HB0.out).c.2.2.1, (HC.out.bel HB0.out).c.2.2.2.1, (HC.out.bel HB0.out).c.2.2.2.2.1, (HC.out.bel HB0.out).c.2.2.2.2.2⟩ | exact ⟨HY.out, (HA.out.bel HY.out).c.1, (HA.out.bel HY.out).c.2.1, (HA.out.bel HY.out).c.2.2.1, (HA.out.bel HY.out).c.2.2.2.1, (HA.out.bel HY.out).c.2.2.2.2.1, (HA.out.bel HY.out).c.2.2.2.2.2, (HC.out.bel HY.out).c.1, (HC.out.bel HY.out).c.2.1, (HC.out.bel HY.out).c.2.2.1, (HC.out.bel HY.out).c.2.2.2.1, (HC.out.bel HY.out).c.2.2.2.2.1, (HC.out.bel HY.out).c.2.2.2.2.2⟩ | exact keepT HA.out HC.out (((HY.out.setCell (p := ⟨wr.heap.size, 0, none⟩) (Nat.le_refl _) _).setCell (p := ⟨wr.heap.size, 1, none⟩) (Nat.le_refl _) _).setCell (p := ⟨wr.heap.size, 2, none⟩) (Nat.le_refl _) _)) (first | (go_at_call 14; ((with_reducible refine (pratmul_any a.high b.high _).mono ?_); rintro e y1 ⟨rfl, hy⟩; have HY := Lib.hid (HB0.out.trans (hy.mono HB0.out.size)); have HZ1 := Lib.hid (HZ0.out.bel hy); have zc0 := HZ1.out.c0; have zc1 := HZ1.out.c1; have zc2 := HZ1.out.c2; have zf0 := HZ1.out.fz 0; have zf1 := HZ1.out.fz 1; have zf2 := HZ1.out.fz 2; simp only [M4.out])) | (go_at_call 14; ((with_reducible refine (pratmul_any a.high b.high _).mono ?_); rintro e y1 ⟨rfl, hy⟩; have HY := Lib.hid (HDR.out.trans (hy.mono HDR.out.size)); simp only [M4.out])) | fail "no arm")
          all_goals (go_wp2_with fail; go_meet)
          all_goals first | exact ⟨_, rfl, rfl, Lib.hid ⟨HZ1.out.set s, (((HY.out.setCell (p := ⟨wr.heap.size, 0, none⟩) (Nat.le_refl _) _).setCell (p := ⟨wr.heap.size, 1, none⟩) (Nat.le_refl _) _).setCell (p := ⟨wr.heap.size, 2, none⟩) (Nat.le_refl _) _)⟩⟩ | exact ⟨_, rfl, rfl, Lib.hid ⟨⟨heap_lastM _ _⟩, HY.out.alloc HY.out.size _⟩⟩
        case rest =>
          obtain ⟨R, rfl, rfl, hcut⟩ := hcut
          have hrr := Lib.hid hcut.out.1; have HX := Lib.hid hcut.out.2; clear hcut
          have HBN := Lib.hid (hB.out.trans (HX.out.mono hB.out.size))
          have hd2 := Lib.hid (hd.out.bel HX.out)
          have rc0 := hrr.out.c0
          have rc1 := hrr.out.c1
          have rc2 := hrr.out.c2
          have dc0 := hd2.out.c0
          have dc1 := hd2.out.c1
          have dc2 := hd2.out.c2
          have dc3 := hd2.out.c3
          have dc4 := hd2.out.c4
          have dc5 := hd2.out.c5
          have u1 : ∀ w, (binOp .eql 24 (.agg #[.bool s.neg, .string s.num, .string s.den]) (.agg #[.bool d.low.neg, .string d.low.num, .string d.low.den])).run Tryd.prog w = .ok (.bool (sameR s d.low)) w := fun w => run_eql_rat s d.low w
          obtain ⟨xu1, hu1⟩ : ∃ z, z = anyB p q r s d.low 3 := ⟨_, rfl⟩
          have ku1 : Hid (anyB p q r s d.low 4 = (xu1 || sameR s d.low)) := Lib.hid (by rw [hu1]; first | rfl | simp [anyB])
          rw [← hu1]; clear hu1
          have u2 : ∀ w, (binOp .eql 24 (.agg #[.bool s.neg, .string s.num, .string s.den]) (.agg #[.bool d.high.neg, .string d.high.num, .string d.high.den])).run Tryd.prog w = .ok (.bool (sameR s d.high)) w := fun w => run_eql_rat s d.high w
          obtain ⟨xu2, hu2⟩ : ∃ z, z = anyB p q r s d.high 3 := ⟨_, rfl⟩
          have ku2 : Hid (anyB p q r s d.high 4 = (xu2 || sameR s d.high)) := Lib.hid (by rw [hu2]; first | rfl | simp [anyB])
          rw [← hu2]; clear hu2
          generalize sameR s d.low = z1 at *
          generalize sameR s d.high = z2 at *
          cases xu1 <;> cases xu2
          all_goals (go_wp2_with fail; go_roundw)
          all_goals first | exact ⟨4, .inr (.inr (.inr (.inr (⟨rfl, rfl⟩)))), by rw [ku1.out]; first | rfl | simp, by rw [ku2.out]; first | rfl | simp, HBN⟩ | (simp [intOf]; done)
      ·
        have t1 := anyB_all L1.out; have t2 := anyB_all L2.out
        simp only [t1, t2]; clear t1 t2
        have dc0 := hd.out.c0
        have dc1 := hd.out.c1
        have dc2 := hd.out.c2
        have dc3 := hd.out.c3
        have dc4 := hd.out.c4
        have dc5 := hd.out.c5
        go_wp2_with fail
        refine (pivalid_any d _).mono ?_
        rintro e v9 ⟨rfl, hb⟩
        rw [M6.out]
        have DE := Lib.hid (DD.out.trans (hb.mono DD.out.size)); clear hb
        go_wp2_with fail
        go_ret
        exact ⟨rfl, DE.out⟩
end Go.Proofs.YtbcoblpnihdhgaaDoor
