/-
  The check of the chapter's examples in the statements of layer 5: it returns true.
-/
import Derived.Test.YtbcoblpnihdhgaaDoorIvFew
import Derived.Test.YtbcoblpnihdhgaaDoorIvProg
import Derived.Test.YtbcoblpnihdhgaaDoorIvX
set_option linter.unusedVariables false
set_option maxRecDepth 100000
namespace Go.Proofs.YtbcoblpnihdhgaaDoor
open Go.RowKit
open Rt
theorem run_eql_iv (i : Iv) (w : World) : (binOp .eql 26 (.agg #[.bool i.low.neg, .string i.low.num, .string i.low.den, .bool i.high.neg, .string i.high.num, .string i.high.den]) (.agg #[.bool i.low.neg, .string i.low.num, .string i.low.den, .bool i.high.neg, .string i.high.num, .string i.high.den])).run Tryd.prog w = .ok (.bool true) w := by
  simp [go_sem, run_eql_struct, Program.fieldsOf]
theorem run_neq_iv (i : Iv) (w : World) : (binOp .neq 26 (.agg #[.bool i.low.neg, .string i.low.num, .string i.low.den, .bool i.high.neg, .string i.high.num, .string i.high.den]) (.agg #[.bool i.low.neg, .string i.low.num, .string i.low.den, .bool i.high.neg, .string i.high.num, .string i.high.den])).run Tryd.prog w = .ok (.bool false) w := by
  simp [go_sem, run_neq_struct, Program.fieldsOf]
theorem piof_iv (a b c d : Int) (w : World) (ha : -9223372036854775808 ≤ a ∧ a ≤ 9223372036854775807) (hb : -9223372036854775808 ≤ b ∧ b ≤ 9223372036854775807) (hc : -9223372036854775808 ≤ c ∧ c ≤ 9223372036854775807) (hd : -9223372036854775808 ≤ d ∧ d ≤ 9223372036854775807) (ht : TabOk w) :
    Calls Tryd.prog 18 #[.int .i64 a, .int .i64 b, .int .i64 c, .int .i64 d] w (GivesV (iv a b c d) w) := piof_any a b c d w ha hb hc hd ht
theorem big_iv {a b c d : Int} (ha : -9223372036854775808 ≤ a ∧ a ≤ 9223372036854775807) (hb : -9223372036854775808 ≤ b ∧ b ≤ 9223372036854775807) (hc : -9223372036854775808 ≤ c ∧ c ≤ 9223372036854775807) (hd : -9223372036854775808 ≤ d ∧ d ≤ 9223372036854775807) (h : b ≠ 0) (h' : d ≠ 0) : BigI (iv a b c d) := by
  unfold iv
  rw [ofE_val h, ofE_val h']
  have k1 := ofQ_in ha hb h
  have k2 := ofQ_in hc hd h'
  have le : 19 ≤ maxLen := by decide
  exact ⟨⟨Nat.le_trans ((nS_size (by decide)).2 k1.2.1) le, Nat.le_trans ((nS_size (by decide)).2 k1.2.2) le⟩, ⟨Nat.le_trans ((nS_size (by decide)).2 k2.2.1) le, Nat.le_trans ((nS_size (by decide)).2 k2.2.2) le⟩⟩
theorem ivs_1 (a : Iv) (w : World) (ha : BigI a) : IvsOk (w.alloc (Obj.cells #[Value.bool a.low.neg, Value.string a.low.num, Value.string a.low.den, Value.bool a.high.neg, Value.string a.high.num, Value.string a.high.den] 26)) (.slice (some ⟨w.heap.size, 0, none⟩) 1 1) [a] := by
  refine ⟨.inr ⟨by simp, w.heap.size, 0, 1, rfl, by simp, (show 1 ≤ maxLen by decide), ?_⟩, (show 1 ≤ maxLen by decide), ?_⟩
  · intro j hj k hk
    match j, hj with
    | 0, _ => match k, hk with
      | 0, _ => simp [ivCells]
      | 1, _ => simp [ivCells]
      | 2, _ => simp [ivCells]
      | 3, _ => simp [ivCells]
      | 4, _ => simp [ivCells]
      | 5, _ => simp [ivCells]
  · intro i hi; simp only [List.mem_cons, List.not_mem_nil, or_false] at hi; rcases hi with rfl <;> assumption
theorem ivs_2 (a b : Iv) (w : World) (ha : BigI a) (hb : BigI b) : IvsOk (w.alloc (Obj.cells #[Value.bool a.low.neg, Value.string a.low.num, Value.string a.low.den, Value.bool a.high.neg, Value.string a.high.num, Value.string a.high.den, Value.bool b.low.neg, Value.string b.low.num, Value.string b.low.den, Value.bool b.high.neg, Value.string b.high.num, Value.string b.high.den] 26)) (.slice (some ⟨w.heap.size, 0, none⟩) 2 2) [a, b] := by
  refine ⟨.inr ⟨by simp, w.heap.size, 0, 2, rfl, by simp, (show 2 ≤ maxLen by decide), ?_⟩, (show 2 ≤ maxLen by decide), ?_⟩
  · intro j hj k hk
    match j, hj with
    | 0, _ => match k, hk with
      | 0, _ => simp [ivCells]
      | 1, _ => simp [ivCells]
      | 2, _ => simp [ivCells]
      | 3, _ => simp [ivCells]
      | 4, _ => simp [ivCells]
      | 5, _ => simp [ivCells]
    | 1, _ => match k, hk with
      | 0, _ => simp [ivCells]
      | 1, _ => simp [ivCells]
      | 2, _ => simp [ivCells]
      | 3, _ => simp [ivCells]
      | 4, _ => simp [ivCells]
      | 5, _ => simp [ivCells]
  · intro i hi; simp only [List.mem_cons, List.not_mem_nil, or_false] at hi; rcases hi with rfl | rfl <;> assumption
theorem ivs_3 (a b c : Iv) (w : World) (ha : BigI a) (hb : BigI b) (hc : BigI c) : IvsOk (w.alloc (Obj.cells #[Value.bool a.low.neg, Value.string a.low.num, Value.string a.low.den, Value.bool a.high.neg, Value.string a.high.num, Value.string a.high.den, Value.bool b.low.neg, Value.string b.low.num, Value.string b.low.den, Value.bool b.high.neg, Value.string b.high.num, Value.string b.high.den, Value.bool c.low.neg, Value.string c.low.num, Value.string c.low.den, Value.bool c.high.neg, Value.string c.high.num, Value.string c.high.den] 26)) (.slice (some ⟨w.heap.size, 0, none⟩) 3 3) [a, b, c] := by
  refine ⟨.inr ⟨by simp, w.heap.size, 0, 3, rfl, by simp, (show 3 ≤ maxLen by decide), ?_⟩, (show 3 ≤ maxLen by decide), ?_⟩
  · intro j hj k hk
    match j, hj with
    | 0, _ => match k, hk with
      | 0, _ => simp [ivCells]
      | 1, _ => simp [ivCells]
      | 2, _ => simp [ivCells]
      | 3, _ => simp [ivCells]
      | 4, _ => simp [ivCells]
      | 5, _ => simp [ivCells]
    | 1, _ => match k, hk with
      | 0, _ => simp [ivCells]
      | 1, _ => simp [ivCells]
      | 2, _ => simp [ivCells]
      | 3, _ => simp [ivCells]
      | 4, _ => simp [ivCells]
      | 5, _ => simp [ivCells]
    | 2, _ => match k, hk with
      | 0, _ => simp [ivCells]
      | 1, _ => simp [ivCells]
      | 2, _ => simp [ivCells]
      | 3, _ => simp [ivCells]
      | 4, _ => simp [ivCells]
      | 5, _ => simp [ivCells]
  · intro i hi; simp only [List.mem_cons, List.not_mem_nil, or_false] at hi; rcases hi with rfl | rfl | rfl <;> assumption
theorem pivalid_zero (w : World) : Calls Tryd.prog 15 #[.agg #[.bool false, .string ⟨#[]⟩, .string ⟨#[]⟩, .bool false, .string ⟨#[]⟩, .string ⟨#[]⟩]] w (GivesB false w) := by
  have := pivalid_any noI w
  rw [e_zero] at this
  exact this
theorem run_low (i : Iv) (w : World) : (Instr.field 26 (.agg #[.bool i.low.neg, .string i.low.num, .string i.low.den, .bool i.high.neg, .string i.high.num, .string i.high.den]) 0).run Tryd.prog w = .ok (.agg #[.bool i.low.neg, .string i.low.num, .string i.low.den]) w := by
  first | kernel_rfl | rfl | simp [go_sem, Instr.field, Program.fieldsOf]
theorem nextI3 {W w' w'' : World} {b0 b1 b2 : Nat} {x0_0 x0_1 x0_2 x0_3 x0_4 x0_5 x1_0 x1_1 x1_2 x1_3 x1_4 x1_5 x2_0 x2_1 x2_2 x2_3 x2_4 x2_5 : Value} (hb : Below w'.heap.size w' w'') (h : Below W.heap.size W w' ∧ w'.cell? ⟨b0, 0, none⟩ = some x0_0 ∧ w'.cell? ⟨b0, 1, none⟩ = some x0_1 ∧ w'.cell? ⟨b0, 2, none⟩ = some x0_2 ∧ w'.cell? ⟨b0, 3, none⟩ = some x0_3 ∧ w'.cell? ⟨b0, 4, none⟩ = some x0_4 ∧ w'.cell? ⟨b0, 5, none⟩ = some x0_5 ∧ w'.cell? ⟨b1, 0, none⟩ = some x1_0 ∧ w'.cell? ⟨b1, 1, none⟩ = some x1_1 ∧ w'.cell? ⟨b1, 2, none⟩ = some x1_2 ∧ w'.cell? ⟨b1, 3, none⟩ = some x1_3 ∧ w'.cell? ⟨b1, 4, none⟩ = some x1_4 ∧ w'.cell? ⟨b1, 5, none⟩ = some x1_5 ∧ w'.cell? ⟨b2, 0, none⟩ = some x2_0 ∧ w'.cell? ⟨b2, 1, none⟩ = some x2_1 ∧ w'.cell? ⟨b2, 2, none⟩ = some x2_2 ∧ w'.cell? ⟨b2, 3, none⟩ = some x2_3 ∧ w'.cell? ⟨b2, 4, none⟩ = some x2_4 ∧ w'.cell? ⟨b2, 5, none⟩ = some x2_5) : Below W.heap.size W w'' ∧ w''.cell? ⟨b0, 0, none⟩ = some x0_0 ∧ w''.cell? ⟨b0, 1, none⟩ = some x0_1 ∧ w''.cell? ⟨b0, 2, none⟩ = some x0_2 ∧ w''.cell? ⟨b0, 3, none⟩ = some x0_3 ∧ w''.cell? ⟨b0, 4, none⟩ = some x0_4 ∧ w''.cell? ⟨b0, 5, none⟩ = some x0_5 ∧ w''.cell? ⟨b1, 0, none⟩ = some x1_0 ∧ w''.cell? ⟨b1, 1, none⟩ = some x1_1 ∧ w''.cell? ⟨b1, 2, none⟩ = some x1_2 ∧ w''.cell? ⟨b1, 3, none⟩ = some x1_3 ∧ w''.cell? ⟨b1, 4, none⟩ = some x1_4 ∧ w''.cell? ⟨b1, 5, none⟩ = some x1_5 ∧ w''.cell? ⟨b2, 0, none⟩ = some x2_0 ∧ w''.cell? ⟨b2, 1, none⟩ = some x2_1 ∧ w''.cell? ⟨b2, 2, none⟩ = some x2_2 ∧ w''.cell? ⟨b2, 3, none⟩ = some x2_3 ∧ w''.cell? ⟨b2, 4, none⟩ = some x2_4 ∧ w''.cell? ⟨b2, 5, none⟩ = some x2_5 := by
  obtain ⟨h, h0, h1, h2, h3, h4, h5, h6, h7, h8, h9, h10, h11, h12, h13, h14, h15, h16, h17⟩ := h
  have k : ∀ {a : Addr} {x : Value}, w'.cell? a = some x → w''.cell? a = some x := fun {a x} hc => (hb.cell (p := a) (cell_lt' hc)).trans hc
  exact ⟨h.trans (hb.mono h.size), k h0, k h1, k h2, k h3, k h4, k h5, k h6, k h7, k h8, k h9, k h10, k h11, k h12, k h13, k h14, k h15, k h16, k h17⟩
theorem startI3 {W : World} {b0 b1 b2 : Nat} {r0 : Iv} {r1 : Iv} {r2 : Iv} (h0 : IvAt b0 r0 W) (h1 : IvAt b1 r1 W) (h2 : IvAt b2 r2 W) : Below W.heap.size W W.drew ∧ W.drew.cell? ⟨b0, 0, none⟩ = some (.bool r0.low.neg) ∧ W.drew.cell? ⟨b0, 1, none⟩ = some (.string r0.low.num) ∧ W.drew.cell? ⟨b0, 2, none⟩ = some (.string r0.low.den) ∧ W.drew.cell? ⟨b0, 3, none⟩ = some (.bool r0.high.neg) ∧ W.drew.cell? ⟨b0, 4, none⟩ = some (.string r0.high.num) ∧ W.drew.cell? ⟨b0, 5, none⟩ = some (.string r0.high.den) ∧ W.drew.cell? ⟨b1, 0, none⟩ = some (.bool r1.low.neg) ∧ W.drew.cell? ⟨b1, 1, none⟩ = some (.string r1.low.num) ∧ W.drew.cell? ⟨b1, 2, none⟩ = some (.string r1.low.den) ∧ W.drew.cell? ⟨b1, 3, none⟩ = some (.bool r1.high.neg) ∧ W.drew.cell? ⟨b1, 4, none⟩ = some (.string r1.high.num) ∧ W.drew.cell? ⟨b1, 5, none⟩ = some (.string r1.high.den) ∧ W.drew.cell? ⟨b2, 0, none⟩ = some (.bool r2.low.neg) ∧ W.drew.cell? ⟨b2, 1, none⟩ = some (.string r2.low.num) ∧ W.drew.cell? ⟨b2, 2, none⟩ = some (.string r2.low.den) ∧ W.drew.cell? ⟨b2, 3, none⟩ = some (.bool r2.high.neg) ∧ W.drew.cell? ⟨b2, 4, none⟩ = some (.string r2.high.num) ∧ W.drew.cell? ⟨b2, 5, none⟩ = some (.string r2.high.den) := by
  have hb : Below W.heap.size W W.drew := (Below.refl _ _).drew
  exact ⟨hb, (h0.bel hb).c0, (h0.bel hb).c1, (h0.bel hb).c2, (h0.bel hb).c3, (h0.bel hb).c4, (h0.bel hb).c5, (h1.bel hb).c0, (h1.bel hb).c1, (h1.bel hb).c2, (h1.bel hb).c3, (h1.bel hb).c4, (h1.bel hb).c5, (h2.bel hb).c0, (h2.bel hb).c1, (h2.bel hb).c2, (h2.bel hb).c3, (h2.bel hb).c4, (h2.bel hb).c5⟩
theorem nextI1 {W w' w'' : World} {b0 : Nat} {x0_0 x0_1 x0_2 x0_3 x0_4 x0_5 : Value} (hb : Below w'.heap.size w' w'') (h : Below W.heap.size W w' ∧ w'.cell? ⟨b0, 0, none⟩ = some x0_0 ∧ w'.cell? ⟨b0, 1, none⟩ = some x0_1 ∧ w'.cell? ⟨b0, 2, none⟩ = some x0_2 ∧ w'.cell? ⟨b0, 3, none⟩ = some x0_3 ∧ w'.cell? ⟨b0, 4, none⟩ = some x0_4 ∧ w'.cell? ⟨b0, 5, none⟩ = some x0_5) : Below W.heap.size W w'' ∧ w''.cell? ⟨b0, 0, none⟩ = some x0_0 ∧ w''.cell? ⟨b0, 1, none⟩ = some x0_1 ∧ w''.cell? ⟨b0, 2, none⟩ = some x0_2 ∧ w''.cell? ⟨b0, 3, none⟩ = some x0_3 ∧ w''.cell? ⟨b0, 4, none⟩ = some x0_4 ∧ w''.cell? ⟨b0, 5, none⟩ = some x0_5 := by
  obtain ⟨h, h0, h1, h2, h3, h4, h5⟩ := h
  have k : ∀ {a : Addr} {x : Value}, w'.cell? a = some x → w''.cell? a = some x := fun {a x} hc => (hb.cell (p := a) (cell_lt' hc)).trans hc
  exact ⟨h.trans (hb.mono h.size), k h0, k h1, k h2, k h3, k h4, k h5⟩
theorem startI1 {W : World} {b0 : Nat} {r0 : Iv} (h0 : IvAt b0 r0 W) : Below W.heap.size W W.drew ∧ W.drew.cell? ⟨b0, 0, none⟩ = some (.bool r0.low.neg) ∧ W.drew.cell? ⟨b0, 1, none⟩ = some (.string r0.low.num) ∧ W.drew.cell? ⟨b0, 2, none⟩ = some (.string r0.low.den) ∧ W.drew.cell? ⟨b0, 3, none⟩ = some (.bool r0.high.neg) ∧ W.drew.cell? ⟨b0, 4, none⟩ = some (.string r0.high.num) ∧ W.drew.cell? ⟨b0, 5, none⟩ = some (.string r0.high.den) := by
  have hb : Below W.heap.size W W.drew := (Below.refl _ _).drew
  exact ⟨hb, (h0.bel hb).c0, (h0.bel hb).c1, (h0.bel hb).c2, (h0.bel hb).c3, (h0.bel hb).c4, (h0.bel hb).c5⟩
set_option maxHeartbeats 8000000 in
theorem head5_any (w : World) (ht : TabOk w) : Calls Tryd.prog 8 #[] w fun e w' => e = .returned (.bool true) ∧ Below w.heap.size w w' := by
  have HT := Lib.hid ht
  clear ht
  have D0 := Lib.hid (Below.refl w.heap.size w)
  go_enter Tryd.func8, Tryd.ntmps8
  go_wp2_with fail
  refine (piof_iv 1 2 1 1 _ (by decide) (by decide) (by decide) (by decide) (HT.out.below D0.out)).mono ?_
  rintro e v1 ⟨rfl, hb⟩
  have D1 := Lib.hid (D0.out.trans (hb.mono D0.out.size))
  clear hb
  go_wp2_with fail
  refine (piof_iv (-1) 1 2 1 _ (by decide) (by decide) (by decide) (by decide) (HT.out.below D1.out)).mono ?_
  rintro e v2 ⟨rfl, hb⟩
  have D2 := Lib.hid (D1.out.trans (hb.mono D1.out.size))
  clear D1
  clear hb
  go_wp2_with fail
  refine (piadd_any (iv 1 2 1 1) (iv (-1) 1 2 1) _).mono ?_
  rintro e v3 ⟨rfl, hb⟩
  have D3 := Lib.hid (D2.out.trans (hb.mono D2.out.size))
  clear D2
  clear hb
  simp only [e_add]
  go_wp2_with fail
  obtain ⟨B1, hB1⟩ : ∃ B, B = v3.heap.size := ⟨_, rfl⟩
  obtain ⟨W1_0, hW1_0⟩ : ∃ W, W = v3.alloc (Obj.cells #[Value.bool (iv (-1) 2 3 1).low.neg, Value.string (iv (-1) 2 3 1).low.num, Value.string (iv (-1) 2 3 1).low.den, Value.bool (iv (-1) 2 3 1).high.neg, Value.string (iv (-1) 2 3 1).high.num, Value.string (iv (-1) 2 3 1).high.den] 26) := ⟨_, rfl⟩
  have hb : Below v3.heap.size v3 W1_0 := by rw [hW1_0]; exact (Below.refl _ _).alloc (Nat.le_refl _) _
  have hzW1_0 : v3.heap.size = B1 := by rw [hB1]
  have hlW1_0 : IvAt (B1) (iv (-1) 2 3 1) W1_0 := by rw [← hzW1_0, hW1_0]; exact ⟨heap_lastM _ _⟩
  have D4 := Lib.hid (D3.out.trans (hb.mono D3.out.size))
  clear D3
  clear hb
  have a_4 := Lib.hid hlW1_0
  clear hlW1_0
  rw [← hW1_0]
  simp only [← hB1]
  have HW1_0 := Lib.hid hW1_0
  clear hW1_0 hzW1_0
  have HB1 := Lib.hid hB1
  clear hB1
  refine (piof_iv (-2) 1 3 1 _ (by decide) (by decide) (by decide) (by decide) (HT.out.below D4.out)).mono ?_
  rintro e v5 ⟨rfl, hb⟩
  have D5 := Lib.hid (D4.out.trans (hb.mono D4.out.size))
  have a_5 := Lib.hid (a_4.out.bel hb)
  clear D4 a_4
  clear hb
  go_wp2_with fail
  refine (piof_iv (-1) 1 4 1 _ (by decide) (by decide) (by decide) (by decide) (HT.out.below D5.out)).mono ?_
  rintro e v6 ⟨rfl, hb⟩
  have D6 := Lib.hid (D5.out.trans (hb.mono D5.out.size))
  have a_6 := Lib.hid (a_5.out.bel hb)
  clear D5 a_5
  clear hb
  go_wp2_with fail
  refine (pimul_any (iv (-2) 1 3 1) (iv (-1) 1 4 1) _).mono ?_
  rintro e v7 ⟨rfl, hb⟩
  have D7 := Lib.hid (D6.out.trans (hb.mono D6.out.size))
  have a_7 := Lib.hid (a_6.out.bel hb)
  clear D6 a_6
  clear hb
  simp only [e_mul]
  go_wp2_with fail
  obtain ⟨B2, hB2⟩ : ∃ B, B = v7.heap.size := ⟨_, rfl⟩
  obtain ⟨W2_0, hW2_0⟩ : ∃ W, W = v7.alloc (Obj.cells #[Value.bool (iv (-8) 1 12 1).low.neg, Value.string (iv (-8) 1 12 1).low.num, Value.string (iv (-8) 1 12 1).low.den, Value.bool (iv (-8) 1 12 1).high.neg, Value.string (iv (-8) 1 12 1).high.num, Value.string (iv (-8) 1 12 1).high.den] 26) := ⟨_, rfl⟩
  have hb : Below v7.heap.size v7 W2_0 := by rw [hW2_0]; exact (Below.refl _ _).alloc (Nat.le_refl _) _
  have hzW2_0 : v7.heap.size = B2 := by rw [hB2]
  have hlW2_0 : IvAt (B2) (iv (-8) 1 12 1) W2_0 := by rw [← hzW2_0, hW2_0]; exact ⟨heap_lastM _ _⟩
  have D8 := Lib.hid (D7.out.trans (hb.mono D7.out.size))
  have a_8 := Lib.hid (a_7.out.bel hb)
  clear D7 a_7
  clear hb
  have b_8 := Lib.hid hlW2_0
  clear hlW2_0
  rw [← hW2_0]
  simp only [← hB2]
  have HW2_0 := Lib.hid hW2_0
  clear hW2_0 hzW2_0
  have HB2 := Lib.hid hB2
  clear hB2
  refine (piof_iv 1 1 2 1 _ (by decide) (by decide) (by decide) (by decide) (HT.out.below D8.out)).mono ?_
  rintro e v9 ⟨rfl, hb⟩
  have D9 := Lib.hid (D8.out.trans (hb.mono D8.out.size))
  have a_9 := Lib.hid (a_8.out.bel hb)
  have b_9 := Lib.hid (b_8.out.bel hb)
  clear D8 a_8 b_8
  clear hb
  go_wp2_with fail
  refine (piof_iv 5 1 6 1 _ (by decide) (by decide) (by decide) (by decide) (HT.out.below D9.out)).mono ?_
  rintro e v10 ⟨rfl, hb⟩
  have D10 := Lib.hid (D9.out.trans (hb.mono D9.out.size))
  have a_10 := Lib.hid (a_9.out.bel hb)
  have b_10 := Lib.hid (b_9.out.bel hb)
  clear D9 a_9 b_9
  clear hb
  go_wp2_with fail
  refine (piof_iv 0 1 1 2 _ (by decide) (by decide) (by decide) (by decide) (HT.out.below D10.out)).mono ?_
  rintro e v11 ⟨rfl, hb⟩
  have D11 := Lib.hid (D10.out.trans (hb.mono D10.out.size))
  have a_11 := Lib.hid (a_10.out.bel hb)
  have b_11 := Lib.hid (b_10.out.bel hb)
  clear D10 a_10 b_10
  clear hb
  go_wp2_with fail
  have hl : IvsOk (v11.alloc (Obj.cells #[Value.bool (iv 1 1 2 1).low.neg, Value.string (iv 1 1 2 1).low.num, Value.string (iv 1 1 2 1).low.den, Value.bool (iv 1 1 2 1).high.neg, Value.string (iv 1 1 2 1).high.num, Value.string (iv 1 1 2 1).high.den, Value.bool (iv 5 1 6 1).low.neg, Value.string (iv 5 1 6 1).low.num, Value.string (iv 5 1 6 1).low.den, Value.bool (iv 5 1 6 1).high.neg, Value.string (iv 5 1 6 1).high.num, Value.string (iv 5 1 6 1).high.den, Value.bool (iv 0 1 1 2).low.neg, Value.string (iv 0 1 1 2).low.num, Value.string (iv 0 1 1 2).low.den, Value.bool (iv 0 1 1 2).high.neg, Value.string (iv 0 1 1 2).high.num, Value.string (iv 0 1 1 2).high.den] 26)) (.slice (some ⟨v11.heap.size, 0, none⟩) 3 3) [(iv 1 1 2 1), (iv 5 1 6 1), (iv 0 1 1 2)] := ivs_3 _ _ _ _ (big_iv (by decide) (by decide) (by decide) (by decide) (by decide) (by decide)) (big_iv (by decide) (by decide) (by decide) (by decide) (by decide) (by decide)) (big_iv (by decide) (by decide) (by decide) (by decide) (by decide) (by decide))
  have hb0 : Below v11.heap.size v11 (v11.alloc (Obj.cells #[Value.bool (iv 1 1 2 1).low.neg, Value.string (iv 1 1 2 1).low.num, Value.string (iv 1 1 2 1).low.den, Value.bool (iv 1 1 2 1).high.neg, Value.string (iv 1 1 2 1).high.num, Value.string (iv 1 1 2 1).high.den, Value.bool (iv 5 1 6 1).low.neg, Value.string (iv 5 1 6 1).low.num, Value.string (iv 5 1 6 1).low.den, Value.bool (iv 5 1 6 1).high.neg, Value.string (iv 5 1 6 1).high.num, Value.string (iv 5 1 6 1).high.den, Value.bool (iv 0 1 1 2).low.neg, Value.string (iv 0 1 1 2).low.num, Value.string (iv 0 1 1 2).low.den, Value.bool (iv 0 1 1 2).high.neg, Value.string (iv 0 1 1 2).high.num, Value.string (iv 0 1 1 2).high.den] 26)) := (Below.refl _ _).alloc (Nat.le_refl _) _
  refine (pihull_any _ _ _ hl).mono ?_
  rintro e vh ⟨rfl, hb1⟩
  have hb := hb0.trans (hb1.mono hb0.size); clear hl hb0 hb1
  have D12 := Lib.hid (D11.out.trans (hb.mono D11.out.size))
  have a_12 := Lib.hid (a_11.out.bel hb)
  have b_12 := Lib.hid (b_11.out.bel hb)
  clear D11 a_11 b_11
  clear hb
  simp only [e_hull]
  go_wp2_with fail
  obtain ⟨B3, hB3⟩ : ∃ B, B = vh.heap.size := ⟨_, rfl⟩
  obtain ⟨W3_0, hW3_0⟩ : ∃ W, W = vh.alloc (Obj.cells #[Value.bool (iv 0 1 6 1).low.neg, Value.string (iv 0 1 6 1).low.num, Value.string (iv 0 1 6 1).low.den, Value.bool (iv 0 1 6 1).high.neg, Value.string (iv 0 1 6 1).high.num, Value.string (iv 0 1 6 1).high.den] 26) := ⟨_, rfl⟩
  have hb : Below vh.heap.size vh W3_0 := by rw [hW3_0]; exact (Below.refl _ _).alloc (Nat.le_refl _) _
  have hzW3_0 : vh.heap.size = B3 := by rw [hB3]
  have hlW3_0 : IvAt (B3) (iv 0 1 6 1) W3_0 := by rw [← hzW3_0, hW3_0]; exact ⟨heap_lastM _ _⟩
  have D13 := Lib.hid (D12.out.trans (hb.mono D12.out.size))
  have a_13 := Lib.hid (a_12.out.bel hb)
  have b_13 := Lib.hid (b_12.out.bel hb)
  clear D12 a_12 b_12
  clear hb
  have c_13 := Lib.hid hlW3_0
  clear hlW3_0
  rw [← hW3_0]
  simp only [← hB3]
  have HW3_0 := Lib.hid hW3_0
  clear hW3_0 hzW3_0
  have HB3 := Lib.hid hB3
  clear hB3
  refine (pihull_any (.slice none 0 0) [] _ ⟨.inl ⟨rfl, _, _, rfl⟩, by decide, by intro i hi; cases hi⟩).mono ?_
  rintro e v14 ⟨rfl, hb⟩
  have D14 := Lib.hid (D13.out.trans (hb.mono D13.out.size))
  have a_14 := Lib.hid (a_13.out.bel hb)
  have b_14 := Lib.hid (b_13.out.bel hb)
  have c_14 := Lib.hid (c_13.out.bel hb)
  clear D13 a_13 b_13 c_13
  clear hb
  simp only [e_none, noI, noRaw]
  go_wp2_with fail
  obtain ⟨B4, hB4⟩ : ∃ B, B = v14.heap.size := ⟨_, rfl⟩
  obtain ⟨W4_0, hW4_0⟩ : ∃ W, W = v14.alloc (Obj.cells #[Value.bool false, Value.string ⟨#[]⟩, Value.string ⟨#[]⟩, Value.bool false, Value.string ⟨#[]⟩, Value.string ⟨#[]⟩] 26) := ⟨_, rfl⟩
  have hb : Below v14.heap.size v14 W4_0 := by rw [hW4_0]; exact (Below.refl _ _).alloc (Nat.le_refl _) _
  have hzW4_0 : v14.heap.size = B4 := by rw [hB4]
  have D15 := Lib.hid (D14.out.trans (hb.mono D14.out.size))
  have a_15 := Lib.hid (a_14.out.bel hb)
  have b_15 := Lib.hid (b_14.out.bel hb)
  have c_15 := Lib.hid (c_14.out.bel hb)
  clear D14 a_14 b_14 c_14
  clear hb
  rw [← hW4_0]
  simp only [← hB4]
  have HW4_0 := Lib.hid hW4_0
  clear hW4_0 hzW4_0
  have HB4 := Lib.hid hB4
  clear hB4
  refine (piof_iv 0 1 2 1 _ (by decide) (by decide) (by decide) (by decide) (HT.out.below D15.out)).mono ?_
  rintro e v16 ⟨rfl, hb⟩
  have D16 := Lib.hid (D15.out.trans (hb.mono D15.out.size))
  have a_16 := Lib.hid (a_15.out.bel hb)
  have b_16 := Lib.hid (b_15.out.bel hb)
  have c_16 := Lib.hid (c_15.out.bel hb)
  clear D15 a_15 b_15 c_15
  clear hb
  go_wp2_with fail
  refine (piof_iv 2 1 3 1 _ (by decide) (by decide) (by decide) (by decide) (HT.out.below D16.out)).mono ?_
  rintro e v17 ⟨rfl, hb⟩
  have D17 := Lib.hid (D16.out.trans (hb.mono D16.out.size))
  have a_17 := Lib.hid (a_16.out.bel hb)
  have b_17 := Lib.hid (b_16.out.bel hb)
  have c_17 := Lib.hid (c_16.out.bel hb)
  clear D16 a_16 b_16 c_16
  clear hb
  go_wp2_with fail
  refine (pimeet_any (iv 0 1 2 1) (iv 2 1 3 1) _).mono ?_
  rintro e v18 ⟨rfl, hb⟩
  have D18 := Lib.hid (D17.out.trans (hb.mono D17.out.size))
  have a_18 := Lib.hid (a_17.out.bel hb)
  have b_18 := Lib.hid (b_17.out.bel hb)
  have c_18 := Lib.hid (c_17.out.bel hb)
  clear D17 a_17 b_17 c_17
  clear hb
  simp only [e_meet]
  go_wp2_with fail
  obtain ⟨B5, hB5⟩ : ∃ B, B = v18.heap.size := ⟨_, rfl⟩
  obtain ⟨W5_0, hW5_0⟩ : ∃ W, W = v18.alloc (Obj.cells #[Value.bool (iv 2 1 2 1).low.neg, Value.string (iv 2 1 2 1).low.num, Value.string (iv 2 1 2 1).low.den, Value.bool (iv 2 1 2 1).high.neg, Value.string (iv 2 1 2 1).high.num, Value.string (iv 2 1 2 1).high.den] 26) := ⟨_, rfl⟩
  have hb : Below v18.heap.size v18 W5_0 := by rw [hW5_0]; exact (Below.refl _ _).alloc (Nat.le_refl _) _
  have hzW5_0 : v18.heap.size = B5 := by rw [hB5]
  have hlW5_0 : IvAt (B5) (iv 2 1 2 1) W5_0 := by rw [← hzW5_0, hW5_0]; exact ⟨heap_lastM _ _⟩
  have D19 := Lib.hid (D18.out.trans (hb.mono D18.out.size))
  have a_19 := Lib.hid (a_18.out.bel hb)
  have b_19 := Lib.hid (b_18.out.bel hb)
  have c_19 := Lib.hid (c_18.out.bel hb)
  clear D18 a_18 b_18 c_18
  clear hb
  have d_19 := Lib.hid hlW5_0
  clear hlW5_0
  rw [← hW5_0]
  simp only [← hB5]
  have HW5_0 := Lib.hid hW5_0
  clear hW5_0 hzW5_0
  have HB5 := Lib.hid hB5
  clear hB5
  refine (piof_iv 0 1 1 1 _ (by decide) (by decide) (by decide) (by decide) (HT.out.below D19.out)).mono ?_
  rintro e v20 ⟨rfl, hb⟩
  have D20 := Lib.hid (D19.out.trans (hb.mono D19.out.size))
  have a_20 := Lib.hid (a_19.out.bel hb)
  have b_20 := Lib.hid (b_19.out.bel hb)
  have c_20 := Lib.hid (c_19.out.bel hb)
  have d_20 := Lib.hid (d_19.out.bel hb)
  clear D19 a_19 b_19 c_19 d_19
  clear hb
  go_wp2_with fail
  refine (piof_iv 2 1 3 1 _ (by decide) (by decide) (by decide) (by decide) (HT.out.below D20.out)).mono ?_
  rintro e v21 ⟨rfl, hb⟩
  have D21 := Lib.hid (D20.out.trans (hb.mono D20.out.size))
  have a_21 := Lib.hid (a_20.out.bel hb)
  have b_21 := Lib.hid (b_20.out.bel hb)
  have c_21 := Lib.hid (c_20.out.bel hb)
  have d_21 := Lib.hid (d_20.out.bel hb)
  clear D20 a_20 b_20 c_20 d_20
  clear hb
  go_wp2_with fail
  refine (pimeet_any (iv 0 1 1 1) (iv 2 1 3 1) _).mono ?_
  rintro e v22 ⟨rfl, hb⟩
  have D22 := Lib.hid (D21.out.trans (hb.mono D21.out.size))
  have a_22 := Lib.hid (a_21.out.bel hb)
  have b_22 := Lib.hid (b_21.out.bel hb)
  have c_22 := Lib.hid (c_21.out.bel hb)
  have d_22 := Lib.hid (d_21.out.bel hb)
  clear D21 a_21 b_21 c_21 d_21
  clear hb
  simp only [e_apart, noI, noRaw]
  go_upto_region 7 with fail
  obtain ⟨B6, hB6⟩ : ∃ B, B = v22.heap.size := ⟨_, rfl⟩
  obtain ⟨W6_0, hW6_0⟩ : ∃ W, W = v22.alloc (Obj.cells #[Value.bool false, Value.string ⟨#[]⟩, Value.string ⟨#[]⟩, Value.bool false, Value.string ⟨#[]⟩, Value.string ⟨#[]⟩] 26) := ⟨_, rfl⟩
  have hb : Below v22.heap.size v22 W6_0 := by rw [hW6_0]; exact (Below.refl _ _).alloc (Nat.le_refl _) _
  have hzW6_0 : v22.heap.size = B6 := by rw [hB6]
  have D23 := Lib.hid (D22.out.trans (hb.mono D22.out.size))
  have a_23 := Lib.hid (a_22.out.bel hb)
  have b_23 := Lib.hid (b_22.out.bel hb)
  have c_23 := Lib.hid (c_22.out.bel hb)
  have d_23 := Lib.hid (d_22.out.bel hb)
  clear D22 a_22 b_22 c_22 d_22
  clear hb
  rw [← hW6_0]
  simp only [← hB6]
  have HW6_0 := Lib.hid hW6_0
  clear hW6_0 hzW6_0
  have HB6 := Lib.hid hB6
  clear hB6
  have q1 := run_eql_iv (iv (-1) 2 3 1)
  have q2 := run_eql_iv (iv (-8) 1 12 1)
  have q3 := run_eql_iv (iv 0 1 6 1)
  go_cut [13] (fun s13 wx => s13 = .bool true ∧ Hid (Below W6_0.heap.size W6_0 wx))
  case first =>
    go_region_held3 (fun w' => Below W6_0.heap.size W6_0 w' ∧ w'.cell? ⟨B1, 0, none⟩ = some (.bool ((iv (-1) 2 3 1)).low.neg) ∧ w'.cell? ⟨B1, 1, none⟩ = some (.string ((iv (-1) 2 3 1)).low.num) ∧ w'.cell? ⟨B1, 2, none⟩ = some (.string ((iv (-1) 2 3 1)).low.den) ∧ w'.cell? ⟨B1, 3, none⟩ = some (.bool ((iv (-1) 2 3 1)).high.neg) ∧ w'.cell? ⟨B1, 4, none⟩ = some (.string ((iv (-1) 2 3 1)).high.num) ∧ w'.cell? ⟨B1, 5, none⟩ = some (.string ((iv (-1) 2 3 1)).high.den) ∧ w'.cell? ⟨B2, 0, none⟩ = some (.bool ((iv (-8) 1 12 1)).low.neg) ∧ w'.cell? ⟨B2, 1, none⟩ = some (.string ((iv (-8) 1 12 1)).low.num) ∧ w'.cell? ⟨B2, 2, none⟩ = some (.string ((iv (-8) 1 12 1)).low.den) ∧ w'.cell? ⟨B2, 3, none⟩ = some (.bool ((iv (-8) 1 12 1)).high.neg) ∧ w'.cell? ⟨B2, 4, none⟩ = some (.string ((iv (-8) 1 12 1)).high.num) ∧ w'.cell? ⟨B2, 5, none⟩ = some (.string ((iv (-8) 1 12 1)).high.den) ∧ w'.cell? ⟨B3, 0, none⟩ = some (.bool ((iv 0 1 6 1)).low.neg) ∧ w'.cell? ⟨B3, 1, none⟩ = some (.string ((iv 0 1 6 1)).low.num) ∧ w'.cell? ⟨B3, 2, none⟩ = some (.string ((iv 0 1 6 1)).low.den) ∧ w'.cell? ⟨B3, 3, none⟩ = some (.bool ((iv 0 1 6 1)).high.neg) ∧ w'.cell? ⟨B3, 4, none⟩ = some (.string ((iv 0 1 6 1)).high.num) ∧ w'.cell? ⟨B3, 5, none⟩ = some (.string ((iv 0 1 6 1)).high.den)) (first | (with_reducible assumption) | exact startI3 a_23.out b_23.out c_23.out | exact nextI3 (by assumption) (by assumption) | exact nextI3 ((Below.refl _ _).alloc (Nat.le_refl _) _) (by assumption)) (first | (go_at_call 18; first | ((with_reducible refine (piof_iv (-1) 2 3 1 _ (by decide) (by decide) (by decide) (by decide) (HT.out.below (D23.out.trans ((And.left (by assumption : Below W6_0.heap.size W6_0 _ ∧ _)).mono D23.out.size)))).mono ?_); rintro e y0 ⟨rfl, hby0⟩) | ((with_reducible refine (piof_iv (-8) 1 12 1 _ (by decide) (by decide) (by decide) (by decide) (HT.out.below (D23.out.trans ((And.left (by assumption : Below W6_0.heap.size W6_0 _ ∧ _)).mono D23.out.size)))).mono ?_); rintro e y1 ⟨rfl, hby1⟩) | ((with_reducible refine (piof_iv 0 1 6 1 _ (by decide) (by decide) (by decide) (by decide) (HT.out.below (D23.out.trans ((And.left (by assumption : Below W6_0.heap.size W6_0 _ ∧ _)).mono D23.out.size)))).mono ?_); rintro e y2 ⟨rfl, hby2⟩)) | fail "no arm")
    all_goals (go_wp2_with fail; go_meet; exact ⟨rfl, Lib.hid (And.left (by assumption))⟩)
  case rest =>
    obtain ⟨rfl, hcutB⟩ := hcut
    have D24 := Lib.hid (D23.out.trans (hcutB.out.mono D23.out.size))
    have a_24 := Lib.hid (a_23.out.bel hcutB.out)
    have b_24 := Lib.hid (b_23.out.bel hcutB.out)
    have c_24 := Lib.hid (c_23.out.bel hcutB.out)
    have d_24 := Lib.hid (d_23.out.bel hcutB.out)
    clear D23 a_23 b_23 c_23 d_23
    clear hcutB
    obtain ⟨wc7, hnm⟩ : ∃ x, x = wc := ⟨_, rfl⟩
    subst hnm
    clear q1 q2 q3
    have q1 := run_eql_iv (iv 2 1 2 1)
    have z1 := e_ok; have z2 := e_no; have z3 := e_zero; have z4 := e_has
    have zl := run_low (iv 1 3 1 1)
    go_upto_region 8 with fail
    go_cut [0] (fun s0 wx => s0 = .bool true ∧ Hid (Below wc7.heap.size wc7 wx))
    case first =>
      go_region_held3 (fun w' => Below wc7.heap.size wc7 w' ∧ w'.cell? ⟨B5, 0, none⟩ = some (.bool ((iv 2 1 2 1)).low.neg) ∧ w'.cell? ⟨B5, 1, none⟩ = some (.string ((iv 2 1 2 1)).low.num) ∧ w'.cell? ⟨B5, 2, none⟩ = some (.string ((iv 2 1 2 1)).low.den) ∧ w'.cell? ⟨B5, 3, none⟩ = some (.bool ((iv 2 1 2 1)).high.neg) ∧ w'.cell? ⟨B5, 4, none⟩ = some (.string ((iv 2 1 2 1)).high.num) ∧ w'.cell? ⟨B5, 5, none⟩ = some (.string ((iv 2 1 2 1)).high.den)) (first | (with_reducible assumption) | exact startI1 d_24.out | exact nextI1 (by assumption) (by assumption) | exact nextI1 ((Below.refl _ _).alloc (Nat.le_refl _) _) (by assumption)) (first | (go_at_call 18; first | ((with_reducible refine (piof_iv 2 1 2 1 _ (by decide) (by decide) (by decide) (by decide) (HT.out.below (D24.out.trans ((And.left (by assumption : Below wc7.heap.size wc7 _ ∧ _)).mono D24.out.size)))).mono ?_); rintro e u0 ⟨rfl, hbu0⟩) | ((with_reducible refine (piof_iv 1 1 1 1 _ (by decide) (by decide) (by decide) (by decide) (HT.out.below (D24.out.trans ((And.left (by assumption : Below wc7.heap.size wc7 _ ∧ _)).mono D24.out.size)))).mono ?_); rintro e u1 ⟨rfl, hbu1⟩) | ((with_reducible refine (piof_iv 2 1 1 1 _ (by decide) (by decide) (by decide) (by decide) (HT.out.below (D24.out.trans ((And.left (by assumption : Below wc7.heap.size wc7 _ ∧ _)).mono D24.out.size)))).mono ?_); rintro e u2 ⟨rfl, hbu2⟩) | ((with_reducible refine (piof_iv 0 1 2 1 _ (by decide) (by decide) (by decide) (by decide) (HT.out.below (D24.out.trans ((And.left (by assumption : Below wc7.heap.size wc7 _ ∧ _)).mono D24.out.size)))).mono ?_); rintro e u3 ⟨rfl, hbu3⟩) | ((with_reducible refine (piof_iv 1 3 1 1 _ (by decide) (by decide) (by decide) (by decide) (HT.out.below (D24.out.trans ((And.left (by assumption : Below wc7.heap.size wc7 _ ∧ _)).mono D24.out.size)))).mono ?_); rintro e u4 ⟨rfl, hbu4⟩)) | (go_at_call 15; first | ((with_reducible refine (pivalid_any (iv 1 1 1 1) _).mono ?_); rintro e t1 ⟨rfl, hbt1⟩; rw [e_ok]) | ((with_reducible refine (pivalid_any (iv 2 1 1 1) _).mono ?_); rintro e t2 ⟨rfl, hbt2⟩; rw [e_no]) | ((with_reducible refine (pivalid_zero _).mono ?_); rintro e t3 ⟨rfl, hbt3⟩)) | (go_at_call 10; ((with_reducible refine (picon_any (iv 0 1 2 1) (iv 1 3 1 1).low _).mono ?_); rintro e t4 ⟨rfl, hbt4⟩; rw [e_has])) | fail "no arm")
      all_goals (go_wp2_with fail; go_meet; exact ⟨rfl, Lib.hid (And.left (by assumption))⟩)
    case rest =>
      obtain ⟨rfl, hcutB⟩ := hcut
      have D25 := Lib.hid (D24.out.trans (hcutB.out.mono D24.out.size))
      have a_25 := Lib.hid (a_24.out.bel hcutB.out)
      have b_25 := Lib.hid (b_24.out.bel hcutB.out)
      have c_25 := Lib.hid (c_24.out.bel hcutB.out)
      have d_25 := Lib.hid (d_24.out.bel hcutB.out)
      clear D24 a_24 b_24 c_24 d_24
      clear hcutB
      obtain ⟨wc8, hnm⟩ : ∃ x, x = wc := ⟨_, rfl⟩
      subst hnm
      go_wp2_with fail
      go_ret
      exact ⟨rfl, D25.out⟩
end Go.Proofs.YtbcoblpnihdhgaaDoor
