/-
  The program's interval package: Meet and Hull.
-/
import Derived.Test.YtbcoblpnihdhgaaDoorIvPB
import Derived.Test.YtbcoblpnihdhgaaDoorIvPC
set_option linter.unusedVariables false
set_option maxRecDepth 100000
namespace Go.Proofs.YtbcoblpnihdhgaaDoor
open Go.RowKit
open Rt
theorem callMoreL : CallI 32 moreL := ⟨fun _ _ _ => Tryd.call32 _ _, fun x y w => pmeet1_any x y w⟩
theorem callLessH : CallI 33 lessH := ⟨fun _ _ _ => Tryd.call33 _ _, fun x y w => pmeet2_any x y w⟩
theorem callLessL : CallI 30 lessL := ⟨fun _ _ _ => Tryd.call30 _ _, fun x y w => phull1_any x y w⟩
theorem callMoreH : CallI 31 moreH := ⟨fun _ _ _ => Tryd.call31 _ _, fun x y w => phull2_any x y w⟩
theorem run_low5 (i : Iv) (w : World) : (Instr.field 26 (.agg #[.bool i.low.neg, .string i.low.num, .string i.low.den, .bool i.high.neg, .string i.high.num, .string i.high.den]) 0).run Tryd.prog w = .ok (.agg #[.bool i.low.neg, .string i.low.num, .string i.low.den]) w := by
  first | kernel_rfl | rfl
theorem run_high5 (i : Iv) (w : World) : (Instr.field 26 (.agg #[.bool i.low.neg, .string i.low.num, .string i.low.den, .bool i.high.neg, .string i.high.num, .string i.high.den]) 1).run Tryd.prog w = .ok (.agg #[.bool i.high.neg, .string i.high.num, .string i.high.den]) w := by
  first | kernel_rfl | rfl
theorem all_next {l : List Iv} {k : Nat} (hx : ∀ j (hj : j < l.length), j < k → okI l[j] = true) (hlt : k < l.length) (h : okI l[k] = true) : ∀ j (hj : j < l.length), j < k + 1 → okI l[j] = true := by
  intro j hj h'
  by_cases e : j = k
  · subst e; exact h
  · exact hx j hj (by omega)
theorem pair_in (a b : Iv) (w : World) : IvsIn (w.alloc (Obj.cells #[Value.bool a.low.neg, Value.string a.low.num, Value.string a.low.den, Value.bool a.high.neg, Value.string a.high.num, Value.string a.high.den, Value.bool b.low.neg, Value.string b.low.num, Value.string b.low.den, Value.bool b.high.neg, Value.string b.high.num, Value.string b.high.den] 26)) w.heap.size 0 [a, b] := by
  intro j hj k hk
  match j, hj with
  | 0, _ => match k, hk with
    | 0, _ => simp [ivCells]
    | 1, _ => simp [ivCells]
    | 2, _ => simp [ivCells]
    | 3, _ => simp [ivCells]
    | 4, _ => simp [ivCells]
    | 5, _ => simp [ivCells]
  | 1, _ => match k, hk with
    | 0, _ => simp [ivCells]
    | 1, _ => simp [ivCells]
    | 2, _ => simp [ivCells]
    | 3, _ => simp [ivCells]
    | 4, _ => simp [ivCells]
    | 5, _ => simp [ivCells]
theorem pfirst2_any (F : Nat) (bf : Iv → Iv → Bool) (B : Nat) (a b : Iv) (w : World) (hF : CallI F bf) (hc : IvsIn w B 0 [a, b]) :
    Calls Tryd.prog 29 #[.slice (some ⟨B, 0, none⟩) 2 2, .func (.func F) #[] #[]] w (GivesV (sel noI bf [a, b]) w) :=
  pfirstI_any F bf B 0 2 [a, b] w hF (show 0 < 2 by decide) (show 2 ≤ 2 by decide) (show 2 ≤ maxLen by decide) hc
set_option maxHeartbeats 40000000 in
theorem pimeet_any (a b : Iv) (w : World) : Calls Tryd.prog 17 #[.agg #[.bool a.low.neg, .string a.low.num, .string a.low.den, .bool a.high.neg, .string a.high.num, .string a.high.den], .agg #[.bool b.low.neg, .string b.low.num, .string b.low.den, .bool b.high.neg, .string b.high.num, .string b.high.den]] w (GivesM (meetI a b) w) := by
  obtain ⟨t, ht⟩ : ∃ t, t = meetI a b := ⟨_, rfl⟩
  rw [← ht]
  have D0 := Lib.hid (Below.refl w.heap.size w)
  by_cases ha : okI a = true
  case neg =>
    have ha := Bool.eq_false_iff.2 ha
    have hva : Hid (∀ w, Calls Tryd.prog 15 #[.agg #[.bool a.low.neg, .string a.low.num, .string a.low.den, .bool a.high.neg, .string a.high.num, .string a.high.den]] w (GivesB false w)) := Lib.hid (fun w => by have := pivalid_any a w; rwa [ha] at this)
    have HTT : Hid (t = (noI, false)) := Lib.hid (by rw [ht]; unfold meetI; rw [ha]; rfl)
    clear ht ha
    go_enter Tryd.func17, Tryd.ntmps17
    go_wp2_with fail
    obtain ⟨B1, hB1⟩ : ∃ B, B = w.heap.size := ⟨_, rfl⟩
    obtain ⟨W1_0, hW1_0⟩ : ∃ W, W = w.alloc (Obj.cells #[Value.bool a.low.neg, Value.string a.low.num, Value.string a.low.den, Value.bool a.high.neg, Value.string a.high.num, Value.string a.high.den] 26) := ⟨_, rfl⟩
    have hb : Below w.heap.size w W1_0 := by rw [hW1_0]; exact (Below.refl _ _).alloc (Nat.le_refl _) _
    have hzW1_0 : w.heap.size = B1 := by rw [hB1]
    have hlW1_0 : IvAt (B1) a W1_0 := by rw [← hzW1_0, hW1_0]; exact ⟨heap_lastM _ _⟩
    have D1 := Lib.hid (D0.out.trans (hb.mono D0.out.size))
    clear hb
    have a_1 := Lib.hid hlW1_0
    clear hlW1_0
    obtain ⟨W1_1, hW1_1⟩ : ∃ W, W = W1_0.alloc (Obj.cells #[Value.bool b.low.neg, Value.string b.low.num, Value.string b.low.den, Value.bool b.high.neg, Value.string b.high.num, Value.string b.high.den] 26) := ⟨_, rfl⟩
    have hb : Below W1_0.heap.size W1_0 W1_1 := by rw [hW1_1]; exact (Below.refl _ _).alloc (Nat.le_refl _) _
    have hzW1_1 : W1_0.heap.size = B1 + 1 := by rw [hW1_0]; simp [hzW1_0]
    have hlW1_1 : IvAt (B1 + 1) b W1_1 := by rw [← hzW1_1, hW1_1]; exact ⟨heap_lastM _ _⟩
    have D2 := Lib.hid (D1.out.trans (hb.mono D1.out.size))
    have a_2 := Lib.hid (a_1.out.bel hb)
    clear D1 a_1
    clear hb
    have b_2 := Lib.hid hlW1_1
    clear hlW1_1
    obtain ⟨W1_2, hW1_2⟩ : ∃ W, W = W1_1.alloc (Obj.cells #[Value.bool false, Value.string ⟨#[]⟩, Value.string ⟨#[]⟩, Value.bool false, Value.string ⟨#[]⟩, Value.string ⟨#[]⟩] 26) := ⟨_, rfl⟩
    have hb : Below W1_1.heap.size W1_1 W1_2 := by rw [hW1_2]; exact (Below.refl _ _).alloc (Nat.le_refl _) _
    have hzW1_2 : W1_1.heap.size = B1 + 1 + 1 := by rw [hW1_1]; simp [hzW1_1]
    have hlW1_2 : IvAt (B1 + 1 + 1) noI W1_2 := by rw [← hzW1_2, hW1_2]; exact ⟨heap_lastM _ _⟩
    have D3 := Lib.hid (D2.out.trans (hb.mono D2.out.size))
    have a_3 := Lib.hid (a_2.out.bel hb)
    have b_3 := Lib.hid (b_2.out.bel hb)
    clear D2 a_2 b_2
    clear hb
    have z_3 := Lib.hid hlW1_2
    clear hlW1_2
    rw [← hW1_0]
    rw [← hW1_1]
    rw [← hW1_2]
    simp only [← hB1]
    have HW1_0 := Lib.hid hW1_0
    clear hW1_0 hzW1_0
    have HW1_1 := Lib.hid hW1_1
    clear hW1_1 hzW1_1
    have HW1_2 := Lib.hid hW1_2
    clear hW1_2 hzW1_2
    have HB1 := Lib.hid hB1
    clear hB1
    have ac0 := a_3.out.c0
    have ac1 := a_3.out.c1
    have ac2 := a_3.out.c2
    have ac3 := a_3.out.c3
    have ac4 := a_3.out.c4
    have ac5 := a_3.out.c5
    have bc0 := b_3.out.c0
    have bc1 := b_3.out.c1
    have bc2 := b_3.out.c2
    have bc3 := b_3.out.c3
    have bc4 := b_3.out.c4
    have bc5 := b_3.out.c5
    go_wp2_with fail
    clear ac0 ac1 ac2 ac3 ac4 ac5 bc0 bc1 bc2 bc3 bc4 bc5
    refine (hva.out _).mono ?_
    rintro e v4 ⟨rfl, hb⟩
    have D4 := Lib.hid (D3.out.trans (hb.mono D3.out.size))
    have a_4 := Lib.hid (a_3.out.bel hb)
    have b_4 := Lib.hid (b_3.out.bel hb)
    have z_4 := Lib.hid (z_3.out.bel hb)
    clear D3 a_3 b_3 z_3
    clear hb
    have zc0 := z_4.out.c0
    have zf0 := z_4.out.fz 0
    have zc1 := z_4.out.c1
    have zf1 := z_4.out.fz 1
    have zc2 := z_4.out.c2
    have zf2 := z_4.out.fz 2
    have zc3 := z_4.out.c3
    have zf3 := z_4.out.fz 3
    have zc4 := z_4.out.c4
    have zf4 := z_4.out.fz 4
    have zc5 := z_4.out.c5
    have zf5 := z_4.out.fz 5
    go_wp2_with fail
    (try simp only [Exit.inBlock, Exit.then])
    refine bodyPost_ret (results_iv rfl _ _ (B1 + 1 + 1) noI _ rfl rfl (z_4.out.set noI)) rfl ?_; rw [HTT.out]; exact ⟨rfl, ((((((D4.out.setCell (p := ⟨B1 + 1 + 1, 0, none⟩) (by have := HB1.out; show w.heap.size ≤ B1 + 1 + 1; omega) _).setCell (p := ⟨B1 + 1 + 1, 1, none⟩) (by have := HB1.out; show w.heap.size ≤ B1 + 1 + 1; omega) _).setCell (p := ⟨B1 + 1 + 1, 2, none⟩) (by have := HB1.out; show w.heap.size ≤ B1 + 1 + 1; omega) _).setCell (p := ⟨B1 + 1 + 1, 3, none⟩) (by have := HB1.out; show w.heap.size ≤ B1 + 1 + 1; omega) _).setCell (p := ⟨B1 + 1 + 1, 4, none⟩) (by have := HB1.out; show w.heap.size ≤ B1 + 1 + 1; omega) _).setCell (p := ⟨B1 + 1 + 1, 5, none⟩) (by have := HB1.out; show w.heap.size ≤ B1 + 1 + 1; omega) _)⟩
  have hva : Hid (∀ w, Calls Tryd.prog 15 #[.agg #[.bool a.low.neg, .string a.low.num, .string a.low.den, .bool a.high.neg, .string a.high.num, .string a.high.den]] w (GivesB true w)) := Lib.hid (fun w => by have := pivalid_any a w; rwa [ha] at this)
  by_cases hb : okI b = true
  case neg =>
    have hb := Bool.eq_false_iff.2 hb
    have hvb : Hid (∀ w, Calls Tryd.prog 15 #[.agg #[.bool b.low.neg, .string b.low.num, .string b.low.den, .bool b.high.neg, .string b.high.num, .string b.high.den]] w (GivesB false w)) := Lib.hid (fun w => by have := pivalid_any b w; rwa [hb] at this)
    have HTT : Hid (t = (noI, false)) := Lib.hid (by rw [ht]; unfold meetI; rw [ha, hb]; rfl)
    clear ht ha hb
    go_enter Tryd.func17, Tryd.ntmps17
    go_wp2_with fail
    obtain ⟨B1, hB1⟩ : ∃ B, B = w.heap.size := ⟨_, rfl⟩
    obtain ⟨W1_0, hW1_0⟩ : ∃ W, W = w.alloc (Obj.cells #[Value.bool a.low.neg, Value.string a.low.num, Value.string a.low.den, Value.bool a.high.neg, Value.string a.high.num, Value.string a.high.den] 26) := ⟨_, rfl⟩
    have hb : Below w.heap.size w W1_0 := by rw [hW1_0]; exact (Below.refl _ _).alloc (Nat.le_refl _) _
    have hzW1_0 : w.heap.size = B1 := by rw [hB1]
    have hlW1_0 : IvAt (B1) a W1_0 := by rw [← hzW1_0, hW1_0]; exact ⟨heap_lastM _ _⟩
    have D1 := Lib.hid (D0.out.trans (hb.mono D0.out.size))
    clear hb
    have a_1 := Lib.hid hlW1_0
    clear hlW1_0
    obtain ⟨W1_1, hW1_1⟩ : ∃ W, W = W1_0.alloc (Obj.cells #[Value.bool b.low.neg, Value.string b.low.num, Value.string b.low.den, Value.bool b.high.neg, Value.string b.high.num, Value.string b.high.den] 26) := ⟨_, rfl⟩
    have hb : Below W1_0.heap.size W1_0 W1_1 := by rw [hW1_1]; exact (Below.refl _ _).alloc (Nat.le_refl _) _
    have hzW1_1 : W1_0.heap.size = B1 + 1 := by rw [hW1_0]; simp [hzW1_0]
    have hlW1_1 : IvAt (B1 + 1) b W1_1 := by rw [← hzW1_1, hW1_1]; exact ⟨heap_lastM _ _⟩
    have D2 := Lib.hid (D1.out.trans (hb.mono D1.out.size))
    have a_2 := Lib.hid (a_1.out.bel hb)
    clear D1 a_1
    clear hb
    have b_2 := Lib.hid hlW1_1
    clear hlW1_1
    obtain ⟨W1_2, hW1_2⟩ : ∃ W, W = W1_1.alloc (Obj.cells #[Value.bool false, Value.string ⟨#[]⟩, Value.string ⟨#[]⟩, Value.bool false, Value.string ⟨#[]⟩, Value.string ⟨#[]⟩] 26) := ⟨_, rfl⟩
    have hb : Below W1_1.heap.size W1_1 W1_2 := by rw [hW1_2]; exact (Below.refl _ _).alloc (Nat.le_refl _) _
    have hzW1_2 : W1_1.heap.size = B1 + 1 + 1 := by rw [hW1_1]; simp [hzW1_1]
    have hlW1_2 : IvAt (B1 + 1 + 1) noI W1_2 := by rw [← hzW1_2, hW1_2]; exact ⟨heap_lastM _ _⟩
    have D3 := Lib.hid (D2.out.trans (hb.mono D2.out.size))
    have a_3 := Lib.hid (a_2.out.bel hb)
    have b_3 := Lib.hid (b_2.out.bel hb)
    clear D2 a_2 b_2
    clear hb
    have z_3 := Lib.hid hlW1_2
    clear hlW1_2
    rw [← hW1_0]
    rw [← hW1_1]
    rw [← hW1_2]
    simp only [← hB1]
    have HW1_0 := Lib.hid hW1_0
    clear hW1_0 hzW1_0
    have HW1_1 := Lib.hid hW1_1
    clear hW1_1 hzW1_1
    have HW1_2 := Lib.hid hW1_2
    clear hW1_2 hzW1_2
    have HB1 := Lib.hid hB1
    clear hB1
    have ac0 := a_3.out.c0
    have ac1 := a_3.out.c1
    have ac2 := a_3.out.c2
    have ac3 := a_3.out.c3
    have ac4 := a_3.out.c4
    have ac5 := a_3.out.c5
    have bc0 := b_3.out.c0
    have bc1 := b_3.out.c1
    have bc2 := b_3.out.c2
    have bc3 := b_3.out.c3
    have bc4 := b_3.out.c4
    have bc5 := b_3.out.c5
    go_wp2_with fail
    clear ac0 ac1 ac2 ac3 ac4 ac5 bc0 bc1 bc2 bc3 bc4 bc5
    refine (hva.out _).mono ?_
    rintro e v4 ⟨rfl, hb⟩
    have D4 := Lib.hid (D3.out.trans (hb.mono D3.out.size))
    have a_4 := Lib.hid (a_3.out.bel hb)
    have b_4 := Lib.hid (b_3.out.bel hb)
    have z_4 := Lib.hid (z_3.out.bel hb)
    clear D3 a_3 b_3 z_3
    clear hb
    have ac0 := a_4.out.c0
    have ac1 := a_4.out.c1
    have ac2 := a_4.out.c2
    have ac3 := a_4.out.c3
    have ac4 := a_4.out.c4
    have ac5 := a_4.out.c5
    have bc0 := b_4.out.c0
    have bc1 := b_4.out.c1
    have bc2 := b_4.out.c2
    have bc3 := b_4.out.c3
    have bc4 := b_4.out.c4
    have bc5 := b_4.out.c5
    go_wp2_with fail
    clear ac0 ac1 ac2 ac3 ac4 ac5 bc0 bc1 bc2 bc3 bc4 bc5
    refine (hvb.out _).mono ?_
    rintro e v5 ⟨rfl, hb⟩
    have D5 := Lib.hid (D4.out.trans (hb.mono D4.out.size))
    have a_5 := Lib.hid (a_4.out.bel hb)
    have b_5 := Lib.hid (b_4.out.bel hb)
    have z_5 := Lib.hid (z_4.out.bel hb)
    clear D4 a_4 b_4 z_4
    clear hb
    have zc0 := z_5.out.c0
    have zf0 := z_5.out.fz 0
    have zc1 := z_5.out.c1
    have zf1 := z_5.out.fz 1
    have zc2 := z_5.out.c2
    have zf2 := z_5.out.fz 2
    have zc3 := z_5.out.c3
    have zf3 := z_5.out.fz 3
    have zc4 := z_5.out.c4
    have zf4 := z_5.out.fz 4
    have zc5 := z_5.out.c5
    have zf5 := z_5.out.fz 5
    go_wp2_with fail
    (try simp only [Exit.inBlock, Exit.then])
    refine bodyPost_ret (results_iv rfl _ _ (B1 + 1 + 1) noI _ rfl rfl (z_5.out.set noI)) rfl ?_; rw [HTT.out]; exact ⟨rfl, ((((((D5.out.setCell (p := ⟨B1 + 1 + 1, 0, none⟩) (by have := HB1.out; show w.heap.size ≤ B1 + 1 + 1; omega) _).setCell (p := ⟨B1 + 1 + 1, 1, none⟩) (by have := HB1.out; show w.heap.size ≤ B1 + 1 + 1; omega) _).setCell (p := ⟨B1 + 1 + 1, 2, none⟩) (by have := HB1.out; show w.heap.size ≤ B1 + 1 + 1; omega) _).setCell (p := ⟨B1 + 1 + 1, 3, none⟩) (by have := HB1.out; show w.heap.size ≤ B1 + 1 + 1; omega) _).setCell (p := ⟨B1 + 1 + 1, 4, none⟩) (by have := HB1.out; show w.heap.size ≤ B1 + 1 + 1; omega) _).setCell (p := ⟨B1 + 1 + 1, 5, none⟩) (by have := HB1.out; show w.heap.size ≤ B1 + 1 + 1; omega) _)⟩
  have hvb : Hid (∀ w, Calls Tryd.prog 15 #[.agg #[.bool b.low.neg, .string b.low.num, .string b.low.den, .bool b.high.neg, .string b.high.num, .string b.high.den]] w (GivesB true w)) := Lib.hid (fun w => by have := pivalid_any b w; rwa [hb] at this)
  obtain ⟨s1, hs1⟩ : ∃ s, s = sel noI moreL [a, b] := ⟨_, rfl⟩
  obtain ⟨s2, hs2⟩ : ∃ s, s = sel noI lessH [a, b] := ⟨_, rfl⟩
  have hcut : cutI a b = ⟨s1.low, s2.high⟩ := by rw [hs1, hs2]; exact (cutI_sel a b).symm
  have ht2 : t = if okI ⟨s1.low, s2.high⟩ then (⟨s1.low, s2.high⟩, true) else (noI, false) := by rw [ht, ← hcut]; unfold meetI; rw [ha, hb]; rfl
  have HS1 := Lib.hid hs1
  have HS2 := Lib.hid hs2
  clear ht ha hb hcut hs1 hs2
  have hvm : Hid (∀ w, Calls Tryd.prog 15 #[.agg #[.bool s1.low.neg, .string s1.low.num, .string s1.low.den, .bool s2.high.neg, .string s2.high.num, .string s2.high.den]] w (GivesB (okI ⟨s1.low, s2.high⟩) w)) := Lib.hid (fun w => pivalid_any ⟨s1.low, s2.high⟩ w)
  rcases Bool.eq_false_or_eq_true (okI ⟨s1.low, s2.high⟩) with ho | ho
  ·
    rw [ho] at hvm
    have HTT : Hid (t = (⟨s1.low, s2.high⟩, true)) := Lib.hid (by rw [ht2, ho]; rfl)
    clear ht2 ho
    go_enter Tryd.func17, Tryd.ntmps17
    go_wp2_with fail
    obtain ⟨B1, hB1⟩ : ∃ B, B = w.heap.size := ⟨_, rfl⟩
    obtain ⟨W1_0, hW1_0⟩ : ∃ W, W = w.alloc (Obj.cells #[Value.bool a.low.neg, Value.string a.low.num, Value.string a.low.den, Value.bool a.high.neg, Value.string a.high.num, Value.string a.high.den] 26) := ⟨_, rfl⟩
    have hb : Below w.heap.size w W1_0 := by rw [hW1_0]; exact (Below.refl _ _).alloc (Nat.le_refl _) _
    have hzW1_0 : w.heap.size = B1 := by rw [hB1]
    have hlW1_0 : IvAt (B1) a W1_0 := by rw [← hzW1_0, hW1_0]; exact ⟨heap_lastM _ _⟩
    have D1 := Lib.hid (D0.out.trans (hb.mono D0.out.size))
    clear hb
    have a_1 := Lib.hid hlW1_0
    clear hlW1_0
    obtain ⟨W1_1, hW1_1⟩ : ∃ W, W = W1_0.alloc (Obj.cells #[Value.bool b.low.neg, Value.string b.low.num, Value.string b.low.den, Value.bool b.high.neg, Value.string b.high.num, Value.string b.high.den] 26) := ⟨_, rfl⟩
    have hb : Below W1_0.heap.size W1_0 W1_1 := by rw [hW1_1]; exact (Below.refl _ _).alloc (Nat.le_refl _) _
    have hzW1_1 : W1_0.heap.size = B1 + 1 := by rw [hW1_0]; simp [hzW1_0]
    have hlW1_1 : IvAt (B1 + 1) b W1_1 := by rw [← hzW1_1, hW1_1]; exact ⟨heap_lastM _ _⟩
    have D2 := Lib.hid (D1.out.trans (hb.mono D1.out.size))
    have a_2 := Lib.hid (a_1.out.bel hb)
    clear D1 a_1
    clear hb
    have b_2 := Lib.hid hlW1_1
    clear hlW1_1
    obtain ⟨W1_2, hW1_2⟩ : ∃ W, W = W1_1.alloc (Obj.cells #[Value.bool false, Value.string ⟨#[]⟩, Value.string ⟨#[]⟩, Value.bool false, Value.string ⟨#[]⟩, Value.string ⟨#[]⟩] 26) := ⟨_, rfl⟩
    have hb : Below W1_1.heap.size W1_1 W1_2 := by rw [hW1_2]; exact (Below.refl _ _).alloc (Nat.le_refl _) _
    have hzW1_2 : W1_1.heap.size = B1 + 1 + 1 := by rw [hW1_1]; simp [hzW1_1]
    have hlW1_2 : IvAt (B1 + 1 + 1) noI W1_2 := by rw [← hzW1_2, hW1_2]; exact ⟨heap_lastM _ _⟩
    have D3 := Lib.hid (D2.out.trans (hb.mono D2.out.size))
    have a_3 := Lib.hid (a_2.out.bel hb)
    have b_3 := Lib.hid (b_2.out.bel hb)
    clear D2 a_2 b_2
    clear hb
    have z_3 := Lib.hid hlW1_2
    clear hlW1_2
    rw [← hW1_0]
    rw [← hW1_1]
    rw [← hW1_2]
    simp only [← hB1]
    have HW1_0 := Lib.hid hW1_0
    clear hW1_0 hzW1_0
    have HW1_1 := Lib.hid hW1_1
    clear hW1_1 hzW1_1
    have HW1_2 := Lib.hid hW1_2
    clear hW1_2 hzW1_2
    have HB1 := Lib.hid hB1
    clear hB1
    have ac0 := a_3.out.c0
    have ac1 := a_3.out.c1
    have ac2 := a_3.out.c2
    have ac3 := a_3.out.c3
    have ac4 := a_3.out.c4
    have ac5 := a_3.out.c5
    have bc0 := b_3.out.c0
    have bc1 := b_3.out.c1
    have bc2 := b_3.out.c2
    have bc3 := b_3.out.c3
    have bc4 := b_3.out.c4
    have bc5 := b_3.out.c5
    go_wp2_with fail
    clear ac0 ac1 ac2 ac3 ac4 ac5 bc0 bc1 bc2 bc3 bc4 bc5
    refine (hva.out _).mono ?_
    rintro e v4 ⟨rfl, hb⟩
    have D4 := Lib.hid (D3.out.trans (hb.mono D3.out.size))
    have a_4 := Lib.hid (a_3.out.bel hb)
    have b_4 := Lib.hid (b_3.out.bel hb)
    have z_4 := Lib.hid (z_3.out.bel hb)
    clear D3 a_3 b_3 z_3
    clear hb
    have ac0 := a_4.out.c0
    have ac1 := a_4.out.c1
    have ac2 := a_4.out.c2
    have ac3 := a_4.out.c3
    have ac4 := a_4.out.c4
    have ac5 := a_4.out.c5
    have bc0 := b_4.out.c0
    have bc1 := b_4.out.c1
    have bc2 := b_4.out.c2
    have bc3 := b_4.out.c3
    have bc4 := b_4.out.c4
    have bc5 := b_4.out.c5
    go_wp2_with fail
    clear ac0 ac1 ac2 ac3 ac4 ac5 bc0 bc1 bc2 bc3 bc4 bc5
    refine (hvb.out _).mono ?_
    rintro e v5 ⟨rfl, hb⟩
    have D5 := Lib.hid (D4.out.trans (hb.mono D4.out.size))
    have a_5 := Lib.hid (a_4.out.bel hb)
    have b_5 := Lib.hid (b_4.out.bel hb)
    have z_5 := Lib.hid (z_4.out.bel hb)
    clear D4 a_4 b_4 z_4
    clear hb
    have ac0 := a_5.out.c0
    have ac1 := a_5.out.c1
    have ac2 := a_5.out.c2
    have ac3 := a_5.out.c3
    have ac4 := a_5.out.c4
    have ac5 := a_5.out.c5
    have az := blk_lt a_5.out.cells
    have bc0 := b_5.out.c0
    have bc1 := b_5.out.c1
    have bc2 := b_5.out.c2
    have bc3 := b_5.out.c3
    have bc4 := b_5.out.c4
    have bc5 := b_5.out.c5
    have bz := blk_lt b_5.out.cells
    go_wp2_with fail
    clear ac0 ac1 ac2 ac3 ac4 ac5 az bc0 bc1 bc2 bc3 bc4 bc5 bz
    obtain ⟨B2, hB2⟩ : ∃ B, B = v5.heap.size := ⟨_, rfl⟩
    obtain ⟨W2_0, hW2_0⟩ : ∃ W, W = v5.alloc (Obj.cells #[Value.bool a.low.neg, Value.string a.low.num, Value.string a.low.den, Value.bool a.high.neg, Value.string a.high.num, Value.string a.high.den, Value.bool b.low.neg, Value.string b.low.num, Value.string b.low.den, Value.bool b.high.neg, Value.string b.high.num, Value.string b.high.den] 26) := ⟨_, rfl⟩
    have hb : Below v5.heap.size v5 W2_0 := by rw [hW2_0]; exact (Below.refl _ _).alloc (Nat.le_refl _) _
    have hzW2_0 : v5.heap.size = B2 := by rw [hB2]
    have D6 := Lib.hid (D5.out.trans (hb.mono D5.out.size))
    have a_6 := Lib.hid (a_5.out.bel hb)
    have b_6 := Lib.hid (b_5.out.bel hb)
    have z_6 := Lib.hid (z_5.out.bel hb)
    clear D5 a_5 b_5 z_5
    clear hb
    rw [← hW2_0]
    simp only [← hB2]
    have HW2_0 := Lib.hid hW2_0
    clear hW2_0 hzW2_0
    have HB2 := Lib.hid hB2
    clear hB2
    have hrow : IvsIn W2_0 B2 0 [a, b] := by rw [HW2_0.out, HB2.out]; exact pair_in a b _
    have HROW := Lib.hid hrow; clear hrow
    refine (pfirst2_any _ moreL B2 a b _ callMoreL HROW.out).mono ?_
    rintro e v7 ⟨rfl, hb⟩
    have HROWB : Hid (IvsIn v7 B2 0 [a, b]) := Lib.hid (HROW.out.bel hb)
    have D7 := Lib.hid (D6.out.trans (hb.mono D6.out.size))
    have a_7 := Lib.hid (a_6.out.bel hb)
    have b_7 := Lib.hid (b_6.out.bel hb)
    have z_7 := Lib.hid (z_6.out.bel hb)
    clear D6 a_6 b_6 z_6
    clear hb
    simp only [← HS1.out]
    have zl := run_low5 s1
    go_wp2_with fail
    clear zl
    have hrow2 : IvsIn v7 B2 0 [a, b] := HROWB.out
    refine (pfirst2_any _ lessH B2 a b _ callLessH hrow2).mono ?_
    rintro e v8 ⟨rfl, hb⟩
    have D8 := Lib.hid (D7.out.trans (hb.mono D7.out.size))
    have a_8 := Lib.hid (a_7.out.bel hb)
    have b_8 := Lib.hid (b_7.out.bel hb)
    have z_8 := Lib.hid (z_7.out.bel hb)
    clear D7 a_7 b_7 z_7
    clear hb
    simp only [← HS2.out]
    clear hrow2; have zh := run_high5 s2
    go_wp2_with fail
    clear zh
    obtain ⟨B3, hB3⟩ : ∃ B, B = v8.heap.size := ⟨_, rfl⟩
    obtain ⟨W3_0, hW3_0⟩ : ∃ W, W = v8.alloc (Obj.cells #[Value.bool s1.low.neg, Value.string s1.low.num, Value.string s1.low.den, Value.bool s2.high.neg, Value.string s2.high.num, Value.string s2.high.den] 26) := ⟨_, rfl⟩
    have hb : Below v8.heap.size v8 W3_0 := by rw [hW3_0]; exact (Below.refl _ _).alloc (Nat.le_refl _) _
    have hzW3_0 : v8.heap.size = B3 := by rw [hB3]
    have hlW3_0 : IvAt (B3) (⟨s1.low, s2.high⟩ : Iv) W3_0 := by rw [← hzW3_0, hW3_0]; exact ⟨heap_lastM _ _⟩
    have D9 := Lib.hid (D8.out.trans (hb.mono D8.out.size))
    have a_9 := Lib.hid (a_8.out.bel hb)
    have b_9 := Lib.hid (b_8.out.bel hb)
    have z_9 := Lib.hid (z_8.out.bel hb)
    clear D8 a_8 b_8 z_8
    clear hb
    have m_9 := Lib.hid hlW3_0
    clear hlW3_0
    rw [← hW3_0]
    simp only [← hB3]
    have HW3_0 := Lib.hid hW3_0
    clear hW3_0 hzW3_0
    have HB3 := Lib.hid hB3
    clear hB3
    refine (hvm.out _).mono ?_
    rintro e v10 ⟨rfl, hb⟩
    have D10 := Lib.hid (D9.out.trans (hb.mono D9.out.size))
    have a_10 := Lib.hid (a_9.out.bel hb)
    have b_10 := Lib.hid (b_9.out.bel hb)
    have z_10 := Lib.hid (z_9.out.bel hb)
    have m_10 := Lib.hid (m_9.out.bel hb)
    clear D9 a_9 b_9 z_9 m_9
    clear hb
    have mc0 := m_10.out.c0
    have mc1 := m_10.out.c1
    have mc2 := m_10.out.c2
    have mc3 := m_10.out.c3
    have mc4 := m_10.out.c4
    have mc5 := m_10.out.c5
    have zc0 := z_10.out.c0
    have zf0 := z_10.out.fz 0
    have zc1 := z_10.out.c1
    have zf1 := z_10.out.fz 1
    have zc2 := z_10.out.c2
    have zf2 := z_10.out.fz 2
    have zc3 := z_10.out.c3
    have zf3 := z_10.out.fz 3
    have zc4 := z_10.out.c4
    have zf4 := z_10.out.fz 4
    have zc5 := z_10.out.c5
    have zf5 := z_10.out.fz 5
    go_wp2_with fail
    (try simp only [Exit.inBlock, Exit.then])
    refine bodyPost_ret (results_iv rfl _ _ (B1 + 1 + 1) ⟨s1.low, s2.high⟩ _ rfl rfl (z_10.out.set ⟨s1.low, s2.high⟩)) rfl ?_; rw [HTT.out]; exact ⟨rfl, ((((((D10.out.setCell (p := ⟨B1 + 1 + 1, 0, none⟩) (by have := HB1.out; show w.heap.size ≤ B1 + 1 + 1; omega) _).setCell (p := ⟨B1 + 1 + 1, 1, none⟩) (by have := HB1.out; show w.heap.size ≤ B1 + 1 + 1; omega) _).setCell (p := ⟨B1 + 1 + 1, 2, none⟩) (by have := HB1.out; show w.heap.size ≤ B1 + 1 + 1; omega) _).setCell (p := ⟨B1 + 1 + 1, 3, none⟩) (by have := HB1.out; show w.heap.size ≤ B1 + 1 + 1; omega) _).setCell (p := ⟨B1 + 1 + 1, 4, none⟩) (by have := HB1.out; show w.heap.size ≤ B1 + 1 + 1; omega) _).setCell (p := ⟨B1 + 1 + 1, 5, none⟩) (by have := HB1.out; show w.heap.size ≤ B1 + 1 + 1; omega) _)⟩
  ·
    rw [ho] at hvm
    have HTT : Hid (t = (noI, false)) := Lib.hid (by rw [ht2, ho]; rfl)
    clear ht2 ho
    go_enter Tryd.func17, Tryd.ntmps17
    go_wp2_with fail
    obtain ⟨B1, hB1⟩ : ∃ B, B = w.heap.size := ⟨_, rfl⟩
    obtain ⟨W1_0, hW1_0⟩ : ∃ W, W = w.alloc (Obj.cells #[Value.bool a.low.neg, Value.string a.low.num, Value.string a.low.den, Value.bool a.high.neg, Value.string a.high.num, Value.string a.high.den] 26) := ⟨_, rfl⟩
    have hb : Below w.heap.size w W1_0 := by rw [hW1_0]; exact (Below.refl _ _).alloc (Nat.le_refl _) _
    have hzW1_0 : w.heap.size = B1 := by rw [hB1]
    have hlW1_0 : IvAt (B1) a W1_0 := by rw [← hzW1_0, hW1_0]; exact ⟨heap_lastM _ _⟩
    have D1 := Lib.hid (D0.out.trans (hb.mono D0.out.size))
    clear hb
    have a_1 := Lib.hid hlW1_0
    clear hlW1_0
    obtain ⟨W1_1, hW1_1⟩ : ∃ W, W = W1_0.alloc (Obj.cells #[Value.bool b.low.neg, Value.string b.low.num, Value.string b.low.den, Value.bool b.high.neg, Value.string b.high.num, Value.string b.high.den] 26) := ⟨_, rfl⟩
    have hb : Below W1_0.heap.size W1_0 W1_1 := by rw [hW1_1]; exact (Below.refl _ _).alloc (Nat.le_refl _) _
    have hzW1_1 : W1_0.heap.size = B1 + 1 := by rw [hW1_0]; simp [hzW1_0]
    have hlW1_1 : IvAt (B1 + 1) b W1_1 := by rw [← hzW1_1, hW1_1]; exact ⟨heap_lastM _ _⟩
    have D2 := Lib.hid (D1.out.trans (hb.mono D1.out.size))
    have a_2 := Lib.hid (a_1.out.bel hb)
    clear D1 a_1
    clear hb
    have b_2 := Lib.hid hlW1_1
    clear hlW1_1
    obtain ⟨W1_2, hW1_2⟩ : ∃ W, W = W1_1.alloc (Obj.cells #[Value.bool false, Value.string ⟨#[]⟩, Value.string ⟨#[]⟩, Value.bool false, Value.string ⟨#[]⟩, Value.string ⟨#[]⟩] 26) := ⟨_, rfl⟩
    have hb : Below W1_1.heap.size W1_1 W1_2 := by rw [hW1_2]; exact (Below.refl _ _).alloc (Nat.le_refl _) _
    have hzW1_2 : W1_1.heap.size = B1 + 1 + 1 := by rw [hW1_1]; simp [hzW1_1]
    have hlW1_2 : IvAt (B1 + 1 + 1) noI W1_2 := by rw [← hzW1_2, hW1_2]; exact ⟨heap_lastM _ _⟩
    have D3 := Lib.hid (D2.out.trans (hb.mono D2.out.size))
    have a_3 := Lib.hid (a_2.out.bel hb)
    have b_3 := Lib.hid (b_2.out.bel hb)
    clear D2 a_2 b_2
    clear hb
    have z_3 := Lib.hid hlW1_2
    clear hlW1_2
    rw [← hW1_0]
    rw [← hW1_1]
    rw [← hW1_2]
    simp only [← hB1]
    have HW1_0 := Lib.hid hW1_0
    clear hW1_0 hzW1_0
    have HW1_1 := Lib.hid hW1_1
    clear hW1_1 hzW1_1
    have HW1_2 := Lib.hid hW1_2
    clear hW1_2 hzW1_2
    have HB1 := Lib.hid hB1
    clear hB1
    have ac0 := a_3.out.c0
    have ac1 := a_3.out.c1
    have ac2 := a_3.out.c2
    have ac3 := a_3.out.c3
    have ac4 := a_3.out.c4
    have ac5 := a_3.out.c5
    have bc0 := b_3.out.c0
    have bc1 := b_3.out.c1
    have bc2 := b_3.out.c2
    have bc3 := b_3.out.c3
    have bc4 := b_3.out.c4
    have bc5 := b_3.out.c5
    go_wp2_with fail
    clear ac0 ac1 ac2 ac3 ac4 ac5 bc0 bc1 bc2 bc3 bc4 bc5
    refine (hva.out _).mono ?_
    rintro e v4 ⟨rfl, hb⟩
    have D4 := Lib.hid (D3.out.trans (hb.mono D3.out.size))
    have a_4 := Lib.hid (a_3.out.bel hb)
    have b_4 := Lib.hid (b_3.out.bel hb)
    have z_4 := Lib.hid (z_3.out.bel hb)
    clear D3 a_3 b_3 z_3
    clear hb
    have ac0 := a_4.out.c0
    have ac1 := a_4.out.c1
    have ac2 := a_4.out.c2
    have ac3 := a_4.out.c3
    have ac4 := a_4.out.c4
    have ac5 := a_4.out.c5
    have bc0 := b_4.out.c0
    have bc1 := b_4.out.c1
    have bc2 := b_4.out.c2
    have bc3 := b_4.out.c3
    have bc4 := b_4.out.c4
    have bc5 := b_4.out.c5
    go_wp2_with fail
    clear ac0 ac1 ac2 ac3 ac4 ac5 bc0 bc1 bc2 bc3 bc4 bc5
    refine (hvb.out _).mono ?_
    rintro e v5 ⟨rfl, hb⟩
    have D5 := Lib.hid (D4.out.trans (hb.mono D4.out.size))
    have a_5 := Lib.hid (a_4.out.bel hb)
    have b_5 := Lib.hid (b_4.out.bel hb)
    have z_5 := Lib.hid (z_4.out.bel hb)
    clear D4 a_4 b_4 z_4
    clear hb
    have ac0 := a_5.out.c0
    have ac1 := a_5.out.c1
    have ac2 := a_5.out.c2
    have ac3 := a_5.out.c3
    have ac4 := a_5.out.c4
    have ac5 := a_5.out.c5
    have az := blk_lt a_5.out.cells
    have bc0 := b_5.out.c0
    have bc1 := b_5.out.c1
    have bc2 := b_5.out.c2
    have bc3 := b_5.out.c3
    have bc4 := b_5.out.c4
    have bc5 := b_5.out.c5
    have bz := blk_lt b_5.out.cells
    go_wp2_with fail
    clear ac0 ac1 ac2 ac3 ac4 ac5 az bc0 bc1 bc2 bc3 bc4 bc5 bz
    obtain ⟨B2, hB2⟩ : ∃ B, B = v5.heap.size := ⟨_, rfl⟩
    obtain ⟨W2_0, hW2_0⟩ : ∃ W, W = v5.alloc (Obj.cells #[Value.bool a.low.neg, Value.string a.low.num, Value.string a.low.den, Value.bool a.high.neg, Value.string a.high.num, Value.string a.high.den, Value.bool b.low.neg, Value.string b.low.num, Value.string b.low.den, Value.bool b.high.neg, Value.string b.high.num, Value.string b.high.den] 26) := ⟨_, rfl⟩
    have hb : Below v5.heap.size v5 W2_0 := by rw [hW2_0]; exact (Below.refl _ _).alloc (Nat.le_refl _) _
    have hzW2_0 : v5.heap.size = B2 := by rw [hB2]
    have D6 := Lib.hid (D5.out.trans (hb.mono D5.out.size))
    have a_6 := Lib.hid (a_5.out.bel hb)
    have b_6 := Lib.hid (b_5.out.bel hb)
    have z_6 := Lib.hid (z_5.out.bel hb)
    clear D5 a_5 b_5 z_5
    clear hb
    rw [← hW2_0]
    simp only [← hB2]
    have HW2_0 := Lib.hid hW2_0
    clear hW2_0 hzW2_0
    have HB2 := Lib.hid hB2
    clear hB2
    have hrow : IvsIn W2_0 B2 0 [a, b] := by rw [HW2_0.out, HB2.out]; exact pair_in a b _
    have HROW := Lib.hid hrow; clear hrow
    refine (pfirst2_any _ moreL B2 a b _ callMoreL HROW.out).mono ?_
    rintro e v7 ⟨rfl, hb⟩
    have HROWB : Hid (IvsIn v7 B2 0 [a, b]) := Lib.hid (HROW.out.bel hb)
    have D7 := Lib.hid (D6.out.trans (hb.mono D6.out.size))
    have a_7 := Lib.hid (a_6.out.bel hb)
    have b_7 := Lib.hid (b_6.out.bel hb)
    have z_7 := Lib.hid (z_6.out.bel hb)
    clear D6 a_6 b_6 z_6
    clear hb
    simp only [← HS1.out]
    have zl := run_low5 s1
    go_wp2_with fail
    clear zl
    have hrow2 : IvsIn v7 B2 0 [a, b] := HROWB.out
    refine (pfirst2_any _ lessH B2 a b _ callLessH hrow2).mono ?_
    rintro e v8 ⟨rfl, hb⟩
    have D8 := Lib.hid (D7.out.trans (hb.mono D7.out.size))
    have a_8 := Lib.hid (a_7.out.bel hb)
    have b_8 := Lib.hid (b_7.out.bel hb)
    have z_8 := Lib.hid (z_7.out.bel hb)
    clear D7 a_7 b_7 z_7
    clear hb
    simp only [← HS2.out]
    clear hrow2; have zh := run_high5 s2
    go_wp2_with fail
    clear zh
    obtain ⟨B3, hB3⟩ : ∃ B, B = v8.heap.size := ⟨_, rfl⟩
    obtain ⟨W3_0, hW3_0⟩ : ∃ W, W = v8.alloc (Obj.cells #[Value.bool s1.low.neg, Value.string s1.low.num, Value.string s1.low.den, Value.bool s2.high.neg, Value.string s2.high.num, Value.string s2.high.den] 26) := ⟨_, rfl⟩
    have hb : Below v8.heap.size v8 W3_0 := by rw [hW3_0]; exact (Below.refl _ _).alloc (Nat.le_refl _) _
    have hzW3_0 : v8.heap.size = B3 := by rw [hB3]
    have hlW3_0 : IvAt (B3) (⟨s1.low, s2.high⟩ : Iv) W3_0 := by rw [← hzW3_0, hW3_0]; exact ⟨heap_lastM _ _⟩
    have D9 := Lib.hid (D8.out.trans (hb.mono D8.out.size))
    have a_9 := Lib.hid (a_8.out.bel hb)
    have b_9 := Lib.hid (b_8.out.bel hb)
    have z_9 := Lib.hid (z_8.out.bel hb)
    clear D8 a_8 b_8 z_8
    clear hb
    have m_9 := Lib.hid hlW3_0
    clear hlW3_0
    rw [← hW3_0]
    simp only [← hB3]
    have HW3_0 := Lib.hid hW3_0
    clear hW3_0 hzW3_0
    have HB3 := Lib.hid hB3
    clear hB3
    refine (hvm.out _).mono ?_
    rintro e v10 ⟨rfl, hb⟩
    have D10 := Lib.hid (D9.out.trans (hb.mono D9.out.size))
    have a_10 := Lib.hid (a_9.out.bel hb)
    have b_10 := Lib.hid (b_9.out.bel hb)
    have z_10 := Lib.hid (z_9.out.bel hb)
    have m_10 := Lib.hid (m_9.out.bel hb)
    clear D9 a_9 b_9 z_9 m_9
    clear hb
    have mc0 := m_10.out.c0
    have mc1 := m_10.out.c1
    have mc2 := m_10.out.c2
    have mc3 := m_10.out.c3
    have mc4 := m_10.out.c4
    have mc5 := m_10.out.c5
    have zc0 := z_10.out.c0
    have zf0 := z_10.out.fz 0
    have zc1 := z_10.out.c1
    have zf1 := z_10.out.fz 1
    have zc2 := z_10.out.c2
    have zf2 := z_10.out.fz 2
    have zc3 := z_10.out.c3
    have zf3 := z_10.out.fz 3
    have zc4 := z_10.out.c4
    have zf4 := z_10.out.fz 4
    have zc5 := z_10.out.c5
    have zf5 := z_10.out.fz 5
    go_wp2_with fail
    (try simp only [Exit.inBlock, Exit.then])
    refine bodyPost_ret (results_iv rfl _ _ (B1 + 1 + 1) noI _ rfl rfl (z_10.out.set noI)) rfl ?_; rw [HTT.out]; exact ⟨rfl, ((((((D10.out.setCell (p := ⟨B1 + 1 + 1, 0, none⟩) (by have := HB1.out; show w.heap.size ≤ B1 + 1 + 1; omega) _).setCell (p := ⟨B1 + 1 + 1, 1, none⟩) (by have := HB1.out; show w.heap.size ≤ B1 + 1 + 1; omega) _).setCell (p := ⟨B1 + 1 + 1, 2, none⟩) (by have := HB1.out; show w.heap.size ≤ B1 + 1 + 1; omega) _).setCell (p := ⟨B1 + 1 + 1, 3, none⟩) (by have := HB1.out; show w.heap.size ≤ B1 + 1 + 1; omega) _).setCell (p := ⟨B1 + 1 + 1, 4, none⟩) (by have := HB1.out; show w.heap.size ≤ B1 + 1 + 1; omega) _).setCell (p := ⟨B1 + 1 + 1, 5, none⟩) (by have := HB1.out; show w.heap.size ≤ B1 + 1 + 1; omega) _)⟩
set_option maxHeartbeats 4000000 in
theorem phull_none (a : Option Addr) (cap : Nat) (w : World) : Calls Tryd.prog 16 #[.slice a 0 cap] w (GivesI (noI, 10) w) := by
  have D0 := Lib.hid (Below.refl w.heap.size w)
  go_enter Tryd.func16, Tryd.ntmps16
  go_wp2_with fail
  obtain ⟨B1, hB1⟩ : ∃ B, B = w.heap.size := ⟨_, rfl⟩
  obtain ⟨W1_0, hW1_0⟩ : ∃ W, W = w.alloc (Obj.cells #[Value.bool false, Value.string ⟨#[]⟩, Value.string ⟨#[]⟩, Value.bool false, Value.string ⟨#[]⟩, Value.string ⟨#[]⟩] 26) := ⟨_, rfl⟩
  have hb : Below w.heap.size w W1_0 := by rw [hW1_0]; exact (Below.refl _ _).alloc (Nat.le_refl _) _
  have hzW1_0 : w.heap.size = B1 := by rw [hB1]
  have hlW1_0 : IvAt (B1) noI W1_0 := by rw [← hzW1_0, hW1_0]; exact ⟨heap_lastM _ _⟩
  have D1 := Lib.hid (D0.out.trans (hb.mono D0.out.size))
  clear hb
  have z_1 := Lib.hid hlW1_0
  clear hlW1_0
  rw [← hW1_0]
  simp only [← hB1]
  have HW1_0 := Lib.hid hW1_0
  clear hW1_0 hzW1_0
  have HB1 := Lib.hid hB1
  clear hB1
  go_loopw [12] (fun i wr => i = .int .i64 0 ∧ Hid (Below w.heap.size w wr) ∧ Hid (IvAt B1 noI wr)) (fun _ _ => 0)
  case atStart => exact ⟨rfl, D1, z_1⟩
  case round =>
    obtain ⟨rfl, hB, hz⟩ := hrel
    clear D1 z_1
    have zc0 := hz.out.c0
    have zf0 := hz.out.fz 0
    have zc1 := hz.out.c1
    have zf1 := hz.out.fz 1
    have zc2 := hz.out.c2
    have zf2 := hz.out.fz 2
    have zc3 := hz.out.c3
    have zf3 := hz.out.fz 3
    have zc4 := hz.out.c4
    have zf4 := hz.out.fz 4
    have zc5 := hz.out.c5
    have zf5 := hz.out.fz 5
    go_wp2_with fail
    (try simp only [Exit.inBlock, Exit.then])
    refine bodyPost_ret (results_iv rfl _ _ (B1) noI _ rfl rfl (hz.out.set noI)) rfl ?_; skip; exact ⟨rfl, ((((((hB.out.setCell (p := ⟨B1, 0, none⟩) (by have := HB1.out; show w.heap.size ≤ B1; omega) _).setCell (p := ⟨B1, 1, none⟩) (by have := HB1.out; show w.heap.size ≤ B1; omega) _).setCell (p := ⟨B1, 2, none⟩) (by have := HB1.out; show w.heap.size ≤ B1; omega) _).setCell (p := ⟨B1, 3, none⟩) (by have := HB1.out; show w.heap.size ≤ B1; omega) _).setCell (p := ⟨B1, 4, none⟩) (by have := HB1.out; show w.heap.size ≤ B1; omega) _).setCell (p := ⟨B1, 5, none⟩) (by have := HB1.out; show w.heap.size ≤ B1; omega) _)⟩
set_option maxHeartbeats 4000000 in
theorem phull_long (b off cap : Nat) (l : List Iv) (w : World) (h : 1000 < l.length) : Calls Tryd.prog 16 #[.slice (some ⟨b, off, none⟩) l.length cap] w (GivesI (noI, 2) w) := by
  have D0 := Lib.hid (Below.refl w.heap.size w)
  have hn : decide ((1000 : Int) < (l.length : Int)) = true := decide_eq_true (by omega)
  have HN := Lib.hid h
  clear h
  go_enter Tryd.func16, Tryd.ntmps16
  go_wp2_with fail
  (try simp only [Exit.inBlock, Exit.then])
  refine bodyPost_ret (results_iv rfl _ _ w.heap.size noI _ rfl rfl ⟨heap_lastM _ _⟩) rfl ?_; exact ⟨rfl, (Below.refl _ _).alloc (Nat.le_refl _) _⟩
set_option maxHeartbeats 8000000 in
theorem phull_some (b off cap : Nat) (l : List Iv) (w : World) (h0 : 0 < l.length) (h1000 : l.length ≤ 1000) (hl : l.length ≤ cap) (hcap : cap ≤ maxLen) (hc : IvsIn w b off l) :
    Calls Tryd.prog 16 #[.slice (some ⟨b, off, none⟩) l.length cap] w (GivesI (hullI l) w) := by
  have D0 := Lib.hid (Below.refl w.heap.size w)
  obtain ⟨t, ht⟩ : ∃ t, t = hullI l := ⟨_, rfl⟩
  rw [← ht]
  have HT := Lib.hid ht
  have HC := Lib.hid hc
  have HCAP := Lib.hid hcap
  have hn : decide ((1000 : Int) < (l.length : Int)) = false := decide_eq_false (by omega)
  have hq : ((l.length : Int) == 0) = false := by rw [beq_eq_false_iff_ne]; omega
  have HQ := Lib.hid hq
  unfold maxLen at hcap
  clear ht hc hq
  go_enter Tryd.func16, Tryd.ntmps16
  go_wp2_with fail
  obtain ⟨B1, hB1⟩ : ∃ B, B = w.heap.size := ⟨_, rfl⟩
  obtain ⟨W1_0, hW1_0⟩ : ∃ W, W = w.alloc (Obj.cells #[Value.bool false, Value.string ⟨#[]⟩, Value.string ⟨#[]⟩, Value.bool false, Value.string ⟨#[]⟩, Value.string ⟨#[]⟩] 26) := ⟨_, rfl⟩
  have hb : Below w.heap.size w W1_0 := by rw [hW1_0]; exact (Below.refl _ _).alloc (Nat.le_refl _) _
  have hzW1_0 : w.heap.size = B1 := by rw [hB1]
  have hlW1_0 : IvAt (B1) noI W1_0 := by rw [← hzW1_0, hW1_0]; exact ⟨heap_lastM _ _⟩
  have D1 := Lib.hid (D0.out.trans (hb.mono D0.out.size))
  clear hb
  have z_1 := Lib.hid hlW1_0
  clear hlW1_0
  rw [← hW1_0]
  simp only [← hB1]
  have HW1_0 := Lib.hid hW1_0
  clear hW1_0 hzW1_0
  have HB1 := Lib.hid hB1
  clear hB1
  clear hn
  go_loopw [12] (fun i wr => ∃ k : Nat, k ≤ l.length ∧ i = .int .i64 k ∧ Hid (Below w.heap.size w wr) ∧ Hid (IvAt B1 noI wr) ∧ Hid (∀ j (hj : j < l.length), j < k → okI l[j] = true)) (fun i _ => l.length - (intOf i).toNat)
  case atStart => exact ⟨0, by omega, rfl, D1, z_1, Lib.hid (fun j _ h => absurd h (by omega))⟩
  case round =>
    obtain ⟨k, hk, rfl, hB, hz, hx⟩ := hrel
    clear D1 z_1
    by_cases hlt : k < l.length
    ·
      obtain ⟨el, hel⟩ : ∃ x, x = l[k] := ⟨_, rfl⟩
      obtain ⟨e0, e1, e2, e3, e4, e5⟩ := ivsCell5 (HC.out.bel hB.out) k hlt
      rw [← hel] at e0 e1 e2 e3 e4 e5
      have HEL := Lib.hid hel; clear hel
      go_wp2_with fail
      obtain ⟨B6, hB6⟩ : ∃ B, B = wr.heap.size := ⟨_, rfl⟩
      obtain ⟨W6_0, hW6_0⟩ : ∃ W, W = wr.alloc (Obj.cells #[Value.bool el.low.neg, Value.string el.low.num, Value.string el.low.den, Value.bool el.high.neg, Value.string el.high.num, Value.string el.high.den] 26) := ⟨_, rfl⟩
      have hb : Below wr.heap.size wr W6_0 := by rw [hW6_0]; exact (Below.refl _ _).alloc (Nat.le_refl _) _
      have hzW6_0 : wr.heap.size = B6 := by rw [hB6]
      have hlW6_0 : IvAt (B6) el W6_0 := by rw [← hzW6_0, hW6_0]; exact ⟨heap_lastM _ _⟩
      have D51 := Lib.hid (hB.out.trans (hb.mono hB.out.size))
      have z_51 := Lib.hid (hz.out.bel hb)
      clear hB hz
      clear hb
      have e_51 := Lib.hid hlW6_0
      clear hlW6_0
      rw [← hW6_0]
      simp only [← hB6]
      have HW6_0 := Lib.hid hW6_0
      clear hW6_0 hzW6_0
      have HB6 := Lib.hid hB6
      clear hB6
      clear e0 e1 e2 e3 e4 e5
      refine (pivalid_any el _).mono ?_
      rintro e v52 ⟨rfl, hb⟩
      have D52 := Lib.hid (D51.out.trans (hb.mono D51.out.size))
      have z_52 := Lib.hid (z_51.out.bel hb)
      have e_52 := Lib.hid (e_51.out.bel hb)
      clear D51 z_51 e_51
      clear hb
      rcases Bool.eq_false_or_eq_true (okI el) with hbf | hbf
      ·
        rw [hbf]; have HBF := Lib.hid hbf; clear hbf
        go_wp2_with fail
        go_roundw
        case rel => exact ⟨k + 1, by omega, by go_num, D52, z_52, Lib.hid (all_next hx.out hlt (by rw [← HEL.out]; exact HBF.out))⟩
        case measure => simp [intOf]; omega
      ·
        rw [hbf]; have HBF := Lib.hid hbf; clear hbf
        have HTT : Hid (t = (noI, 1)) := Lib.hid (by rw [HT.out]; unfold hullI; rw [if_neg (by omega), if_neg]; rw [List.all_eq_true]; intro h; have := h l[k] (List.getElem_mem hlt); rw [← HEL.out, HBF.out] at this; cases this)
        have zc0 := z_52.out.c0
        have zf0 := z_52.out.fz 0
        have zc1 := z_52.out.c1
        have zf1 := z_52.out.fz 1
        have zc2 := z_52.out.c2
        have zf2 := z_52.out.fz 2
        have zc3 := z_52.out.c3
        have zf3 := z_52.out.fz 3
        have zc4 := z_52.out.c4
        have zf4 := z_52.out.fz 4
        have zc5 := z_52.out.c5
        have zf5 := z_52.out.fz 5
        go_wp2_with fail
        (try simp only [Exit.inBlock, Exit.then])
        refine bodyPost_ret (results_iv rfl _ _ (B1) noI _ rfl rfl (z_52.out.set noI)) rfl ?_; rw [HTT.out]; exact ⟨rfl, ((((((D52.out.setCell (p := ⟨B1, 0, none⟩) (by have := HB1.out; show w.heap.size ≤ B1; omega) _).setCell (p := ⟨B1, 1, none⟩) (by have := HB1.out; show w.heap.size ≤ B1; omega) _).setCell (p := ⟨B1, 2, none⟩) (by have := HB1.out; show w.heap.size ≤ B1; omega) _).setCell (p := ⟨B1, 3, none⟩) (by have := HB1.out; show w.heap.size ≤ B1; omega) _).setCell (p := ⟨B1, 4, none⟩) (by have := HB1.out; show w.heap.size ≤ B1; omega) _).setCell (p := ⟨B1, 5, none⟩) (by have := HB1.out; show w.heap.size ≤ B1; omega) _)⟩
    ·
      have HTT : Hid (t = (⟨(sel noI lessL l).low, (sel noI moreH l).high⟩, 0)) := Lib.hid (by rw [HT.out]; refine hullI_sel (fun e => by subst e; simp at h0) h1000 ?_; rw [List.all_eq_true]; intro i hi; obtain ⟨j, hj, rfl⟩ := List.getElem_of_mem hi; exact hx.out j hj (by omega))
      obtain ⟨s1, hs1⟩ : ∃ s, s = sel noI lessL l := ⟨_, rfl⟩
      obtain ⟨s2, hs2⟩ : ∃ s, s = sel noI moreH l := ⟨_, rfl⟩
      rw [← hs1, ← hs2] at HTT
      have HS1 := Lib.hid hs1; have HS2 := Lib.hid hs2; clear hs1 hs2
      have HROW : Hid (IvsIn wr b off l) := Lib.hid (HC.out.bel hB.out)
      have hq := HQ.out
      go_wp2_with fail
      clear hq
      refine (pfirstI_any _ lessL b off cap l _ callLessL h0 hl HCAP.out HROW.out).mono ?_
      rintro e v71 ⟨rfl, hb⟩
      have HROWB := Lib.hid (HROW.out.bel hb); clear HROW
      have D71 := Lib.hid (hB.out.trans (hb.mono hB.out.size))
      have z_71 := Lib.hid (hz.out.bel hb)
      clear hB hz
      clear hb
      simp only [← HS1.out]
      have zl := run_low5 s1
      go_wp2_with fail
      clear zl
      refine (pfirstI_any _ moreH b off cap l _ callMoreH h0 hl HCAP.out HROWB.out).mono ?_
      rintro e v72 ⟨rfl, hb⟩
      have D72 := Lib.hid (D71.out.trans (hb.mono D71.out.size))
      have z_72 := Lib.hid (z_71.out.bel hb)
      clear D71 z_71
      clear hb
      simp only [← HS2.out]
      have zh := run_high5 s2
      have zc0 := z_72.out.c0
      have zf0 := z_72.out.fz 0
      have zc1 := z_72.out.c1
      have zf1 := z_72.out.fz 1
      have zc2 := z_72.out.c2
      have zf2 := z_72.out.fz 2
      have zc3 := z_72.out.c3
      have zf3 := z_72.out.fz 3
      have zc4 := z_72.out.c4
      have zf4 := z_72.out.fz 4
      have zc5 := z_72.out.c5
      have zf5 := z_72.out.fz 5
      go_wp2_with fail
      (try simp only [Exit.inBlock, Exit.then])
      refine bodyPost_ret (results_iv rfl _ _ (B1) ⟨s1.low, s2.high⟩ _ rfl rfl (z_72.out.set ⟨s1.low, s2.high⟩)) rfl ?_; rw [HTT.out]; exact ⟨rfl, ((((((D72.out.setCell (p := ⟨B1, 0, none⟩) (by have := HB1.out; show w.heap.size ≤ B1; omega) _).setCell (p := ⟨B1, 1, none⟩) (by have := HB1.out; show w.heap.size ≤ B1; omega) _).setCell (p := ⟨B1, 2, none⟩) (by have := HB1.out; show w.heap.size ≤ B1; omega) _).setCell (p := ⟨B1, 3, none⟩) (by have := HB1.out; show w.heap.size ≤ B1; omega) _).setCell (p := ⟨B1, 4, none⟩) (by have := HB1.out; show w.heap.size ≤ B1; omega) _).setCell (p := ⟨B1, 5, none⟩) (by have := HB1.out; show w.heap.size ≤ B1; omega) _)⟩
theorem pihull_any (v : Value) (l : List Iv) (w : World) (h : IvsOk w v l) : Calls Tryd.prog 16 #[v] w (GivesI (hullI l) w) := by
  rcases h.form with ⟨rfl, a, cap, rfl⟩ | ⟨h0, b, off, cap, rfl, h1, h2, hc⟩
  · exact phull_none a cap w
  · by_cases h1000 : l.length ≤ 1000
    · exact phull_some b off cap l w h0 h1000 h1 h2 hc
    · have e : hullI l = (noI, 2) := by unfold hullI; rw [if_pos (by omega)]
      rw [e]; exact phull_long b off cap l w (by omega)
end Go.Proofs.YtbcoblpnihdhgaaDoor
