/-
  The walk of IntervalHulls.
-/
import Derived.Test.YtbcoblpnihdhgaaDoorIvHead
import Derived.Test.YtbcoblpnihdhgaaDoorRmI
import Derived.OwnWalk
import Derived.Maps.AppendAt
import Derived.Deep.QuietTactic
import Derived.RangeFuncBox
set_option linter.unusedVariables false
set_option maxRecDepth 100000
namespace Go.Proofs.YtbcoblpnihdhgaaDoor
open Go.RowKit
open Rt
theorem quiet_skip {P : Program} {ops : Array Oper} {C : World → Prop} {Q : Act → Prop} {o : Oper} {rest : List Oper} {a : Act} (hw : Region.wanted o (yielded ops a.tmps) = false) (h : ∀ K : Act → Prop, (∀ a, wpQuiet P ops C Q rest a → K a) → K (a.put o.dst undef)) : wpQuiet P ops C Q (o :: rest) a := by
  unfold wpQuiet; rw [hw]; exact h _ (fun _ h => h)
theorem quiet_take {P : Program} {ops : Array Oper} {C : World → Prop} {Q : Act → Prop} {o : Oper} {rest : List Oper} {a : Act} (hw : Region.wanted o (yielded ops a.tmps) = true) (h : ∀ K : Act → Prop, (∀ a, wpQuiet P ops C Q rest a → K a) → ∃ v, (∀ w, C w → o.quietAt P a C w v) ∧ K (a.put o.dst v)) : wpQuiet P ops C Q (o :: rest) a := by
  unfold wpQuiet; rw [hw]; exact h _ (fun _ h => h)
theorem region_quiet {P : Program} {C : World → Prop} {id : Nat} {Q : Exit → Act → World → Prop} {a : Act} {w : World} {l : List Oper} (hm : P.follows .mixedOrders = true) (hB : Region.lexB .any l.toArray = true) (hC : C w.drew)
    (h : wpQuiet P l.toArray C (fun a' => ∀ w', C w' → Q .normal a' w') l a) : (Code.region id l.toArray true).wp P Q a w :=
  wp_region_quiet (C := C) hm hB hC (by simpa using h)
theorem gives_quiet {f : FuncId} {args : Array Value} {b : Bool} {w w' : World} (h : Calls Tryd.prog f args w' (GivesB b w')) (hw : Below w.heap.size w w') : Calls Tryd.prog f args w' (fun e w'' => e = .returned (.bool b) ∧ Below w.heap.size w w'') :=
  h.mono (fun _ _ hh => ⟨hh.1, hw.trans (hh.2.mono hw.size)⟩)
theorem drewN_bel (n : Nat) (w : World) (k : Nat) : Below n w (w.drewN k) := ⟨rfl, rfl, rfl, Nat.le_refl _, fun _ _ => rfl⟩
theorem row_bel {W W' : World} {n₀ k : Nat} {e : TypeId} {size : Nat} {v : Value} {xs : List Value} (h : W.ownsRow n₀ e size v k xs) (hb : Below W.heap.size W W') : W'.ownsRow n₀ e size v k xs :=
  h.kept (row := none) ⟨hb.os, hb.tape, hb.output, hb.size, fun k hk _ => hb.block k hk⟩ (by rcases h.2 with ⟨rfl, _⟩ | ⟨g, cap, cur, rfl, _⟩ <;> simp [Value.ownBlock])
theorem grown_append {WL wg w1 : World} {v : Value} {o : Obj} {e : TypeId} {size n : Nat} {xs : List Value} (hB : Below WL.heap.size WL wg) (hrow : wg.ownsRow WL.heap.size e size v n xs) (hg : (wg.alloc o).grownBy w1 v.ownBlock) : Below WL.heap.size WL w1 :=
  (hB.alloc hB.size o).grown hg (by rw [World.size_alloc]; have := hB.size; omega) (fun k e => (hrow.lt k e).1)
theorem numh_1 (a : Raw) (w : World) (ha : BigR a) : NumsOk (w.alloc (Obj.cells #[Value.bool a.neg, Value.string a.num, Value.string a.den] 24)) (.slice (some ⟨w.heap.size, 0, none⟩) 1 1) [a] := by
  refine ⟨.inr ⟨by simp, w.heap.size, 1, rfl, ?_⟩, (show 1 ≤ 1000 by decide), ?_⟩
  · intro j hj
    match j, hj with
    | 0, _ => simp
  · intro i hi; simp only [List.mem_cons, List.not_mem_nil, or_false] at hi; rcases hi with rfl <;> assumption
/-- the cells of the intervals of a list -/
def cellsV (l : List Iv) : List Value := l.flatMap ivCells
theorem cellsV_snoc (l : List Iv) (x : Iv) : cellsV (l ++ [x]) = cellsV l ++ ivCells x := by simp [cellsV]
theorem cellsV_at : ∀ (l : List Iv) (j : Nat) (hj : j < l.length) (k : Nat) (hk : k < 6), (cellsV l)[j * 6 + k]? = some ((ivCells l[j])[k]'hk)
  | x :: t, 0, _, k, hk => by
    have e : cellsV (x :: t) = ivCells x ++ cellsV t := by simp [cellsV]
    have hl : (ivCells x).length = 6 := rfl
    rw [e, Nat.zero_mul, Nat.zero_add, List.getElem?_append_left (by omega), List.getElem?_eq_getElem (by omega)]
    rfl
  | x :: t, j + 1, hj, k, hk => by
    have h := cellsV_at t j (by simpa using hj) k hk
    have e : cellsV (x :: t) = ivCells x ++ cellsV t := by simp [cellsV]
    have hl : (ivCells x).length = 6 := rfl
    rw [e, List.getElem?_append_right (by omega), hl, show (j + 1) * 6 + k - 6 = j * 6 + k by omega, h]
    simp only [List.getElem_cons_succ]
    rfl
theorem rowV_ok {W : World} {n₀ : Nat} {v : Value} {l : List Iv} (h : W.ownsRow n₀ 26 6 v l.length (cellsV l)) (h0 : l ≠ []) (hb : ∀ i ∈ l, BigI i) (hl : l.length ≤ maxLen) : IvsOk W v l := by
  have hcell : ∀ {g : Nat}, v.ownBlock = some g → ∀ j u, (cellsV l)[j]? = some u → W.cell? ((⟨g, 0, none⟩ : Addr).add j) = some u := fun hg => h.cells hg
  have hp : 0 < l.length := by cases l with
    | nil => exact absurd rfl h0
    | cons _ _ => simp
  rcases h.2 with ⟨_, hn⟩ | ⟨g, cap, cur, rfl, _, _, h4, h5, _⟩
  · omega
  · refine ⟨.inr ⟨hp, g, 0, cap, rfl, h4, h5, fun j hj k hk => ?_⟩, hl, hb⟩
    have e := hcell (g := g) (by simp [Value.ownBlock]) _ _ (cellsV_at l j hj k hk)
    have ad : (⟨g, 0, none⟩ : Addr).add (j * 6 + k) = ⟨g, j * 6 + k, none⟩ := by unfold Addr.add; split <;> simp_all
    rw [ad] at e
    rw [Nat.zero_add]
    exact e
theorem cells6_new (W : World) (c0 c1 c2 c3 c4 c5 : Value) (T : TypeId) : ∀ j u, [c0, c1, c2, c3, c4, c5][j]? = some u → (W.alloc (.cells #[c0, c1, c2, c3, c4, c5] T)).cell? ((⟨W.heap.size, 0, none⟩ : Addr).add j) = some u := by
  intro j u h
  match j with
  | 0 => simp at h; subst h; simp [Addr.add]
  | 1 => simp at h; subst h; simp [Addr.add]
  | 2 => simp at h; subst h; simp [Addr.add]
  | 3 => simp at h; subst h; simp [Addr.add]
  | 4 => simp at h; subst h; simp [Addr.add]
  | 5 => simp at h; subst h; simp [Addr.add]
  | j + 6 => simp at h
theorem ivInfo5 : (Tryd.prog.info? 26).map (fun i => (i.zero, i.size, i.bytes)) = some (some (.agg #[.bool false, .string ⟨#[]⟩, .string ⟨#[]⟩, .bool false, .string ⟨#[]⟩, .string ⟨#[]⟩]), 6, 80) := by kernel_rfl
/-- whether an interval from place j on has this end -/
def anyLo (l : List Iv) (h : Iv) (j : Nat) : Bool := (l.drop j).any fun i => sameR i.low h.low
def anyHi (l : List Iv) (h : Iv) (j : Nat) : Bool := (l.drop j).any fun i => sameR i.high h.high
theorem anyLo_step (l : List Iv) (h el : Iv) (m : Nat) (hm : m < l.length) (he : el = l[m]) : anyLo l h m = (anyLo l h (m + 1) || sameR el.low h.low) := by
  unfold anyLo; rw [List.drop_eq_getElem_cons hm, ← he, List.any_cons, Bool.or_comm]
theorem anyHi_step (l : List Iv) (h el : Iv) (m : Nat) (hm : m < l.length) (he : el = l[m]) : anyHi l h m = (anyHi l h (m + 1) || sameR el.high h.high) := by
  unfold anyHi; rw [List.drop_eq_getElem_cons hm, ← he, List.any_cons, Bool.or_comm]
theorem rev_step (l : List Iv) (el : Iv) (m : Nat) (hm : m < l.length) (he : el = l[m]) : cellsV (l.drop m).reverse = cellsV (l.drop (m + 1)).reverse ++ ivCells el := by
  rw [List.drop_eq_getElem_cons hm, ← he, List.reverse_cons, cellsV_snoc]
theorem ivsCellH {w : World} {b off : Nat} {l : List Iv} (h : IvsIn w b off l) (j : Nat) (hj : j < l.length) (el : Iv) (he : el = l[j]) :
    w.cell? ⟨b, off + j * 6, none⟩ = some (.bool el.low.neg) ∧ w.cell? ⟨b, off + j * 6 + 1, none⟩ = some (.string el.low.num) ∧ w.cell? ⟨b, off + j * 6 + 2, none⟩ = some (.string el.low.den) ∧
    w.cell? ⟨b, off + j * 6 + 3, none⟩ = some (.bool el.high.neg) ∧ w.cell? ⟨b, off + j * 6 + 4, none⟩ = some (.string el.high.num) ∧ w.cell? ⟨b, off + j * 6 + 5, none⟩ = some (.string el.high.den) := by
  subst he
  exact ⟨h j hj 0 (by omega), h j hj 1 (by omega), h j hj 2 (by omega), h j hj 3 (by omega), h j hj 4 (by omega), h j hj 5 (by omega)⟩
theorem keepHu {W w' : World} {bh br b off m : Nat} {h el : Iv} {r : Raw} {l : List Iv} (hh : IvAt bh h W) (hr : RatAt br r W) (hl : IvsIn W b off l) (hm : m < l.length) (he : el = l[m]) (hb : Below W.heap.size W w') :
    Below W.heap.size W w' ∧ w'.cell? ⟨bh, 0, none⟩ = some (.bool h.low.neg) ∧ w'.cell? ⟨bh, 1, none⟩ = some (.string h.low.num) ∧ w'.cell? ⟨bh, 2, none⟩ = some (.string h.low.den) ∧ w'.cell? ⟨bh, 3, none⟩ = some (.bool h.high.neg) ∧ w'.cell? ⟨bh, 4, none⟩ = some (.string h.high.num) ∧ w'.cell? ⟨bh, 5, none⟩ = some (.string h.high.den) ∧ w'.cell? ⟨br, 0, none⟩ = some (.bool r.neg) ∧ w'.cell? ⟨br, 1, none⟩ = some (.string r.num) ∧ w'.cell? ⟨br, 2, none⟩ = some (.string r.den) ∧ w'.cell? ⟨b, off + m * 6, none⟩ = some (.bool el.low.neg) ∧ w'.cell? ⟨b, off + m * 6 + 1, none⟩ = some (.string el.low.num) ∧ w'.cell? ⟨b, off + m * 6 + 2, none⟩ = some (.string el.low.den) ∧ w'.cell? ⟨b, off + m * 6 + 3, none⟩ = some (.bool el.high.neg) ∧ w'.cell? ⟨b, off + m * 6 + 4, none⟩ = some (.string el.high.num) ∧ w'.cell? ⟨b, off + m * 6 + 5, none⟩ = some (.string el.high.den) := by
  obtain ⟨e0, e1, e2, e3, e4, e5⟩ := ivsCellH (hl.bel hb) m hm el he
  exact ⟨hb, (hh.bel hb).c0, (hh.bel hb).c1, (hh.bel hb).c2, (hh.bel hb).c3, (hh.bel hb).c4, (hh.bel hb).c5, (hr.bel hb).c0, (hr.bel hb).c1, (hr.bel hb).c2, e0, e1, e2, e3, e4, e5⟩
set_option maxHeartbeats 8000000 in
theorem hulls_nil (a : Option Addr) (cap : Nat) (l : List Iv) (r : Raw) (w : World) (ht : TabOk w) (hl : l = []) (ok : IvsOk w (.slice a 0 cap) l) (sr : BigR r) : Calls Tryd.prog 5 #[.slice a 0 cap, .agg #[.bool r.neg, .string r.num, .string r.den]] w fun e w' => e = .returned (.bool true) ∧ Below w.heap.size w w' := by
  have HT := Lib.hid ht; clear ht
  have HSr := Lib.hid sr; clear sr
  have HOKL := Lib.hid ok; clear ok
  have D0 := Lib.hid (Below.refl w.heap.size w)
  go_enter Tryd.func5, Tryd.ntmps5
  go_wp2_with fail
  obtain ⟨B1, hB1⟩ : ∃ B, B = w.heap.size := ⟨_, rfl⟩
  obtain ⟨W1_0, hW1_0⟩ : ∃ W, W = w.alloc (Obj.cells #[Value.bool r.neg, Value.string r.num, Value.string r.den] 24) := ⟨_, rfl⟩
  have hb : Below w.heap.size w W1_0 := by rw [hW1_0]; exact (Below.refl _ _).alloc (Nat.le_refl _) _
  have hzW1_0 : w.heap.size = B1 := by rw [hB1]
  have hlW1_0 : RatAt (B1) r W1_0 := by rw [← hzW1_0, hW1_0]; exact ⟨heap_lastM _ _⟩
  have D1 := Lib.hid (D0.out.trans (hb.mono D0.out.size))
  clear hb
  have r_1 := Lib.hid hlW1_0
  clear hlW1_0
  rw [← hW1_0]
  simp only [← hB1]
  have HW1_0 := Lib.hid hW1_0
  clear hW1_0 hzW1_0
  have HB1 := Lib.hid hB1
  clear hB1
  refine (head5_any _ (HT.out.below D1.out)).mono ?_
  rintro e v2 ⟨rfl, hb⟩
  have D2 := Lib.hid (D1.out.trans (hb.mono D1.out.size))
  have r_2 := Lib.hid (r_1.out.bel hb)
  clear D1 r_1
  clear hb
  have rc0 := r_2.out.c0
  have rc1 := r_2.out.c1
  have rc2 := r_2.out.c2
  have rz := blk_lt r_2.out.cells
  go_wp2_with fail
  clear rc0 rc1 rc2 rz
  have hx2 : Below v2.heap.size v2 (v2.alloc (Obj.cells #[Value.bool r.neg, Value.string r.num, Value.string r.den] 24)) := (Below.refl _ _).alloc (Nat.le_refl _) _
  have h2 : NumsOk (v2.alloc (Obj.cells #[Value.bool r.neg, Value.string r.num, Value.string r.den] 24)) (.slice (some ⟨v2.heap.size, 0, none⟩) 1 1) [r] := numh_1 r v2 HSr.out
  refine (few5_any _ _ l _ _ ((HOKL.out.bel D2.out).bel hx2) h2).mono ?_
  rintro e vf ⟨rfl, hbf⟩
  have hb := hx2.trans (hbf.mono hx2.size); clear hx2 h2 hbf
  have D3 := Lib.hid (D2.out.trans (hb.mono D2.out.size))
  have r_3 := Lib.hid (r_2.out.bel hb)
  clear D2 r_2
  clear hb
  rcases Bool.eq_false_or_eq_true (fewI l && fewS [r]) with hp | hp
  rotate_left
  ·
    simp only [hp]
    go_wp2_with fail
    go_ret
    exact ⟨rfl, D3.out⟩
  simp only [hp]
  have HF := Lib.hid hp; clear hp
  have hf := HF.out; rw [Bool.and_eq_true, fewI_iff, fewS_iff] at hf
  have HLEN : Hid (l.length ≤ 12) := Lib.hid hf.1.1; clear hf
  have rc0 := r_3.out.c0
  have rc1 := r_3.out.c1
  have rc2 := r_3.out.c2
  have rz := blk_lt r_3.out.cells
  go_wp2_with fail
  clear rc0 rc1 rc2 rz
  have HH : Hid (hullI l = (noI, 10)) := Lib.hid (by rw [hl]; rfl)
  refine (pihull_any _ l _ (HOKL.out.bel D3.out)).mono ?_
  rintro e v4 ⟨rfl, hb⟩
  have D4 := Lib.hid (D3.out.trans (hb.mono D3.out.size))
  have r_4 := Lib.hid (r_3.out.bel hb)
  clear D3 r_3
  clear hb
  simp only [HH.out, noI, noRaw]
  have nz := run_eql_iv noI; simp only [noI, noRaw] at nz
  go_wp2_with fail
  go_ret
  exact ⟨rfl, D4.out.alloc D4.out.size _⟩
set_option maxHeartbeats 8000000 in
theorem hulls_some (b off cap : Nat) (l : List Iv) (r : Raw) (w : World) (ht : TabOk w) (hp : 0 < l.length) (hlc : l.length ≤ cap) (hcm : cap ≤ maxLen) (hin : IvsIn w b off l) (ok : IvsOk w (.slice (some ⟨b, off, none⟩) l.length cap) l) (sr : BigR r) : Calls Tryd.prog 5 #[.slice (some ⟨b, off, none⟩) l.length cap, .agg #[.bool r.neg, .string r.num, .string r.den]] w fun e w' => e = .returned (.bool true) ∧ Below w.heap.size w w' := by
  have HT := Lib.hid ht; clear ht
  have HSr := Lib.hid sr; clear sr
  have HOKL := Lib.hid ok; clear ok
  have D0 := Lib.hid (Below.refl w.heap.size w)
  go_enter Tryd.func5, Tryd.ntmps5
  go_wp2_with fail
  obtain ⟨B1, hB1⟩ : ∃ B, B = w.heap.size := ⟨_, rfl⟩
  obtain ⟨W1_0, hW1_0⟩ : ∃ W, W = w.alloc (Obj.cells #[Value.bool r.neg, Value.string r.num, Value.string r.den] 24) := ⟨_, rfl⟩
  have hb : Below w.heap.size w W1_0 := by rw [hW1_0]; exact (Below.refl _ _).alloc (Nat.le_refl _) _
  have hzW1_0 : w.heap.size = B1 := by rw [hB1]
  have hlW1_0 : RatAt (B1) r W1_0 := by rw [← hzW1_0, hW1_0]; exact ⟨heap_lastM _ _⟩
  have D1 := Lib.hid (D0.out.trans (hb.mono D0.out.size))
  clear hb
  have r_1 := Lib.hid hlW1_0
  clear hlW1_0
  rw [← hW1_0]
  simp only [← hB1]
  have HW1_0 := Lib.hid hW1_0
  clear hW1_0 hzW1_0
  have HB1 := Lib.hid hB1
  clear hB1
  refine (head5_any _ (HT.out.below D1.out)).mono ?_
  rintro e v2 ⟨rfl, hb⟩
  have D2 := Lib.hid (D1.out.trans (hb.mono D1.out.size))
  have r_2 := Lib.hid (r_1.out.bel hb)
  clear D1 r_1
  clear hb
  have rc0 := r_2.out.c0
  have rc1 := r_2.out.c1
  have rc2 := r_2.out.c2
  have rz := blk_lt r_2.out.cells
  go_wp2_with fail
  clear rc0 rc1 rc2 rz
  have hx2 : Below v2.heap.size v2 (v2.alloc (Obj.cells #[Value.bool r.neg, Value.string r.num, Value.string r.den] 24)) := (Below.refl _ _).alloc (Nat.le_refl _) _
  have h2 : NumsOk (v2.alloc (Obj.cells #[Value.bool r.neg, Value.string r.num, Value.string r.den] 24)) (.slice (some ⟨v2.heap.size, 0, none⟩) 1 1) [r] := numh_1 r v2 HSr.out
  refine (few5_any _ _ l _ _ ((HOKL.out.bel D2.out).bel hx2) h2).mono ?_
  rintro e vf ⟨rfl, hbf⟩
  have hb := hx2.trans (hbf.mono hx2.size); clear hx2 h2 hbf
  have D3 := Lib.hid (D2.out.trans (hb.mono D2.out.size))
  have r_3 := Lib.hid (r_2.out.bel hb)
  clear D2 r_2
  clear hb
  rcases Bool.eq_false_or_eq_true (fewI l && fewS [r]) with hp | hp
  rotate_left
  ·
    simp only [hp]
    go_wp2_with fail
    go_ret
    exact ⟨rfl, D3.out⟩
  simp only [hp]
  have HF := Lib.hid hp; clear hp
  have hf := HF.out; rw [Bool.and_eq_true, fewI_iff, fewS_iff] at hf
  have HLEN : Hid (l.length ≤ 12) := Lib.hid hf.1.1; clear hf
  have rc0 := r_3.out.c0
  have rc1 := r_3.out.c1
  have rc2 := r_3.out.c2
  have rz := blk_lt r_3.out.cells
  go_wp2_with fail
  clear rc0 rc1 rc2 rz
  have HIN := Lib.hid hin; have HCM := Lib.hid hcm; clear hin
  unfold maxLen at hcm
  rcases hulls_pure HLEN.out with ⟨h0, _⟩ | ⟨h0, hh⟩ | ⟨h0, h, hh, hh2, hok, hall, hlo, hhi⟩
  · subst h0; simp at hp
  ·
    have HH := Lib.hid hh; clear hh
    refine (pihull_any _ l _ (HOKL.out.bel D3.out)).mono ?_
    rintro e v4 ⟨rfl, hb⟩
    have D4 := Lib.hid (D3.out.trans (hb.mono D3.out.size))
    have r_4 := Lib.hid (r_3.out.bel hb)
    clear D3 r_3
    clear hb
    simp only [HH.out, noI, noRaw]
    have nz := run_eql_iv noI; simp only [noI, noRaw] at nz
    have hq : ((l.length : Int) == 0) = false := by rw [beq_eq_false_iff_ne]; omega
    go_wp2_with fail
    go_ret
    exact ⟨rfl, D4.out.alloc D4.out.size _⟩
  ·
    have HH := Lib.hid hh; clear hh
    have HH2 := Lib.hid hh2; clear hh2
    have HOK := Lib.hid hok; clear hok
    have HALL := Lib.hid hall; clear hall
    have HLO : Hid (anyLo l h 0 = true) := Lib.hid (by obtain ⟨i, hi, e⟩ := hlo; unfold anyLo; rw [List.drop_zero, List.any_eq_true]; exact ⟨i, hi, sameR_iff.2 e⟩)
    have HHI : Hid (anyHi l h 0 = true) := Lib.hid (by obtain ⟨i, hi, e⟩ := hhi; unfold anyHi; rw [List.drop_zero, List.any_eq_true]; exact ⟨i, hi, sameR_iff.2 e⟩)
    clear hlo hhi
    refine (pihull_any _ l _ (HOKL.out.bel D3.out)).mono ?_
    rintro e v4 ⟨rfl, hb⟩
    have D4 := Lib.hid (D3.out.trans (hb.mono D3.out.size))
    have r_4 := Lib.hid (r_3.out.bel hb)
    clear D3 r_3
    clear hb
    simp only [HH.out]
    have rc0 := r_4.out.c0
    have rc1 := r_4.out.c1
    have rc2 := r_4.out.c2
    have rz := blk_lt r_4.out.cells
    go_wp2_with fail
    clear rc0 rc1 rc2 rz
    obtain ⟨B2, hB2⟩ : ∃ B, B = v4.heap.size := ⟨_, rfl⟩
    obtain ⟨W2_0, hW2_0⟩ : ∃ W, W = v4.alloc (Obj.cells #[Value.bool h.low.neg, Value.string h.low.num, Value.string h.low.den, Value.bool h.high.neg, Value.string h.high.num, Value.string h.high.den] 26) := ⟨_, rfl⟩
    have hb : Below v4.heap.size v4 W2_0 := by rw [hW2_0]; exact (Below.refl _ _).alloc (Nat.le_refl _) _
    have hzW2_0 : v4.heap.size = B2 := by rw [hB2]
    have hlW2_0 : IvAt (B2) h W2_0 := by rw [← hzW2_0, hW2_0]; exact ⟨heap_lastM _ _⟩
    have D5 := Lib.hid (D4.out.trans (hb.mono D4.out.size))
    have r_5 := Lib.hid (r_4.out.bel hb)
    clear D4 r_4
    clear hb
    have h_5 := Lib.hid hlW2_0
    clear hlW2_0
    rw [← hW2_0]
    simp only [← hB2]
    have HW2_0 := Lib.hid hW2_0
    clear hW2_0 hzW2_0
    have HB2 := Lib.hid hB2
    clear hB2
    obtain ⟨WL, hWL⟩ : ∃ x, x = W2_0 := ⟨_, rfl⟩
    subst hWL
    have HLL : Hid (IvsIn WL b off l) := Lib.hid (HIN.out.bel D5.out)
    obtain ⟨i0, hi0, hz0, hz1, hz2⟩ := info_parts ivInfo5
    have HI0 := Lib.hid hi0; have HZ0 := Lib.hid hz0; have HZ1 := Lib.hid hz1; have HZ2 := Lib.hid hz2; clear hi0 hz0 hz1 hz2
    go_loopw [8, 9, 10, 11] (fun lo hi bk i wr => ∃ (j : Nat) (bv : Value), j ≤ l.length ∧ i = .int .i64 ((j : Int) - 1) ∧ lo = .bool (anyLo l h j) ∧ hi = .bool (anyHi l h j) ∧ bv = bk ∧ Hid (Below WL.heap.size WL wr) ∧ Hid (wr.ownsRow WL.heap.size 26 6 bv (l.drop j).reverse.length (cellsV (l.drop j).reverse))) (fun _ _ _ i _ => (intOf i + 1).toNat)
    case atStart => exact ⟨l.length, _, by omega, by first | rfl | (simp; done) | go_num, by unfold anyLo; rw [List.drop_length]; rfl, by unfold anyHi; rw [List.drop_length]; rfl, rfl, Lib.hid (Below.refl _ _), Lib.hid (by rw [List.drop_length]; exact World.ownsRow_nil _ _ _ _)⟩
    case round =>
      obtain ⟨j, bv, hj, rfl, rfl, rfl, rfl, hB, hrow⟩ := hrel
      cases j with
      | zero =>
        have hrow' := hrow.out; rw [List.drop_zero] at hrow'
        have HOB := Lib.hid (rowV_ok hrow' (fun e => by simp at e; subst e; simp at hp) (fun i hi => HOKL.out.big i (by simpa using hi)) (by have := HLEN.out; simp; unfold maxLen; omega)); clear hrow' hrow
        have h_9 := Lib.hid (h_5.out.bel hB.out)
        have D9 := Lib.hid (D5.out.trans (hB.out.mono D5.out.size))
        have t1 := HLO.out; have t2 := HHI.out; simp only [t1, t2]; clear t1 t2
        have t0 : decide ((0 : Int) ≤ ((0 : Nat) : Int) - 1) = false := by decide
        go_wp2_with fail
        refine (pihull_any _ l.reverse _ HOB.out).mono ?_
        rintro e v90 ⟨rfl, hb⟩
        simp only [HH2.out]
        have h_10 := Lib.hid (h_9.out.bel hb); have D10 := Lib.hid (D9.out.trans (hb.mono D9.out.size)); clear hb h_9 D9
        have nz := run_eql_iv h
        have hc0 := h_10.out.c0
        have hc1 := h_10.out.c1
        have hc2 := h_10.out.c2
        have hc3 := h_10.out.c3
        have hc4 := h_10.out.c4
        have hc5 := h_10.out.c5
        have hcz := blk_lt h_10.out.cells
        go_wp2_with fail
        go_ret
        exact ⟨by first | rfl | simp, D10.out.alloc D10.out.size _⟩
      | succ m =>
        have hm : m < l.length := by omega
        have ei : (((m + 1 : Nat) : Int) - 1) = (m : Int) := by omega
        rw [ei]; clear ei
        obtain ⟨el, hel⟩ : ∃ x, x = l[m] := ⟨_, rfl⟩
        have HEL := Lib.hid hel
        have hh9 := Lib.hid (h_5.out.bel hB.out); have hr9 := Lib.hid (r_5.out.bel hB.out); have hl9 := Lib.hid (HLL.out.bel hB.out)
        have hin := HALL.out el (by rw [hel]; exact List.getElem_mem hm)
        have HC2 : Hid (hasI el r = true → ∀ w', Calls Tryd.prog 10 #[.agg #[.bool h.low.neg, .string h.low.num, .string h.low.den, .bool h.high.neg, .string h.high.num, .string h.high.den], .agg #[.bool r.neg, .string r.num, .string r.den]] w' (GivesB true w')) := Lib.hid (fun hq w' => by have := picon_any h r w'; rwa [hin.1 r hq] at this)
        have HC3 : Hid (∀ w', Calls Tryd.prog 10 #[.agg #[.bool h.low.neg, .string h.low.num, .string h.low.den, .bool h.high.neg, .string h.high.num, .string h.high.den], .agg #[.bool el.low.neg, .string el.low.num, .string el.low.den]] w' (GivesB true w')) := Lib.hid (fun w' => by have := picon_any h el.low w'; rwa [hin.2.1] at this)
        have HC4 : Hid (∀ w', Calls Tryd.prog 10 #[.agg #[.bool h.low.neg, .string h.low.num, .string h.low.den, .bool h.high.neg, .string h.high.num, .string h.high.den], .agg #[.bool el.high.neg, .string el.high.num, .string el.high.den]] w' (GivesB true w')) := Lib.hid (fun w' => by have := picon_any h el.high w'; rwa [hin.2.2] at this)
        clear hin
        obtain ⟨e0, e1, e2, e3, e4, e5⟩ := ivsCellH hl9.out m hm el hel
        clear hel
        have t0 : decide ((0 : Int) ≤ (m : Int)) = true := decide_eq_true (by omega)
        go_upto_region 12 with fail
        go_cut [80] (fun s80 wx => s80 = .bool false ∧ Hid (Below wr.heap.size wr wx))
        case first =>
          have HDR : Hid (Below wr.heap.size wr wr.drew) := Lib.hid ((Below.refl _ _).drew)
          clear e0 e1 e2 e3 e4 e5
          rcases Bool.eq_false_or_eq_true (hasI el r) with hq | hq
          ·
            have HC1 : Hid (∀ w', Calls Tryd.prog 10 #[.agg #[.bool el.low.neg, .string el.low.num, .string el.low.den, .bool el.high.neg, .string el.high.num, .string el.high.den], .agg #[.bool r.neg, .string r.num, .string r.den]] w' (GivesB true w')) := Lib.hid (fun w' => by have := picon_any el r w'; rwa [hq] at this)
            have HC2' := Lib.hid (HC2.out hq)
            clear hq
            refine region_quiet (C := fun w' => Below wr.heap.size wr w') (by kernel_rfl) (by kernel_rfl) HDR.out ?_
            repeat (first | (refine quiet_skip (by rfl) (fun K hK => ?_); simp only [Act.put, List.setIfInBounds_toArray, List.set_cons_zero, List.set_cons_succ]; refine hK _ ?_; clear hK K) | (refine quiet_take (by rfl) (fun K hK => ?_); apply Exists.intro; refine ⟨fun w' hw' => ?_, ?_⟩; (obtain ⟨_, hc0, hc1, hc2, hc3, hc4, hc5, rc0, rc1, rc2, e0, e1, e2, e3, e4, e5⟩ := keepHu hh9.out hr9.out hl9.out hm HEL.out hw'; go_simp; first | done | rfl | exact ⟨rfl, rfl⟩ | with_reducible exact gives_quiet (HC1.out w') hw' | with_reducible exact gives_quiet (HC2'.out w') hw' | with_reducible exact gives_quiet (HC3.out w') hw' | with_reducible exact gives_quiet (HC4.out w') hw'); (try simp only [Act.put, List.setIfInBounds_toArray, List.set_cons_zero, List.set_cons_succ]); refine hK _ ?_; clear hK K))
            refine wpQuiet_nil ?_
            intro w9 hw9
            go_wp2_with fail; go_meet; exact ⟨by first | rfl | simp, Lib.hid hw9⟩
          ·
            have HC1 : Hid (∀ w', Calls Tryd.prog 10 #[.agg #[.bool el.low.neg, .string el.low.num, .string el.low.den, .bool el.high.neg, .string el.high.num, .string el.high.den], .agg #[.bool r.neg, .string r.num, .string r.den]] w' (GivesB false w')) := Lib.hid (fun w' => by have := picon_any el r w'; rwa [hq] at this)
            clear hq
            refine region_quiet (C := fun w' => Below wr.heap.size wr w') (by kernel_rfl) (by kernel_rfl) HDR.out ?_
            repeat (first | (refine quiet_skip (by rfl) (fun K hK => ?_); simp only [Act.put, List.setIfInBounds_toArray, List.set_cons_zero, List.set_cons_succ]; refine hK _ ?_; clear hK K) | (refine quiet_take (by rfl) (fun K hK => ?_); apply Exists.intro; refine ⟨fun w' hw' => ?_, ?_⟩; (obtain ⟨_, hc0, hc1, hc2, hc3, hc4, hc5, rc0, rc1, rc2, e0, e1, e2, e3, e4, e5⟩ := keepHu hh9.out hr9.out hl9.out hm HEL.out hw'; go_simp; first | done | rfl | exact ⟨rfl, rfl⟩ | with_reducible exact gives_quiet (HC1.out w') hw' | with_reducible exact gives_quiet (HC3.out w') hw' | with_reducible exact gives_quiet (HC4.out w') hw'); (try simp only [Act.put, List.setIfInBounds_toArray, List.set_cons_zero, List.set_cons_succ]); refine hK _ ?_; clear hK K))
            refine wpQuiet_nil ?_
            intro w9 hw9
            go_wp2_with fail; go_meet; exact ⟨by first | rfl | simp, Lib.hid hw9⟩
        case rest =>
          obtain ⟨rfl, hcutB⟩ := hcut
          have hB2 := Lib.hid (hB.out.trans (hcutB.out.mono hB.out.size))
          have hrow2 : Hid (wc.ownsRow WL.heap.size 26 6 bv _ _) := Lib.hid (hrow.out.kept (row := none) ⟨hcutB.out.os, hcutB.out.tape, hcutB.out.output, hcutB.out.size, fun k hk _ => hcutB.out.block k hk⟩ (by rcases hrow.out.2 with ⟨e, _⟩ | ⟨g, cap, cur, e, _⟩ <;> rw [e] <;> simp [Value.ownBlock]))
          have hh10 := Lib.hid (hh9.out.bel hcutB.out); have hl10 := Lib.hid (hl9.out.bel hcutB.out)
          clear hB hrow hh9 hr9 hl9 hcutB HC2 HC3 HC4 e0 e1 e2 e3 e4 e5
          obtain ⟨wd, hnm⟩ : ∃ x, x = wc := ⟨_, rfl⟩
          subst hnm
          have u1 : ∀ w, (binOp .eql 24 (.agg #[.bool el.low.neg, .string el.low.num, .string el.low.den]) (.agg #[.bool h.low.neg, .string h.low.num, .string h.low.den])).run Tryd.prog w = .ok (.bool (sameR el.low h.low)) w := fun w => run_eql_rat el.low h.low w
          have u2 : ∀ w, (binOp .eql 24 (.agg #[.bool el.high.neg, .string el.high.num, .string el.high.den]) (.agg #[.bool h.high.neg, .string h.high.num, .string h.high.den])).run Tryd.prog w = .ok (.bool (sameR el.high h.high)) w := fun w => run_eql_rat el.high h.high w
          have k1 : Hid (anyLo l h m = (anyLo l h (m + 1) || sameR el.low h.low)) := Lib.hid (anyLo_step l h el m hm HEL.out)
          have k2 : Hid (anyHi l h m = (anyHi l h (m + 1) || sameR el.high h.high)) := Lib.hid (anyHi_step l h el m hm HEL.out)
          generalize anyLo l h (m + 1) = x1 at *
          generalize anyHi l h (m + 1) = x2 at *
          generalize sameR el.low h.low = z1 at *
          generalize sameR el.high h.high = z2 at *
          obtain ⟨nn, hnn⟩ : ∃ n, n = (l.drop (m + 1)).reverse.length := ⟨_, rfl⟩
          obtain ⟨xs, hxs⟩ : ∃ n, n = cellsV (l.drop (m + 1)).reverse := ⟨_, rfl⟩
          have HNN : Hid (nn ≤ 12) := Lib.hid (by rw [hnn]; have := HLEN.out; simp; omega)
          rw [← hnn, ← hxs] at hrow2
          have HNX : Hid (nn + 1 = (l.drop m).reverse.length ∧ xs ++ ivCells el = cellsV (l.drop m).reverse) := Lib.hid ⟨by rw [hnn]; simp; omega, by rw [hxs]; exact (rev_step l el m hm HEL.out).symm⟩
          clear hnn hxs
          cases x1 <;> cases x2
          ·
            obtain ⟨e0, e1, e2, e3, e4, e5⟩ := ivsCellH hl10.out m hm el HEL.out
            have dc0 := hh10.out.c0
            have dc1 := hh10.out.c1
            have dc2 := hh10.out.c2
            have dc3 := hh10.out.c3
            have dc4 := hh10.out.c4
            have dc5 := hh10.out.c5
            go_wp2_with fail
            go_quiet (fail)
            obtain ⟨wf, hnw⟩ : ∃ x, x = wd.drewN nq := ⟨_, rfl⟩
            have hqb : Hid (Below wd.heap.size wd wf) := Lib.hid (by rw [hnw]; exact drewN_bel _ _ _)
            rw [← hnw]; clear hnw
            clear e0 e1 e2 e3 e4 e5 dc0 dc1 dc2 dc3 dc4 dc5
            have hB3 := Lib.hid (hB2.out.trans (hqb.out.mono hB2.out.size)); have hrow3 := Lib.hid (row_bel hrow2.out hqb.out); have hh11 := Lib.hid (hh10.out.bel hqb.out); have hl11 := Lib.hid (hl10.out.bel hqb.out)
            clear hqb hB2 hrow2 hh10 hl10
            obtain ⟨e0, e1, e2, e3, e4, e5⟩ := ivsCellH hl11.out m hm el HEL.out
            have dc0 := hh11.out.c0
            have dc1 := hh11.out.c1
            have dc2 := hh11.out.c2
            have dc3 := hh11.out.c3
            have dc4 := hh11.out.c4
            have dc5 := hh11.out.c5
            go_wp2_with fail
            go_quiet (fail)
            obtain ⟨wg, hnw⟩ : ∃ x, x = wf.drewN nq := ⟨_, rfl⟩
            have hqb : Hid (Below wf.heap.size wf wg) := Lib.hid (by rw [hnw]; exact drewN_bel _ _ _)
            rw [← hnw]; clear hnw
            clear e0 e1 e2 e3 e4 e5 dc0 dc1 dc2 dc3 dc4 dc5
            have hB4 := Lib.hid (hB3.out.trans (hqb.out.mono hB3.out.size)); have hrow4 := Lib.hid (row_bel hrow3.out hqb.out); have hh12 := Lib.hid (hh11.out.bel hqb.out); have hl12 := Lib.hid (hl11.out.bel hqb.out)
            clear hqb hB3 hrow3 hh11 hl11
            obtain ⟨e0, e1, e2, e3, e4, e5⟩ := ivsCellH hl12.out m hm el HEL.out
            have dc0 := hh12.out.c0
            have dc1 := hh12.out.c1
            have dc2 := hh12.out.c2
            have dc3 := hh12.out.c3
            have dc4 := hh12.out.c4
            have dc5 := hh12.out.c5
            go_wp2_with (at_builtin; refine wpList_append_own _ rfl _ _ 29 rfl WL.heap.size 26 i0 (.agg #[.bool false, .string ⟨#[]⟩, .string ⟨#[]⟩, .bool false, .string ⟨#[]⟩, .string ⟨#[]⟩]) 6 80 Tryd.underlying29 HI0.out HZ0.out HZ1.out HZ2.out rfl (by decide) bv nn xs rfl (hrow4.out.alloc _) ⟨wg.heap.size, 0, none⟩ 1 1 [.bool el.low.neg, .string el.low.num, .string el.low.den, .bool el.high.neg, .string el.high.num, .string el.high.den] rfl rfl (cells6_new _ _ _ _ _ _ _ _) (by simp [Value.oneCell']) (by have := HNN.out; unfold maxLen; omega) (by have := HNN.out; omega) (by have := hB4.out.size; rw [World.size_alloc]; omega) ?_; intro v' w1 hown' hgrow _; have HOWN := Lib.hid hown'; have HB3 : Hid (Below WL.heap.size WL w1) := Lib.hid (grown_append hB4.out hrow4.out hgrow); clear hown' hgrow)
            go_roundw
            case rel => exact ⟨m, _, by omega, by first | rfl | (simp; done) | go_num, by rw [k1.out]; first | rfl | simp, by rw [k2.out]; first | rfl | simp, rfl, HB3, Lib.hid (by rw [← HNX.out.1, ← HNX.out.2]; exact HOWN.out)⟩
            case measure => first | (simp [intOf]; omega) | (simp [intOf]; done)
          ·
            obtain ⟨e0, e1, e2, e3, e4, e5⟩ := ivsCellH hl10.out m hm el HEL.out
            have dc0 := hh10.out.c0
            have dc1 := hh10.out.c1
            have dc2 := hh10.out.c2
            have dc3 := hh10.out.c3
            have dc4 := hh10.out.c4
            have dc5 := hh10.out.c5
            go_wp2_with fail
            go_quiet (fail)
            obtain ⟨wf, hnw⟩ : ∃ x, x = wd.drewN nq := ⟨_, rfl⟩
            have hqb : Hid (Below wd.heap.size wd wf) := Lib.hid (by rw [hnw]; exact drewN_bel _ _ _)
            rw [← hnw]; clear hnw
            clear e0 e1 e2 e3 e4 e5 dc0 dc1 dc2 dc3 dc4 dc5
            have hB3 := Lib.hid (hB2.out.trans (hqb.out.mono hB2.out.size)); have hrow3 := Lib.hid (row_bel hrow2.out hqb.out); have hh11 := Lib.hid (hh10.out.bel hqb.out); have hl11 := Lib.hid (hl10.out.bel hqb.out)
            clear hqb hB2 hrow2 hh10 hl10
            obtain ⟨e0, e1, e2, e3, e4, e5⟩ := ivsCellH hl11.out m hm el HEL.out
            have dc0 := hh11.out.c0
            have dc1 := hh11.out.c1
            have dc2 := hh11.out.c2
            have dc3 := hh11.out.c3
            have dc4 := hh11.out.c4
            have dc5 := hh11.out.c5
            go_wp2_with fail
            go_quiet (fail)
            obtain ⟨wg, hnw⟩ : ∃ x, x = wf.drewN nq := ⟨_, rfl⟩
            have hqb : Hid (Below wf.heap.size wf wg) := Lib.hid (by rw [hnw]; exact drewN_bel _ _ _)
            rw [← hnw]; clear hnw
            clear e0 e1 e2 e3 e4 e5 dc0 dc1 dc2 dc3 dc4 dc5
            have hB4 := Lib.hid (hB3.out.trans (hqb.out.mono hB3.out.size)); have hrow4 := Lib.hid (row_bel hrow3.out hqb.out); have hh12 := Lib.hid (hh11.out.bel hqb.out); have hl12 := Lib.hid (hl11.out.bel hqb.out)
            clear hqb hB3 hrow3 hh11 hl11
            obtain ⟨e0, e1, e2, e3, e4, e5⟩ := ivsCellH hl12.out m hm el HEL.out
            have dc0 := hh12.out.c0
            have dc1 := hh12.out.c1
            have dc2 := hh12.out.c2
            have dc3 := hh12.out.c3
            have dc4 := hh12.out.c4
            have dc5 := hh12.out.c5
            go_wp2_with (at_builtin; refine wpList_append_own _ rfl _ _ 29 rfl WL.heap.size 26 i0 (.agg #[.bool false, .string ⟨#[]⟩, .string ⟨#[]⟩, .bool false, .string ⟨#[]⟩, .string ⟨#[]⟩]) 6 80 Tryd.underlying29 HI0.out HZ0.out HZ1.out HZ2.out rfl (by decide) bv nn xs rfl (hrow4.out.alloc _) ⟨wg.heap.size, 0, none⟩ 1 1 [.bool el.low.neg, .string el.low.num, .string el.low.den, .bool el.high.neg, .string el.high.num, .string el.high.den] rfl rfl (cells6_new _ _ _ _ _ _ _ _) (by simp [Value.oneCell']) (by have := HNN.out; unfold maxLen; omega) (by have := HNN.out; omega) (by have := hB4.out.size; rw [World.size_alloc]; omega) ?_; intro v' w1 hown' hgrow _; have HOWN := Lib.hid hown'; have HB3 : Hid (Below WL.heap.size WL w1) := Lib.hid (grown_append hB4.out hrow4.out hgrow); clear hown' hgrow)
            go_roundw
            case rel => exact ⟨m, _, by omega, by first | rfl | (simp; done) | go_num, by rw [k1.out]; first | rfl | simp, by rw [k2.out]; first | rfl | simp, rfl, HB3, Lib.hid (by rw [← HNX.out.1, ← HNX.out.2]; exact HOWN.out)⟩
            case measure => first | (simp [intOf]; omega) | (simp [intOf]; done)
          ·
            obtain ⟨e0, e1, e2, e3, e4, e5⟩ := ivsCellH hl10.out m hm el HEL.out
            have dc0 := hh10.out.c0
            have dc1 := hh10.out.c1
            have dc2 := hh10.out.c2
            have dc3 := hh10.out.c3
            have dc4 := hh10.out.c4
            have dc5 := hh10.out.c5
            go_wp2_with fail
            go_quiet (fail)
            obtain ⟨wf, hnw⟩ : ∃ x, x = wd.drewN nq := ⟨_, rfl⟩
            have hqb : Hid (Below wd.heap.size wd wf) := Lib.hid (by rw [hnw]; exact drewN_bel _ _ _)
            rw [← hnw]; clear hnw
            clear e0 e1 e2 e3 e4 e5 dc0 dc1 dc2 dc3 dc4 dc5
            have hB3 := Lib.hid (hB2.out.trans (hqb.out.mono hB2.out.size)); have hrow3 := Lib.hid (row_bel hrow2.out hqb.out); have hh11 := Lib.hid (hh10.out.bel hqb.out); have hl11 := Lib.hid (hl10.out.bel hqb.out)
            clear hqb hB2 hrow2 hh10 hl10
            obtain ⟨e0, e1, e2, e3, e4, e5⟩ := ivsCellH hl11.out m hm el HEL.out
            have dc0 := hh11.out.c0
            have dc1 := hh11.out.c1
            have dc2 := hh11.out.c2
            have dc3 := hh11.out.c3
            have dc4 := hh11.out.c4
            have dc5 := hh11.out.c5
            go_wp2_with fail
            go_quiet (fail)
            obtain ⟨wg, hnw⟩ : ∃ x, x = wf.drewN nq := ⟨_, rfl⟩
            have hqb : Hid (Below wf.heap.size wf wg) := Lib.hid (by rw [hnw]; exact drewN_bel _ _ _)
            rw [← hnw]; clear hnw
            clear e0 e1 e2 e3 e4 e5 dc0 dc1 dc2 dc3 dc4 dc5
            have hB4 := Lib.hid (hB3.out.trans (hqb.out.mono hB3.out.size)); have hrow4 := Lib.hid (row_bel hrow3.out hqb.out); have hh12 := Lib.hid (hh11.out.bel hqb.out); have hl12 := Lib.hid (hl11.out.bel hqb.out)
            clear hqb hB3 hrow3 hh11 hl11
            obtain ⟨e0, e1, e2, e3, e4, e5⟩ := ivsCellH hl12.out m hm el HEL.out
            have dc0 := hh12.out.c0
            have dc1 := hh12.out.c1
            have dc2 := hh12.out.c2
            have dc3 := hh12.out.c3
            have dc4 := hh12.out.c4
            have dc5 := hh12.out.c5
            go_wp2_with (at_builtin; refine wpList_append_own _ rfl _ _ 29 rfl WL.heap.size 26 i0 (.agg #[.bool false, .string ⟨#[]⟩, .string ⟨#[]⟩, .bool false, .string ⟨#[]⟩, .string ⟨#[]⟩]) 6 80 Tryd.underlying29 HI0.out HZ0.out HZ1.out HZ2.out rfl (by decide) bv nn xs rfl (hrow4.out.alloc _) ⟨wg.heap.size, 0, none⟩ 1 1 [.bool el.low.neg, .string el.low.num, .string el.low.den, .bool el.high.neg, .string el.high.num, .string el.high.den] rfl rfl (cells6_new _ _ _ _ _ _ _ _) (by simp [Value.oneCell']) (by have := HNN.out; unfold maxLen; omega) (by have := HNN.out; omega) (by have := hB4.out.size; rw [World.size_alloc]; omega) ?_; intro v' w1 hown' hgrow _; have HOWN := Lib.hid hown'; have HB3 : Hid (Below WL.heap.size WL w1) := Lib.hid (grown_append hB4.out hrow4.out hgrow); clear hown' hgrow)
            go_roundw
            case rel => exact ⟨m, _, by omega, by first | rfl | (simp; done) | go_num, by rw [k1.out]; first | rfl | simp, by rw [k2.out]; first | rfl | simp, rfl, HB3, Lib.hid (by rw [← HNX.out.1, ← HNX.out.2]; exact HOWN.out)⟩
            case measure => first | (simp [intOf]; omega) | (simp [intOf]; done)
          ·
            obtain ⟨e0, e1, e2, e3, e4, e5⟩ := ivsCellH hl10.out m hm el HEL.out
            have dc0 := hh10.out.c0
            have dc1 := hh10.out.c1
            have dc2 := hh10.out.c2
            have dc3 := hh10.out.c3
            have dc4 := hh10.out.c4
            have dc5 := hh10.out.c5
            go_wp2_with fail
            go_quiet (fail)
            obtain ⟨wf, hnw⟩ : ∃ x, x = wd.drewN nq := ⟨_, rfl⟩
            have hqb : Hid (Below wd.heap.size wd wf) := Lib.hid (by rw [hnw]; exact drewN_bel _ _ _)
            rw [← hnw]; clear hnw
            clear e0 e1 e2 e3 e4 e5 dc0 dc1 dc2 dc3 dc4 dc5
            have hB3 := Lib.hid (hB2.out.trans (hqb.out.mono hB2.out.size)); have hrow3 := Lib.hid (row_bel hrow2.out hqb.out); have hh11 := Lib.hid (hh10.out.bel hqb.out); have hl11 := Lib.hid (hl10.out.bel hqb.out)
            clear hqb hB2 hrow2 hh10 hl10
            obtain ⟨e0, e1, e2, e3, e4, e5⟩ := ivsCellH hl11.out m hm el HEL.out
            have dc0 := hh11.out.c0
            have dc1 := hh11.out.c1
            have dc2 := hh11.out.c2
            have dc3 := hh11.out.c3
            have dc4 := hh11.out.c4
            have dc5 := hh11.out.c5
            go_wp2_with fail
            go_quiet (fail)
            obtain ⟨wg, hnw⟩ : ∃ x, x = wf.drewN nq := ⟨_, rfl⟩
            have hqb : Hid (Below wf.heap.size wf wg) := Lib.hid (by rw [hnw]; exact drewN_bel _ _ _)
            rw [← hnw]; clear hnw
            clear e0 e1 e2 e3 e4 e5 dc0 dc1 dc2 dc3 dc4 dc5
            have hB4 := Lib.hid (hB3.out.trans (hqb.out.mono hB3.out.size)); have hrow4 := Lib.hid (row_bel hrow3.out hqb.out); have hh12 := Lib.hid (hh11.out.bel hqb.out); have hl12 := Lib.hid (hl11.out.bel hqb.out)
            clear hqb hB3 hrow3 hh11 hl11
            obtain ⟨e0, e1, e2, e3, e4, e5⟩ := ivsCellH hl12.out m hm el HEL.out
            have dc0 := hh12.out.c0
            have dc1 := hh12.out.c1
            have dc2 := hh12.out.c2
            have dc3 := hh12.out.c3
            have dc4 := hh12.out.c4
            have dc5 := hh12.out.c5
            go_wp2_with (at_builtin; refine wpList_append_own _ rfl _ _ 29 rfl WL.heap.size 26 i0 (.agg #[.bool false, .string ⟨#[]⟩, .string ⟨#[]⟩, .bool false, .string ⟨#[]⟩, .string ⟨#[]⟩]) 6 80 Tryd.underlying29 HI0.out HZ0.out HZ1.out HZ2.out rfl (by decide) bv nn xs rfl (hrow4.out.alloc _) ⟨wg.heap.size, 0, none⟩ 1 1 [.bool el.low.neg, .string el.low.num, .string el.low.den, .bool el.high.neg, .string el.high.num, .string el.high.den] rfl rfl (cells6_new _ _ _ _ _ _ _ _) (by simp [Value.oneCell']) (by have := HNN.out; unfold maxLen; omega) (by have := HNN.out; omega) (by have := hB4.out.size; rw [World.size_alloc]; omega) ?_; intro v' w1 hown' hgrow _; have HOWN := Lib.hid hown'; have HB3 : Hid (Below WL.heap.size WL w1) := Lib.hid (grown_append hB4.out hrow4.out hgrow); clear hown' hgrow)
            go_roundw
            case rel => exact ⟨m, _, by omega, by first | rfl | (simp; done) | go_num, by rw [k1.out]; first | rfl | simp, by rw [k2.out]; first | rfl | simp, rfl, HB3, Lib.hid (by rw [← HNX.out.1, ← HNX.out.2]; exact HOWN.out)⟩
            case measure => first | (simp [intOf]; omega) | (simp [intOf]; done)
theorem walkIntervalHulls (v : Value) (l : List Iv) (r : Raw) (w : World) (ht : TabOk w) (ok : IvsOk w v l) (sr : BigR r) : Calls Tryd.prog 5 #[v, .agg #[.bool r.neg, .string r.num, .string r.den]] w fun e w' => e = .returned (.bool true) ∧ Below w.heap.size w w' := by
  rcases ok.form with ⟨hl, a, cap, rfl⟩ | ⟨h0, b, off, cap, rfl, h1, h2, hc⟩
  · exact hulls_nil a cap l r w ht hl ok sr
  · exact hulls_some b off cap l r w ht h0 h1 h2 hc ok sr
end Go.Proofs.YtbcoblpnihdhgaaDoor
