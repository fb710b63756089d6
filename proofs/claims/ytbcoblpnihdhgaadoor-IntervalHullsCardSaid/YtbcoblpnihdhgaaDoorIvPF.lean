/-
  The program's interval package: Mul.
-/
import Derived.Test.YtbcoblpnihdhgaaDoorIvPE
import Derived.RangeFuncBox
set_option linter.unusedVariables false
set_option maxRecDepth 100000
namespace Go.Proofs.YtbcoblpnihdhgaaDoor
open Go.RowKit Go.Shelf
open Rt
attribute [local go_sem] Oper.semAt_some
/-- an error in a block -/
structure ErrAt (B : Nat) (e : Int) (w : World) : Prop where
  cells : w.heap[B]? = some (.cells #[.int .i64 e] 31 (0, 0))
theorem ErrAt.bel {B : Nat} {e : Int} {w w' : World} (h : ErrAt B e w) (hb : Below w.heap.size w w') : ErrAt B e w' := ⟨(hb.block _ (blk_lt h.cells)).trans h.cells⟩
theorem ErrAt.bes {B C : Nat} {e : Int} {w w' : World} (h : ErrAt B e w) (hb : Bes C w w') (hne : B ≠ C) : ErrAt B e w' := ⟨(hb.block _ (blk_lt h.cells) hne).trans h.cells⟩
theorem ErrAt.c0 {B : Nat} {e : Int} {w : World} (h : ErrAt B e w) : w.cell? ⟨B, 0, none⟩ = some (.int .i64 e) := by rw [Lib.cell_of_heap h.cells]; rfl
theorem ErrAt.fz {B : Nat} {e : Int} {w : World} (h : ErrAt B e w) (k : Nat) : w.frozen? ⟨B, k, none⟩ = false := Lib.frozen_of_heap h.cells k
theorem ErrAt.set {B : Nat} {e : Int} {w : World} (h : ErrAt B e w) (f : Int) : ErrAt B f (w.setCell ⟨B, 0, none⟩ (.int .i64 f)) := ⟨heap_setCell_same w B 0 _ _ (.int .i64 f) h.cells⟩
/-- a list of numbers in a variable -/
structure BoxF (B : Nat) (v : Value) (w : World) : Prop where
  cells : w.heap[B]? = some (.cells #[v] 38 (0, 0))
theorem BoxF.bel {B : Nat} {v : Value} {w w' : World} (h : BoxF B v w) (hb : Below w.heap.size w w') : BoxF B v w' := ⟨(hb.block _ (blk_lt h.cells)).trans h.cells⟩
theorem BoxF.c0 {B : Nat} {v : Value} {w : World} (h : BoxF B v w) : w.cell? ⟨B, 0, none⟩ = some v := by rw [Lib.cell_of_heap h.cells]; rfl
theorem BoxF.fz {B : Nat} {v : Value} {w : World} (h : BoxF B v w) (k : Nat) : w.frozen? ⟨B, k, none⟩ = false := Lib.frozen_of_heap h.cells k
theorem results_iv2 {fn : Func} {p q : Tmp} (h : fn.results = #[.cell p 26, .cell q 31]) (tmps : Array Value) (w : World) (g k : Nat) (r : Iv) (e : Int)
    (hp : tmps.getD p undef = .pointer (some ⟨g, 0, none⟩)) (hq : tmps.getD q undef = .pointer (some ⟨k, 0, none⟩)) (hg : IvAt g r w) (he : ErrAt k e w) :
    (results fn tmps).run Tryd.prog w = .ok (.tuple #[.agg #[.bool r.low.neg, .string r.low.num, .string r.low.den, .bool r.high.neg, .string r.high.num, .string r.high.den], .int .i64 e]) w := by
  have hp' : tmps[p]?.getD undef = .pointer (some ⟨g, 0, none⟩) := by simpa using hp
  have hq' : tmps[q]?.getD undef = .pointer (some ⟨k, 0, none⟩) := by simpa using hq
  have he' := he.c0
  have k0 := hg.c0
  have k1 := hg.c1
  have k2 := hg.c2
  have k3 := hg.c3
  have k4 := hg.c4
  have k5 := hg.c5
  simp [results, h, hp', hq', asAddr, loadVar, go_sem, he', k0, k1, k2, k3, k4, k5]

theorem KpF.bel {Bf : Nat} {W W' : World} (hlt : Bf < W.heap.size) (hb : Below W.heap.size W W') : KpF Bf W W' :=
  ⟨hb.size, fun k c T hk _ ho => ⟨hb.block k (blk_lt hk), fun h => ho (owned_bel hlt hb h)⟩, fun hv k hk => Nat.lt_of_lt_of_le (hv k (owned_bel hlt hb hk)) hb.size⟩
/-- what lies in a block of cells abides the turn of what is no cells -/
theorem heap_own {W X : World} {row : Option Nat} {B : Nat} {cs : Array Value} {T : TypeId} {fr : Nat × Nat} (h : W.heap[B]? = some (.cells cs T fr)) (hg : W.grownBy X row)
    (hr : ∀ r, row = some r → ∃ o : Obj, W.heap[r]? = some o ∧ o.isCells = false) : X.heap[B]? = some (.cells cs T fr) := by
  refine (hg.block B (blk_lt h) (fun e => ?_)).trans h
  obtain ⟨o, ho, hc⟩ := hr B e.symm
  rw [h] at ho; cases ho; cases hc
/-- the cells of the products that have come -/
def cellsP (pre : List (Raw × Int)) : List Value := pre.flatMap fun x => [.bool x.1.neg, .string x.1.num, .string x.1.den]
theorem cellsP_snoc (pre : List (Raw × Int)) (x : Raw × Int) : cellsP (pre ++ [x]) = cellsP pre ++ [.bool x.1.neg, .string x.1.num, .string x.1.den] := by simp [cellsP]
theorem cellsP_len : ∀ pre : List (Raw × Int), (cellsP pre).length = pre.length * 3
  | [] => rfl
  | x :: t => by have := cellsP_len t; simp [cellsP] at *; omega
theorem cellsP_at : ∀ (pre : List (Raw × Int)) (j : Nat) (hj : j < pre.length), (cellsP pre)[j * 3]? = some (.bool pre[j].1.neg) ∧ (cellsP pre)[j * 3 + 1]? = some (.string pre[j].1.num) ∧ (cellsP pre)[j * 3 + 2]? = some (.string pre[j].1.den)
  | x :: t, 0, _ => by simp [cellsP]
  | x :: t, j + 1, hj => by
    have h := cellsP_at t j (by simpa using hj)
    have e : cellsP (x :: t) = [.bool x.1.neg, .string x.1.num, .string x.1.den] ++ cellsP t := by simp [cellsP]
    rw [e]
    simp only [List.getElem_cons_succ]
    refine ⟨?_, ?_, ?_⟩
    · rw [List.getElem?_append_right (by simp; omega), ← h.1]; simp; congr 1; omega
    · rw [List.getElem?_append_right (by simp; omega), ← h.2.1]; simp; congr 1; omega
    · rw [List.getElem?_append_right (by simp; omega), ← h.2.2]; simp; congr 1; omega
/-- between two rounds: what has come lies in the list, without an error -/
def Sofar (n₀ Bf Bz Be : Nat) (w : World) (pre : List (Raw × Int)) (W : World) : Prop :=
  (∃ v, Boxed W Bf 38 v ∧ W.ownsRow n₀ 24 3 v pre.length (cellsP pre) ∧ (v = .slice none 0 0 ↔ pre = [])) ∧ (∀ x ∈ pre, x.2 = 0) ∧ IvAt Bz noI W ∧ ErrAt Be 0 W ∧ Below n₀ w W
/-- a round has left with an error -/
def Left1 (n₀ Bz Be : Nat) (w : World) (c : Code) (pre : List (Raw × Int)) (W : World) : Prop :=
  c = .ret ∧ ∃ x ∈ pre, x.2 ≠ 0 ∧ IvAt Bz noI W ∧ ErrAt Be x.2 W ∧ Below n₀ w W
theorem sofar_own (n₀ Bf Bz Be B : Nat) (w : World) (h0 : n₀ ≤ w.heap.size) (hB : n₀ ≤ B) : OwnFrom B (Sofar n₀ Bf Bz Be w) := by
  intro s X Y row hs hg hr
  have hr' : ∀ r, row = some r → ∃ o : Obj, X.heap[r]? = some o ∧ o.isCells = false := fun r e => (hr r e).2
  refine ⟨?_, hs.2.1, ⟨heap_own hs.2.2.1.cells hg hr'⟩, ⟨heap_own hs.2.2.2.1.cells hg hr'⟩, ownFrom_below h0 hB s X Y row hs.2.2.2.2 hg hr⟩
  exact holdsRow_own n₀ Bf 38 24 3 (fun pre : List (Raw × Int) => pre.length) cellsP (fun pre v => (v = .slice none 0 0 ↔ pre = [])) s X Y row hs.1 hg hr'
theorem left1_own (n₀ Bz Be B : Nat) (w : World) (h0 : n₀ ≤ w.heap.size) (hB : n₀ ≤ B) (c : Code) : OwnFrom B (Left1 n₀ Bz Be w c) := by
  intro s X Y row hs hg hr
  have hr' : ∀ r, row = some r → ∃ o : Obj, X.heap[r]? = some o ∧ o.isCells = false := fun r e => (hr r e).2
  obtain ⟨hc, x, hx, h1, h2, h3, h4⟩ := hs
  exact ⟨hc, x, hx, h1, ⟨heap_own h2.cells hg hr'⟩, ⟨heap_own h3.cells hg hr'⟩, ownFrom_below h0 hB s X Y row h4 hg hr⟩
theorem sofar_start (n₀ Bf Bz Be : Nat) (w W : World) (hf : BoxF Bf (.slice none 0 0) W) (hz : IvAt Bz noI W) (he : ErrAt Be 0 W) (hb : Below n₀ w W) : Sofar n₀ Bf Bz Be w [] W :=
  ⟨⟨_, hf.cells, World.ownsRow_nil _ _ _ _, by simp⟩, by simp, hz, he, hb⟩
theorem sofar_bel {n₀ Bf Bz Be : Nat} {w W W' : World} {pre : List (Raw × Int)} (h : Sofar n₀ Bf Bz Be w pre W) (hb : Below W.heap.size W W') (hn : n₀ ≤ W.heap.size) : Sofar n₀ Bf Bz Be w pre W' := by
  obtain ⟨⟨v, h1, h2, h3⟩, h4, h5, h6, h7⟩ := h
  exact ⟨⟨v, (hb.block _ h1.lt).trans h1, h2.kept (grown_bel hb) (by rcases h2.2 with ⟨rfl, _⟩ | ⟨g, cap, cur, rfl, _⟩ <;> simp [Value.ownBlock]), h3⟩, h4, h5.bel hb, h6.bel hb, h7.trans (hb.mono hn)⟩
theorem owned_nil {Bf : Nat} {W : World} (hf : BoxF Bf (.slice none 0 0) W) (k : Nat) : ¬ Owned Bf W k := by
  rintro ⟨v, hv, hk⟩
  rw [hf.c0] at hv; cases hv; simp [Value.ownBlock] at hk
theorem ownsRow_from {W : World} {base n₀ k : Nat} {v : Value} {xs : List Value} (h : W.ownsRow base 24 3 v k xs) (hb : n₀ ≤ base) : W.ownsRow n₀ 24 3 v k xs :=
  ⟨h.1, h.2.imp id (fun ⟨g, cap, cur, e, hg, r⟩ => ⟨g, cap, cur, e, Nat.le_trans hb hg, r⟩)⟩
theorem appended2 {W w1 : World} {n₀ base B : Nat} {v v' : Value} {pre : List (Raw × Int)} {xs ys : List Value} {tmp : Obj}
    (hv : Boxed W B 38 v) (hrow : W.ownsRow base 24 3 v pre.length xs) (h1 : n₀ ≤ base) (h2 : base ≤ W.heap.size) (h3 : pre = [] → base = W.heap.size) (hB : n₀ ≤ B)
    (hown' : w1.ownsRow base 24 3 v' (pre.length + 1) ys) (hgrow : (W.alloc tmp).grownBy w1 v.ownBlock) :
    Boxed w1 B 38 v ∧ Boxed (w1.setCell ⟨B, 0, none⟩ v') B 38 v' ∧ (w1.setCell ⟨B, 0, none⟩ v').ownsRow n₀ 24 3 v' (pre.length + 1) ys ∧ KeepsOthers W (w1.setCell ⟨B, 0, none⟩ v') ∧ Below n₀ W (w1.setCell ⟨B, 0, none⟩ v') ∧ KpF B W (w1.setCell ⟨B, 0, none⟩ v') ∧
    ∀ k c T, W.heap[k]? = some (.cells c T (0, 0)) → T ≠ 24 → k ≠ B → (w1.setCell ⟨B, 0, none⟩ v').heap[k]? = W.heap[k]? := by
  obtain ⟨a1, a2, a3, a4, a5⟩ := hv.appended (by decide) (ownsRow_from hrow h1) (Nat.le_trans h1 h2) hB (ownsRow_from hown' h1) hgrow
  have same : ∀ k c T, W.heap[k]? = some (.cells c T (0, 0)) → some k ≠ v.ownBlock → k ≠ B → (w1.setCell ⟨B, 0, none⟩ v').heap[k]? = W.heap[k]? := by
    intro k c T hk hkv hkB
    have hlt := blk_lt hk
    have e1 := hgrow.block k (by rw [World.size_alloc]; omega) hkv
    have e2 := Below.heap_alloc W tmp k hlt
    exact ((Below.heap_setCell w1 ⟨B, 0, none⟩ v' k hkB).trans e1).trans e2
  refine ⟨a1, a2, a3, a4, a5, ⟨a5.size, fun k c T hk ht ho => ?_, fun _ k hk => ?_⟩, fun k c T hk hT hkB => same k c T hk (fun e => ?_) hkB⟩
  · have hkB : k ≠ B := by
      rintro rfl
      have := hk.symm.trans hv
      simp at this
      rcases ht with ⟨e, _⟩ | e
      · rw [this.2] at e; exact absurd e (by decide)
      · rw [this.2] at e; exact absurd e (by decide)
    have hs := same k c T hk (fun e => ho ⟨v, hv.cell, e.symm⟩) hkB
    refine ⟨hs, ?_⟩
    rintro ⟨u, hu, hku⟩
    rw [a2.cell] at hu; cases hu
    have hg := a3.2
    rcases hown'.2 with ⟨rfl, _⟩ | ⟨g, cap, cur, rfl, hg1, hg2, hg3, _, hg5, _⟩
    · simp [Value.ownBlock] at hku
    · obtain rfl : g = k := by simpa [Value.ownBlock] using hku
      have e1 := hgrow.block g (by rw [World.size_alloc]; have := blk_lt hk; omega) (fun e => ho ⟨v, hv.cell, e.symm⟩)
      have e2 := (e1.trans (Below.heap_alloc W tmp g (blk_lt hk))).trans hk
      rw [hg2] at e2
      simp at e2
      obtain ⟨rfl, rfl⟩ := e2
      rcases ht with ⟨_, e⟩ | e
      · rw [hg5] at e
        have hc : cap = 1 := by omega
        have hp : pre = [] := List.eq_nil_of_length_eq_zero (by omega)
        have := h3 hp
        have := blk_lt hk
        omega
      · exact absurd e (by decide)
  · obtain ⟨u, hu, hku⟩ := hk
    rw [a2.cell] at hu; cases hu
    have := (a3.lt k hku).2
    exact this
  · rcases hrow.2 with ⟨rfl, _⟩ | ⟨g, cap, cur, rfl, _, hg2, _⟩
    · simp [Value.ownBlock] at e
    · obtain rfl : k = g := by simpa [Value.ownBlock] using e
      rw [hg2] at hk
      simp at hk
      exact hT hk.2.symm
theorem cells3_new (W : World) (c0 c1 c2 : Value) (T : TypeId) : ∀ j u, [c0, c1, c2][j]? = some u → (W.alloc (.cells #[c0, c1, c2] T)).cell? ((⟨W.heap.size, 0, none⟩ : Addr).add j) = some u := by
  intro j u h
  match j with
  | 0 => simp at h; subst h; simp [Addr.add]
  | 1 => simp at h; subst h; simp [Addr.add]
  | 2 => simp at h; subst h; simp [Addr.add]
  | j + 3 => simp at h
theorem ratInfo5 : (Tryd.prog.info? 24).map (fun i => (i.zero, i.size, i.bytes)) = some (some (.agg #[.bool false, .string ⟨#[]⟩, .string ⟨#[]⟩]), 3, 40) := by kernel_rfl
theorem row_of {W : World} {n₀ : Nat} {v : Value} {l : List (Raw × Int)} (h : W.ownsRow n₀ 24 3 v l.length (cellsP l)) (h0 : l ≠ []) : ∃ g cap, v = .slice (some ⟨g, 0, none⟩) (l.map Prod.fst).length cap ∧ (l.map Prod.fst).length ≤ cap ∧ cap ≤ maxLen ∧ RowR W g (l.map Prod.fst) := by
  have hcell : ∀ {g : Nat}, v.ownBlock = some g → ∀ j u, (cellsP l)[j]? = some u → W.cell? ((⟨g, 0, none⟩ : Addr).add j) = some u := fun hg => h.cells hg
  rcases h.2 with ⟨_, hn⟩ | ⟨g, cap, cur, rfl, _, _, h4, h5, _⟩
  · exact absurd (List.eq_nil_of_length_eq_zero hn) h0
  · refine ⟨g, cap, by simp, by simpa using h4, h5, fun j hj => ?_⟩
    have hj' : j < l.length := by simpa using hj
    obtain ⟨k0, k1, k2⟩ := cellsP_at l j hj'
    have e := hcell (g := g) (by simp [Value.ownBlock])
    have r0 := e _ _ k0
    have r1 := e _ _ k1
    have r2 := e _ _ k2
    have ad : ∀ i, (⟨g, 0, none⟩ : Addr).add i = ⟨g, i, none⟩ := fun i => by unfold Addr.add; split <;> simp_all
    rw [ad] at r0 r1 r2
    simp only [List.getElem_map]
    exact ⟨r0, r1, r2⟩
theorem callLess : CallR 22 lessR := ⟨fun _ _ _ => Tryd.call22 _ _, fun x y w => piless_any x y w⟩
theorem callMore : CallR 25 moreR := ⟨fun _ _ _ => Tryd.call25 _ _, fun x y w => pmul1_any x y w⟩
theorem put_kept {W : World} {D B : Nat} {cs : Array Value} {T : TypeId} {o : Obj} (h : W.heap[B]? = some (.cells cs T (0, 0))) (hK : W.heap[D]? = some (.deferred (some []))) : (W.putObj D o).heap[B]? = some (.cells cs T (0, 0)) :=
  (World.putObj_heap_other (by intro e; subst e; rw [hK] at h; cases h)).trans h
theorem keep_cell {W : World} {a b : Addr} {x u : Value} (h : W.cell? a = some x) (hne : a.block ≠ b.block) : (W.setCell b u).cell? a = some x :=
  (World.cell?_of_block (Below.heap_setCell W b u a.block hne)).trans h
theorem keep6 {n Bz B2 : Nat} {w y : World} {v : Value} (h : Below n w y ∧ y.cell? ⟨B2, 0, none⟩ = some v) (hz : n ≤ Bz) (hne : B2 ≠ Bz) (u0 u1 u2 u3 u4 u5 : Value) :
    Below n w ((((((y.setCell ⟨Bz, 0, none⟩ u0).setCell ⟨Bz, 1, none⟩ u1).setCell ⟨Bz, 2, none⟩ u2).setCell ⟨Bz, 3, none⟩ u3).setCell ⟨Bz, 4, none⟩ u4).setCell ⟨Bz, 5, none⟩ u5) ∧ ((((((y.setCell ⟨Bz, 0, none⟩ u0).setCell ⟨Bz, 1, none⟩ u1).setCell ⟨Bz, 2, none⟩ u2).setCell ⟨Bz, 3, none⟩ u3).setCell ⟨Bz, 4, none⟩ u4).setCell ⟨Bz, 5, none⟩ u5).cell? ⟨B2, 0, none⟩ = some v :=
  ⟨((((((h.1.setCell (p := ⟨Bz, 0, none⟩) hz _).setCell (p := ⟨Bz, 1, none⟩) hz _).setCell (p := ⟨Bz, 2, none⟩) hz _).setCell (p := ⟨Bz, 3, none⟩) hz _).setCell (p := ⟨Bz, 4, none⟩) hz _).setCell (p := ⟨Bz, 5, none⟩) hz _), (keep_cell (keep_cell (keep_cell (keep_cell (keep_cell (keep_cell h.2 hne) hne) hne) hne) hne) hne)⟩
theorem keep1 {n Be B2 : Nat} {w y : World} {v : Value} (h : Below n w y ∧ y.cell? ⟨B2, 0, none⟩ = some v) (hz : n ≤ Be) (hne : B2 ≠ Be) (u0 : Value) :
    Below n w (y.setCell ⟨Be, 0, none⟩ u0) ∧ (y.setCell ⟨Be, 0, none⟩ u0).cell? ⟨B2, 0, none⟩ = some v := ⟨h.1.setCell (p := ⟨Be, 0, none⟩) hz _, keep_cell h.2 hne⟩
/-- the end of the multiplication: what is stored last -/
theorem mul_end {n Bz Be D : Nat} {w y : World} {s1 s2 : Raw} (hz : IvAt Bz noI y) (he : ErrAt Be 0 y) (hK : y.heap[D]? = some (.deferred (some []))) (hb : Below n w y) (h1 : n ≤ Bz) (h2 : n ≤ Be) (hne : Bz ≠ Be)
    {Y : World} (hY : Y = (((((((y.setCell ⟨Bz, 0, none⟩ (.bool s1.neg)).setCell ⟨Bz, 1, none⟩ (.string s1.num)).setCell ⟨Bz, 2, none⟩ (.string s1.den)).setCell ⟨Bz, 3, none⟩ (.bool s2.neg)).setCell ⟨Bz, 4, none⟩ (.string s2.num)).setCell ⟨Bz, 5, none⟩ (.string s2.den)).setCell ⟨Be, 0, none⟩ (.int .i64 0))) :
    IvAt Bz ⟨s1, s2⟩ Y ∧ ErrAt Be 0 Y ∧ Y.heap[D]? = some (.deferred (some [])) ∧ Below n w Y := by
  have hD : ∀ (B : Nat) (cs : Array Value) (T : TypeId), y.heap[B]? = some (.cells cs T (0, 0)) → D ≠ B := fun B cs T h e => by subst e; rw [hK] at h; cases h
  have d1 := hD _ _ _ hz.cells
  have d2 := hD _ _ _ he.cells
  obtain ⟨y6, h6⟩ : ∃ y6, y6 = ((((((y.setCell ⟨Bz, 0, none⟩ (.bool s1.neg)).setCell ⟨Bz, 1, none⟩ (.string s1.num)).setCell ⟨Bz, 2, none⟩ (.string s1.den)).setCell ⟨Bz, 3, none⟩ (.bool s2.neg)).setCell ⟨Bz, 4, none⟩ (.string s2.num)).setCell ⟨Bz, 5, none⟩ (.string s2.den)) := ⟨_, rfl⟩
  have z6 : IvAt Bz ⟨s1, s2⟩ y6 := by rw [h6]; exact hz.set ⟨s1, s2⟩
  have b6 : Bes Bz y y6 := by rw [h6]; exact (((((Bes.set _ Bz 0 _).trans (Bes.set _ Bz 1 _)).trans (Bes.set _ Bz 2 _)).trans (Bes.set _ Bz 3 _)).trans (Bes.set _ Bz 4 _)).trans (Bes.set _ Bz 5 _)
  have e6 := he.bes b6 hne.symm
  have k6 : y6.heap[D]? = some (.deferred (some [])) := (b6.block D (Array.getElem?_eq_some_iff.1 hK).1 d1).trans hK
  have l6 : Below n w y6 := by rw [h6]; exact ((((((hb.setCell (p := ⟨Bz, 0, none⟩) h1 _).setCell (p := ⟨Bz, 1, none⟩) h1 _).setCell (p := ⟨Bz, 2, none⟩) h1 _).setCell (p := ⟨Bz, 3, none⟩) h1 _).setCell (p := ⟨Bz, 4, none⟩) h1 _).setCell (p := ⟨Bz, 5, none⟩) h1 _)
  rw [← h6] at hY
  subst hY
  exact ⟨z6.setOther hne _, e6.set 0, (Below.heap_setCell y6 ⟨Be, 0, none⟩ _ D d2).trans k6, l6.setCell (p := ⟨Be, 0, none⟩) h2 _⟩
set_option maxHeartbeats 8000000 in
theorem pimul_bada (a b : Iv) (w : World) (h : okI a = false) : Calls Tryd.prog 12 #[.agg #[.bool a.low.neg, .string a.low.num, .string a.low.den, .bool a.high.neg, .string a.high.num, .string a.high.den], .agg #[.bool b.low.neg, .string b.low.num, .string b.low.den, .bool b.high.neg, .string b.high.num, .string b.high.den]] w (GivesI (noI, 1) w) := by
  have D0 := Lib.hid (Below.refl w.heap.size w)
  have hva : Hid (∀ w, Calls Tryd.prog 15 #[.agg #[.bool a.low.neg, .string a.low.num, .string a.low.den, .bool a.high.neg, .string a.high.num, .string a.high.den]] w (GivesB false w)) := Lib.hid (fun w => by have := pivalid_any a w; rwa [h] at this)
  clear h
  go_enter Tryd.func12, Tryd.ntmps12
  go_wp2_with fail
  obtain ⟨B1, hB1⟩ : ∃ B, B = w.heap.size := ⟨_, rfl⟩
  obtain ⟨W1_0, hW1_0⟩ : ∃ W, W = w.alloc (Obj.cells #[Value.bool a.low.neg, Value.string a.low.num, Value.string a.low.den, Value.bool a.high.neg, Value.string a.high.num, Value.string a.high.den] 26) := ⟨_, rfl⟩
  have hb : Below w.heap.size w W1_0 := by rw [hW1_0]; exact (Below.refl _ _).alloc (Nat.le_refl _) _
  have hzW1_0 : w.heap.size = B1 := by rw [hB1]
  have hlW1_0 : IvAt (B1) a W1_0 := by rw [← hzW1_0, hW1_0]; exact ⟨heap_lastM _ _⟩
  have D1 := Lib.hid (D0.out.trans (hb.mono D0.out.size))
  clear hb
  have a_1 := Lib.hid hlW1_0
  clear hlW1_0
  obtain ⟨W1_1, hW1_1⟩ : ∃ W, W = W1_0.alloc (Obj.cells #[Value.bool b.low.neg, Value.string b.low.num, Value.string b.low.den, Value.bool b.high.neg, Value.string b.high.num, Value.string b.high.den] 26) := ⟨_, rfl⟩
  have hb : Below W1_0.heap.size W1_0 W1_1 := by rw [hW1_1]; exact (Below.refl _ _).alloc (Nat.le_refl _) _
  have hzW1_1 : W1_0.heap.size = B1 + 1 := by rw [hW1_0]; simp [hzW1_0]
  have hlW1_1 : IvAt (B1 + 1) b W1_1 := by rw [← hzW1_1, hW1_1]; exact ⟨heap_lastM _ _⟩
  have D2 := Lib.hid (D1.out.trans (hb.mono D1.out.size))
  have a_2 := Lib.hid (a_1.out.bel hb)
  clear D1 a_1
  clear hb
  have b_2 := Lib.hid hlW1_1
  clear hlW1_1
  obtain ⟨W1_2, hW1_2⟩ : ∃ W, W = W1_1.alloc (Obj.cells #[Value.bool false, Value.string ⟨#[]⟩, Value.string ⟨#[]⟩, Value.bool false, Value.string ⟨#[]⟩, Value.string ⟨#[]⟩] 26) := ⟨_, rfl⟩
  have hb : Below W1_1.heap.size W1_1 W1_2 := by rw [hW1_2]; exact (Below.refl _ _).alloc (Nat.le_refl _) _
  have hzW1_2 : W1_1.heap.size = B1 + 1 + 1 := by rw [hW1_1]; simp [hzW1_1]
  have hlW1_2 : IvAt (B1 + 1 + 1) noI W1_2 := by rw [← hzW1_2, hW1_2]; exact ⟨heap_lastM _ _⟩
  have D3 := Lib.hid (D2.out.trans (hb.mono D2.out.size))
  have a_3 := Lib.hid (a_2.out.bel hb)
  have b_3 := Lib.hid (b_2.out.bel hb)
  clear D2 a_2 b_2
  clear hb
  have z_3 := Lib.hid hlW1_2
  clear hlW1_2
  obtain ⟨W1_3, hW1_3⟩ : ∃ W, W = W1_2.alloc (Obj.cells #[Value.int IntKind.i64 0] 31) := ⟨_, rfl⟩
  have hb : Below W1_2.heap.size W1_2 W1_3 := by rw [hW1_3]; exact (Below.refl _ _).alloc (Nat.le_refl _) _
  have hzW1_3 : W1_2.heap.size = B1 + 1 + 1 + 1 := by rw [hW1_2]; simp [hzW1_2]
  have hlW1_3 : ErrAt (B1 + 1 + 1 + 1) (0 : Int) W1_3 := by rw [← hzW1_3, hW1_3]; exact ⟨heap_lastM _ _⟩
  have D4 := Lib.hid (D3.out.trans (hb.mono D3.out.size))
  have a_4 := Lib.hid (a_3.out.bel hb)
  have b_4 := Lib.hid (b_3.out.bel hb)
  have z_4 := Lib.hid (z_3.out.bel hb)
  clear D3 a_3 b_3 z_3
  clear hb
  have e_4 := Lib.hid hlW1_3
  clear hlW1_3
  rw [← hW1_0]
  rw [← hW1_1]
  rw [← hW1_2]
  rw [← hW1_3]
  simp only [← hB1]
  have HW1_0 := Lib.hid hW1_0
  clear hW1_0 hzW1_0
  have HW1_1 := Lib.hid hW1_1
  clear hW1_1 hzW1_1
  have HW1_2 := Lib.hid hW1_2
  clear hW1_2 hzW1_2
  have HW1_3 := Lib.hid hW1_3
  clear hW1_3 hzW1_3
  have HB1 := Lib.hid hB1
  clear hB1
  have ac0 := a_4.out.c0
  have ac1 := a_4.out.c1
  have ac2 := a_4.out.c2
  have ac3 := a_4.out.c3
  have ac4 := a_4.out.c4
  have ac5 := a_4.out.c5
  have bc0 := b_4.out.c0
  have bc1 := b_4.out.c1
  have bc2 := b_4.out.c2
  have bc3 := b_4.out.c3
  have bc4 := b_4.out.c4
  have bc5 := b_4.out.c5
  go_wp2_with fail
  clear ac0 ac1 ac2 ac3 ac4 ac5 bc0 bc1 bc2 bc3 bc4 bc5
  refine (hva.out _).mono ?_
  rintro e v5 ⟨rfl, hb⟩
  have D5 := Lib.hid (D4.out.trans (hb.mono D4.out.size))
  have a_5 := Lib.hid (a_4.out.bel hb)
  have b_5 := Lib.hid (b_4.out.bel hb)
  have z_5 := Lib.hid (z_4.out.bel hb)
  have e_5 := Lib.hid (e_4.out.bel hb)
  clear D4 a_4 b_4 z_4 e_4
  clear hb
  have zc0 := z_5.out.c0
  have zf0 := z_5.out.fz 0
  have zc1 := z_5.out.c1
  have zf1 := z_5.out.fz 1
  have zc2 := z_5.out.c2
  have zf2 := z_5.out.fz 2
  have zc3 := z_5.out.c3
  have zf3 := z_5.out.fz 3
  have zc4 := z_5.out.c4
  have zf4 := z_5.out.fz 4
  have zc5 := z_5.out.c5
  have zf5 := z_5.out.fz 5
  have ec0 := e_5.out.c0
  have ef0 := e_5.out.fz 0
  have hne : B1 + 1 + 1 ≠ B1 + 1 + 1 + 1 := by omega
  go_wp2_with fail
  (try simp only [Exit.inBlock, Exit.then])
  have hz5 : IvAt (B1 + 1 + 1) noI _ := z_5.out.set noI
  have he5 := e_5.out.bes (C := B1 + 1 + 1) (((((Bes.set v5 (B1 + 1 + 1) 0 (.bool noI.low.neg)).trans (Bes.set _ (B1 + 1 + 1) 1 (.string noI.low.num))).trans (Bes.set _ (B1 + 1 + 1) 2 (.string noI.low.den))).trans (Bes.set _ (B1 + 1 + 1) 3 (.bool noI.high.neg))).trans (Bes.set _ (B1 + 1 + 1) 4 (.string noI.high.num)) |>.trans (Bes.set _ (B1 + 1 + 1) 5 (.string noI.high.den))) (by omega)
  refine bodyPost_ret (results_iv2 rfl _ _ (B1 + 1 + 1) (B1 + 1 + 1 + 1) noI 1 rfl rfl (hz5.setOther (by omega) _) (he5.set 1)) rfl ?_; exact ⟨rfl, ((((((D5.out.setCell (p := ⟨B1 + 1 + 1, 0, none⟩) (by have := HB1.out; show w.heap.size ≤ B1 + 1 + 1; omega) _).setCell (p := ⟨B1 + 1 + 1, 1, none⟩) (by have := HB1.out; show w.heap.size ≤ B1 + 1 + 1; omega) _).setCell (p := ⟨B1 + 1 + 1, 2, none⟩) (by have := HB1.out; show w.heap.size ≤ B1 + 1 + 1; omega) _).setCell (p := ⟨B1 + 1 + 1, 3, none⟩) (by have := HB1.out; show w.heap.size ≤ B1 + 1 + 1; omega) _).setCell (p := ⟨B1 + 1 + 1, 4, none⟩) (by have := HB1.out; show w.heap.size ≤ B1 + 1 + 1; omega) _).setCell (p := ⟨B1 + 1 + 1, 5, none⟩) (by have := HB1.out; show w.heap.size ≤ B1 + 1 + 1; omega) _).setCell (p := ⟨B1 + 1 + 1 + 1, 0, none⟩) (by have := HB1.out; show w.heap.size ≤ B1 + 1 + 1 + 1; omega) _⟩
set_option maxHeartbeats 8000000 in
theorem pimul_badb (a b : Iv) (w : World) (ha : okI a = true) (h : okI b = false) : Calls Tryd.prog 12 #[.agg #[.bool a.low.neg, .string a.low.num, .string a.low.den, .bool a.high.neg, .string a.high.num, .string a.high.den], .agg #[.bool b.low.neg, .string b.low.num, .string b.low.den, .bool b.high.neg, .string b.high.num, .string b.high.den]] w (GivesI (noI, 1) w) := by
  have D0 := Lib.hid (Below.refl w.heap.size w)
  have hva : Hid (∀ w, Calls Tryd.prog 15 #[.agg #[.bool a.low.neg, .string a.low.num, .string a.low.den, .bool a.high.neg, .string a.high.num, .string a.high.den]] w (GivesB true w)) := Lib.hid (fun w => by have := pivalid_any a w; rwa [ha] at this)
  clear ha
  have hvb : Hid (∀ w, Calls Tryd.prog 15 #[.agg #[.bool b.low.neg, .string b.low.num, .string b.low.den, .bool b.high.neg, .string b.high.num, .string b.high.den]] w (GivesB false w)) := Lib.hid (fun w => by have := pivalid_any b w; rwa [h] at this)
  clear h
  go_enter Tryd.func12, Tryd.ntmps12
  go_wp2_with fail
  obtain ⟨B1, hB1⟩ : ∃ B, B = w.heap.size := ⟨_, rfl⟩
  obtain ⟨W1_0, hW1_0⟩ : ∃ W, W = w.alloc (Obj.cells #[Value.bool a.low.neg, Value.string a.low.num, Value.string a.low.den, Value.bool a.high.neg, Value.string a.high.num, Value.string a.high.den] 26) := ⟨_, rfl⟩
  have hb : Below w.heap.size w W1_0 := by rw [hW1_0]; exact (Below.refl _ _).alloc (Nat.le_refl _) _
  have hzW1_0 : w.heap.size = B1 := by rw [hB1]
  have hlW1_0 : IvAt (B1) a W1_0 := by rw [← hzW1_0, hW1_0]; exact ⟨heap_lastM _ _⟩
  have D1 := Lib.hid (D0.out.trans (hb.mono D0.out.size))
  clear hb
  have a_1 := Lib.hid hlW1_0
  clear hlW1_0
  obtain ⟨W1_1, hW1_1⟩ : ∃ W, W = W1_0.alloc (Obj.cells #[Value.bool b.low.neg, Value.string b.low.num, Value.string b.low.den, Value.bool b.high.neg, Value.string b.high.num, Value.string b.high.den] 26) := ⟨_, rfl⟩
  have hb : Below W1_0.heap.size W1_0 W1_1 := by rw [hW1_1]; exact (Below.refl _ _).alloc (Nat.le_refl _) _
  have hzW1_1 : W1_0.heap.size = B1 + 1 := by rw [hW1_0]; simp [hzW1_0]
  have hlW1_1 : IvAt (B1 + 1) b W1_1 := by rw [← hzW1_1, hW1_1]; exact ⟨heap_lastM _ _⟩
  have D2 := Lib.hid (D1.out.trans (hb.mono D1.out.size))
  have a_2 := Lib.hid (a_1.out.bel hb)
  clear D1 a_1
  clear hb
  have b_2 := Lib.hid hlW1_1
  clear hlW1_1
  obtain ⟨W1_2, hW1_2⟩ : ∃ W, W = W1_1.alloc (Obj.cells #[Value.bool false, Value.string ⟨#[]⟩, Value.string ⟨#[]⟩, Value.bool false, Value.string ⟨#[]⟩, Value.string ⟨#[]⟩] 26) := ⟨_, rfl⟩
  have hb : Below W1_1.heap.size W1_1 W1_2 := by rw [hW1_2]; exact (Below.refl _ _).alloc (Nat.le_refl _) _
  have hzW1_2 : W1_1.heap.size = B1 + 1 + 1 := by rw [hW1_1]; simp [hzW1_1]
  have hlW1_2 : IvAt (B1 + 1 + 1) noI W1_2 := by rw [← hzW1_2, hW1_2]; exact ⟨heap_lastM _ _⟩
  have D3 := Lib.hid (D2.out.trans (hb.mono D2.out.size))
  have a_3 := Lib.hid (a_2.out.bel hb)
  have b_3 := Lib.hid (b_2.out.bel hb)
  clear D2 a_2 b_2
  clear hb
  have z_3 := Lib.hid hlW1_2
  clear hlW1_2
  obtain ⟨W1_3, hW1_3⟩ : ∃ W, W = W1_2.alloc (Obj.cells #[Value.int IntKind.i64 0] 31) := ⟨_, rfl⟩
  have hb : Below W1_2.heap.size W1_2 W1_3 := by rw [hW1_3]; exact (Below.refl _ _).alloc (Nat.le_refl _) _
  have hzW1_3 : W1_2.heap.size = B1 + 1 + 1 + 1 := by rw [hW1_2]; simp [hzW1_2]
  have hlW1_3 : ErrAt (B1 + 1 + 1 + 1) (0 : Int) W1_3 := by rw [← hzW1_3, hW1_3]; exact ⟨heap_lastM _ _⟩
  have D4 := Lib.hid (D3.out.trans (hb.mono D3.out.size))
  have a_4 := Lib.hid (a_3.out.bel hb)
  have b_4 := Lib.hid (b_3.out.bel hb)
  have z_4 := Lib.hid (z_3.out.bel hb)
  clear D3 a_3 b_3 z_3
  clear hb
  have e_4 := Lib.hid hlW1_3
  clear hlW1_3
  rw [← hW1_0]
  rw [← hW1_1]
  rw [← hW1_2]
  rw [← hW1_3]
  simp only [← hB1]
  have HW1_0 := Lib.hid hW1_0
  clear hW1_0 hzW1_0
  have HW1_1 := Lib.hid hW1_1
  clear hW1_1 hzW1_1
  have HW1_2 := Lib.hid hW1_2
  clear hW1_2 hzW1_2
  have HW1_3 := Lib.hid hW1_3
  clear hW1_3 hzW1_3
  have HB1 := Lib.hid hB1
  clear hB1
  have ac0 := a_4.out.c0
  have ac1 := a_4.out.c1
  have ac2 := a_4.out.c2
  have ac3 := a_4.out.c3
  have ac4 := a_4.out.c4
  have ac5 := a_4.out.c5
  have bc0 := b_4.out.c0
  have bc1 := b_4.out.c1
  have bc2 := b_4.out.c2
  have bc3 := b_4.out.c3
  have bc4 := b_4.out.c4
  have bc5 := b_4.out.c5
  go_wp2_with fail
  clear ac0 ac1 ac2 ac3 ac4 ac5 bc0 bc1 bc2 bc3 bc4 bc5
  refine (hva.out _).mono ?_
  rintro e v5 ⟨rfl, hb⟩
  have D5 := Lib.hid (D4.out.trans (hb.mono D4.out.size))
  have a_5 := Lib.hid (a_4.out.bel hb)
  have b_5 := Lib.hid (b_4.out.bel hb)
  have z_5 := Lib.hid (z_4.out.bel hb)
  have e_5 := Lib.hid (e_4.out.bel hb)
  clear D4 a_4 b_4 z_4 e_4
  clear hb
  have ac0 := a_5.out.c0
  have ac1 := a_5.out.c1
  have ac2 := a_5.out.c2
  have ac3 := a_5.out.c3
  have ac4 := a_5.out.c4
  have ac5 := a_5.out.c5
  have bc0 := b_5.out.c0
  have bc1 := b_5.out.c1
  have bc2 := b_5.out.c2
  have bc3 := b_5.out.c3
  have bc4 := b_5.out.c4
  have bc5 := b_5.out.c5
  go_wp2_with fail
  clear ac0 ac1 ac2 ac3 ac4 ac5 bc0 bc1 bc2 bc3 bc4 bc5
  refine (hvb.out _).mono ?_
  rintro e v6 ⟨rfl, hb⟩
  have D6 := Lib.hid (D5.out.trans (hb.mono D5.out.size))
  have a_6 := Lib.hid (a_5.out.bel hb)
  have b_6 := Lib.hid (b_5.out.bel hb)
  have z_6 := Lib.hid (z_5.out.bel hb)
  have e_6 := Lib.hid (e_5.out.bel hb)
  clear D5 a_5 b_5 z_5 e_5
  clear hb
  have zc0 := z_6.out.c0
  have zf0 := z_6.out.fz 0
  have zc1 := z_6.out.c1
  have zf1 := z_6.out.fz 1
  have zc2 := z_6.out.c2
  have zf2 := z_6.out.fz 2
  have zc3 := z_6.out.c3
  have zf3 := z_6.out.fz 3
  have zc4 := z_6.out.c4
  have zf4 := z_6.out.fz 4
  have zc5 := z_6.out.c5
  have zf5 := z_6.out.fz 5
  have ec0 := e_6.out.c0
  have ef0 := e_6.out.fz 0
  have hne : B1 + 1 + 1 ≠ B1 + 1 + 1 + 1 := by omega
  go_wp2_with fail
  (try simp only [Exit.inBlock, Exit.then])
  have hz5 : IvAt (B1 + 1 + 1) noI _ := z_6.out.set noI
  have he5 := e_6.out.bes (C := B1 + 1 + 1) (((((Bes.set v6 (B1 + 1 + 1) 0 (.bool noI.low.neg)).trans (Bes.set _ (B1 + 1 + 1) 1 (.string noI.low.num))).trans (Bes.set _ (B1 + 1 + 1) 2 (.string noI.low.den))).trans (Bes.set _ (B1 + 1 + 1) 3 (.bool noI.high.neg))).trans (Bes.set _ (B1 + 1 + 1) 4 (.string noI.high.num)) |>.trans (Bes.set _ (B1 + 1 + 1) 5 (.string noI.high.den))) (by omega)
  refine bodyPost_ret (results_iv2 rfl _ _ (B1 + 1 + 1) (B1 + 1 + 1 + 1) noI 1 rfl rfl (hz5.setOther (by omega) _) (he5.set 1)) rfl ?_; exact ⟨rfl, ((((((D6.out.setCell (p := ⟨B1 + 1 + 1, 0, none⟩) (by have := HB1.out; show w.heap.size ≤ B1 + 1 + 1; omega) _).setCell (p := ⟨B1 + 1 + 1, 1, none⟩) (by have := HB1.out; show w.heap.size ≤ B1 + 1 + 1; omega) _).setCell (p := ⟨B1 + 1 + 1, 2, none⟩) (by have := HB1.out; show w.heap.size ≤ B1 + 1 + 1; omega) _).setCell (p := ⟨B1 + 1 + 1, 3, none⟩) (by have := HB1.out; show w.heap.size ≤ B1 + 1 + 1; omega) _).setCell (p := ⟨B1 + 1 + 1, 4, none⟩) (by have := HB1.out; show w.heap.size ≤ B1 + 1 + 1; omega) _).setCell (p := ⟨B1 + 1 + 1, 5, none⟩) (by have := HB1.out; show w.heap.size ≤ B1 + 1 + 1; omega) _).setCell (p := ⟨B1 + 1 + 1 + 1, 0, none⟩) (by have := HB1.out; show w.heap.size ≤ B1 + 1 + 1 + 1; omega) _⟩
set_option maxHeartbeats 16000000 in
theorem pimul_ok (a b : Iv) (w : World) (ha : okI a = true) (hb : okI b = true) : Calls Tryd.prog 12 #[.agg #[.bool a.low.neg, .string a.low.num, .string a.low.den, .bool a.high.neg, .string a.high.num, .string a.high.den], .agg #[.bool b.low.neg, .string b.low.num, .string b.low.den, .bool b.high.neg, .string b.high.num, .string b.high.den]] w (GivesI (mulI a b) w) := by
  have D0 := Lib.hid (Below.refl w.heap.size w)
  have hva : Hid (∀ w, Calls Tryd.prog 15 #[.agg #[.bool a.low.neg, .string a.low.num, .string a.low.den, .bool a.high.neg, .string a.high.num, .string a.high.den]] w (GivesB true w)) := Lib.hid (fun w => by have := pivalid_any a w; rwa [ha] at this)
  have hvb : Hid (∀ w, Calls Tryd.prog 15 #[.agg #[.bool b.low.neg, .string b.low.num, .string b.low.den, .bool b.high.neg, .string b.high.num, .string b.high.den]] w (GivesB true w)) := Lib.hid (fun w => by have := pivalid_any b w; rwa [hb] at this)
  have HOK : Hid ((okI a && okI b) = true) := Lib.hid (by rw [ha, hb]; rfl)
  clear ha hb
  obtain ⟨t, ht⟩ : ∃ t, t = mulI a b := ⟨_, rfl⟩
  rw [← ht]
  have HT := Lib.hid ht
  clear ht
  refine (callsIn_wide (n := 9)).1 ?_
  refine callsIn_of_wp_marks Tryd.func12 rfl trivial ?_ rfl
  simp only [Tryd.ntmps12, List.size_toArray, List.length_cons, List.length_nil, Nat.reduceAdd, Nat.reduceSub, Array.replicate_succ, Array.replicate_zero, List.push_toArray, List.append_toArray, List.nil_append, List.cons_append]
  refine wpIn_wide.2 ?_
  go_wp2_with fail
  obtain ⟨B1, hB1⟩ : ∃ B, B = w.heap.size := ⟨_, rfl⟩
  obtain ⟨W1_0, hW1_0⟩ : ∃ W, W = w.alloc (Obj.cells #[Value.bool a.low.neg, Value.string a.low.num, Value.string a.low.den, Value.bool a.high.neg, Value.string a.high.num, Value.string a.high.den] 26) := ⟨_, rfl⟩
  have hb : Below w.heap.size w W1_0 := by rw [hW1_0]; exact (Below.refl _ _).alloc (Nat.le_refl _) _
  have hzW1_0 : w.heap.size = B1 := by rw [hB1]
  have hlW1_0 : IvAt (B1) a W1_0 := by rw [← hzW1_0, hW1_0]; exact ⟨heap_lastM _ _⟩
  have D1 := Lib.hid (D0.out.trans (hb.mono D0.out.size))
  clear hb
  have a_1 := Lib.hid hlW1_0
  clear hlW1_0
  obtain ⟨W1_1, hW1_1⟩ : ∃ W, W = W1_0.alloc (Obj.cells #[Value.bool b.low.neg, Value.string b.low.num, Value.string b.low.den, Value.bool b.high.neg, Value.string b.high.num, Value.string b.high.den] 26) := ⟨_, rfl⟩
  have hb : Below W1_0.heap.size W1_0 W1_1 := by rw [hW1_1]; exact (Below.refl _ _).alloc (Nat.le_refl _) _
  have hzW1_1 : W1_0.heap.size = B1 + 1 := by rw [hW1_0]; simp [hzW1_0]
  have hlW1_1 : IvAt (B1 + 1) b W1_1 := by rw [← hzW1_1, hW1_1]; exact ⟨heap_lastM _ _⟩
  have D2 := Lib.hid (D1.out.trans (hb.mono D1.out.size))
  have a_2 := Lib.hid (a_1.out.bel hb)
  clear D1 a_1
  clear hb
  have b_2 := Lib.hid hlW1_1
  clear hlW1_1
  obtain ⟨W1_2, hW1_2⟩ : ∃ W, W = W1_1.alloc (Obj.cells #[Value.bool false, Value.string ⟨#[]⟩, Value.string ⟨#[]⟩, Value.bool false, Value.string ⟨#[]⟩, Value.string ⟨#[]⟩] 26) := ⟨_, rfl⟩
  have hb : Below W1_1.heap.size W1_1 W1_2 := by rw [hW1_2]; exact (Below.refl _ _).alloc (Nat.le_refl _) _
  have hzW1_2 : W1_1.heap.size = B1 + 1 + 1 := by rw [hW1_1]; simp [hzW1_1]
  have hlW1_2 : IvAt (B1 + 1 + 1) noI W1_2 := by rw [← hzW1_2, hW1_2]; exact ⟨heap_lastM _ _⟩
  have D3 := Lib.hid (D2.out.trans (hb.mono D2.out.size))
  have a_3 := Lib.hid (a_2.out.bel hb)
  have b_3 := Lib.hid (b_2.out.bel hb)
  clear D2 a_2 b_2
  clear hb
  have z_3 := Lib.hid hlW1_2
  clear hlW1_2
  obtain ⟨W1_3, hW1_3⟩ : ∃ W, W = W1_2.alloc (Obj.cells #[Value.int IntKind.i64 0] 31) := ⟨_, rfl⟩
  have hb : Below W1_2.heap.size W1_2 W1_3 := by rw [hW1_3]; exact (Below.refl _ _).alloc (Nat.le_refl _) _
  have hzW1_3 : W1_2.heap.size = B1 + 1 + 1 + 1 := by rw [hW1_2]; simp [hzW1_2]
  have hlW1_3 : ErrAt (B1 + 1 + 1 + 1) (0 : Int) W1_3 := by rw [← hzW1_3, hW1_3]; exact ⟨heap_lastM _ _⟩
  have D4 := Lib.hid (D3.out.trans (hb.mono D3.out.size))
  have a_4 := Lib.hid (a_3.out.bel hb)
  have b_4 := Lib.hid (b_3.out.bel hb)
  have z_4 := Lib.hid (z_3.out.bel hb)
  clear D3 a_3 b_3 z_3
  clear hb
  have e_4 := Lib.hid hlW1_3
  clear hlW1_3
  rw [← hW1_0]
  rw [← hW1_1]
  rw [← hW1_2]
  rw [← hW1_3]
  simp only [← hB1]
  have HW1_0 := Lib.hid hW1_0
  clear hW1_0 hzW1_0
  have HW1_1 := Lib.hid hW1_1
  clear hW1_1 hzW1_1
  have HW1_2 := Lib.hid hW1_2
  clear hW1_2 hzW1_2
  have HW1_3 := Lib.hid hW1_3
  clear hW1_3 hzW1_3
  have HB1 := Lib.hid hB1
  clear hB1
  have ac0 := a_4.out.c0
  have ac1 := a_4.out.c1
  have ac2 := a_4.out.c2
  have ac3 := a_4.out.c3
  have ac4 := a_4.out.c4
  have ac5 := a_4.out.c5
  have bc0 := b_4.out.c0
  have bc1 := b_4.out.c1
  have bc2 := b_4.out.c2
  have bc3 := b_4.out.c3
  have bc4 := b_4.out.c4
  have bc5 := b_4.out.c5
  go_wp2_with fail
  clear ac0 ac1 ac2 ac3 ac4 ac5 bc0 bc1 bc2 bc3 bc4 bc5
  refine (hva.out _).mono ?_
  rintro e v5 ⟨rfl, hb⟩
  have D5 := Lib.hid (D4.out.trans (hb.mono D4.out.size))
  have a_5 := Lib.hid (a_4.out.bel hb)
  have b_5 := Lib.hid (b_4.out.bel hb)
  have z_5 := Lib.hid (z_4.out.bel hb)
  have e_5 := Lib.hid (e_4.out.bel hb)
  clear D4 a_4 b_4 z_4 e_4
  clear hb
  have ac0 := a_5.out.c0
  have ac1 := a_5.out.c1
  have ac2 := a_5.out.c2
  have ac3 := a_5.out.c3
  have ac4 := a_5.out.c4
  have ac5 := a_5.out.c5
  have bc0 := b_5.out.c0
  have bc1 := b_5.out.c1
  have bc2 := b_5.out.c2
  have bc3 := b_5.out.c3
  have bc4 := b_5.out.c4
  have bc5 := b_5.out.c5
  go_wp2_with fail
  clear ac0 ac1 ac2 ac3 ac4 ac5 bc0 bc1 bc2 bc3 bc4 bc5
  refine (hvb.out _).mono ?_
  rintro e v6 ⟨rfl, hb⟩
  have D6 := Lib.hid (D5.out.trans (hb.mono D5.out.size))
  have a_6 := Lib.hid (a_5.out.bel hb)
  have b_6 := Lib.hid (b_5.out.bel hb)
  have z_6 := Lib.hid (z_5.out.bel hb)
  have e_6 := Lib.hid (e_5.out.bel hb)
  clear D5 a_5 b_5 z_5 e_5
  clear hb
  have ac0 := a_6.out.c0
  have ac1 := a_6.out.c1
  have ac2 := a_6.out.c2
  have ac3 := a_6.out.c3
  have ac4 := a_6.out.c4
  have ac5 := a_6.out.c5
  have az := blk_lt a_6.out.cells
  have bc0 := b_6.out.c0
  have bc1 := b_6.out.c1
  have bc2 := b_6.out.c2
  have bc3 := b_6.out.c3
  have bc4 := b_6.out.c4
  have bc5 := b_6.out.c5
  have bz := blk_lt b_6.out.cells
  go_wp2_with fail
  clear ac0 ac1 ac2 ac3 ac4 ac5 az bc0 bc1 bc2 bc3 bc4 bc5 bz
  have hl1 := Lib.hid (blk_lt z_6.out.cells); have hl2 := Lib.hid (blk_lt e_6.out.cells)
  obtain ⟨B2, hB2⟩ : ∃ B, B = v6.heap.size := ⟨_, rfl⟩
  obtain ⟨W2_0, hW2_0⟩ : ∃ W, W = v6.alloc (Obj.cells #[Value.slice none 0 0] 38) := ⟨_, rfl⟩
  have hb : Below v6.heap.size v6 W2_0 := by rw [hW2_0]; exact (Below.refl _ _).alloc (Nat.le_refl _) _
  have hzW2_0 : v6.heap.size = B2 := by rw [hB2]
  have hlW2_0 : BoxF (B2) (Value.slice none 0 0) W2_0 := by rw [← hzW2_0, hW2_0]; exact ⟨heap_lastM _ _⟩
  have D7 := Lib.hid (D6.out.trans (hb.mono D6.out.size))
  have a_7 := Lib.hid (a_6.out.bel hb)
  have b_7 := Lib.hid (b_6.out.bel hb)
  have z_7 := Lib.hid (z_6.out.bel hb)
  have e_7 := Lib.hid (e_6.out.bel hb)
  clear D6 a_6 b_6 z_6 e_6
  clear hb
  have f_7 := Lib.hid hlW2_0
  clear hlW2_0
  rw [← hW2_0]
  simp only [← hB2]
  have HW2_0 := Lib.hid hW2_0
  clear hW2_0 hzW2_0
  have HB2 := Lib.hid hB2
  clear hB2
  obtain ⟨N, hN⟩ : ∃ N, N = W2_0.heap.size := ⟨_, rfl⟩
  have HFN : Hid (B1 + 1 + 1 < B2 ∧ B1 + 1 + 1 + 1 < B2 ∧ B2 < N) := Lib.hid (by have h1 := hl1.out; have h2 := hl2.out; have h3 := HB2.out; have h5 := blk_lt f_7.out.cells; rw [hN]; exact ⟨by omega, by omega, h5⟩)
  refine (pproducts_any a b _).mono ?_
  rintro e v8 ⟨rfl, hb, hia, hib⟩
  have D8 := Lib.hid (D7.out.trans (hb.mono D7.out.size))
  have a_8 := Lib.hid (a_7.out.bel hb)
  have b_8 := Lib.hid (b_7.out.bel hb)
  have z_8 := Lib.hid (z_7.out.bel hb)
  have e_8 := Lib.hid (e_7.out.bel hb)
  have f_8 := Lib.hid (f_7.out.bel hb)
  clear D7 a_7 b_7 z_7 e_7 f_7
  clear hb
  rw [← hN] at hia hib
  simp only [← hN]
  have HIA := Lib.hid hia; have HIB := Lib.hid hib; have HN := Lib.hid hN; clear hia hib hN
  go_wp2_with fail
  have HLT : Hid (B2 < v8.heap.size) := Lib.hid (blk_lt f_8.out.cells)
  have HLE : Hid (w.heap.size ≤ B2) := Lib.hid (by have h1 := HFN.out.1; have h2 := HB1.out; omega)
  have HLZ : Hid (w.heap.size ≤ B1 + 1 + 1) := Lib.hid (by have h2 := HB1.out; omega)
  have HLES : Hid (w.heap.size ≤ v8.heap.size) := Lib.hid D8.out.size
  have HIT : Hid (ItAt B2 N (N + 1) a b v8) := Lib.hid ⟨HLT.out, fun k hk => absurd hk (owned_nil f_8.out k), HIA.out, owned_nil f_8.out N, HIB.out, owned_nil f_8.out (N + 1)⟩
  refine (wpIn_wide (n := 6)).1 ?_
  refine wpIn_rangeFunc_ownH rfl (by omega) (gf := 37) (lb := #[.pointer (some ⟨N, 0, none⟩), .pointer (some ⟨N + 1, 0, none⟩)]) rfl trivial (enters_of Tryd.func37 (by kernel_rfl) rfl)
    (pprods_stops 5 (by omega) B2 N (N + 1) a b v8 HIT.out) (fun h k => KpF.trans h k) (KpF.put HLT.out) (Below.refl _ _) (fun _ => rfl)
    (Sofar w.heap.size B2 (B1 + 1 + 1) (B1 + 1 + 1 + 1) w) (Left1 w.heap.size (B1 + 1 + 1) (B1 + 1 + 1 + 1) w) (sofar_own _ _ _ _ _ w (Nat.le_refl _) HLES.out) (fun c => left1_own _ _ _ _ w (Nat.le_refl _) HLES.out c)
    (sofar_start _ _ _ _ w v8 f_8.out z_8.out e_8.out D8.out)
    (fun x a' W => ∃ X, B2 < X ∧ RatAt X x.1 W ∧ a' = { tmps := #[Value.agg #[.bool a.low.neg, .string a.low.num, .string a.low.den, .bool a.high.neg, .string a.high.num, .string a.high.den], Value.agg #[.bool b.low.neg, .string b.low.num, .string b.low.den, .bool b.high.neg, .string b.high.num, .string b.high.den], Value.pointer (some ⟨B1, 0, none⟩), Value.pointer (some ⟨B1 + 1, 0, none⟩), Value.pointer (some ⟨B1 + 1 + 1, 0, none⟩), Value.pointer (some ⟨B1 + 1 + 1 + 1, 0, none⟩), Value.pointer (some ⟨B2, 0, none⟩), Value.pointer (some ⟨X, 0, none⟩), Value.int .i64 x.2, Value.agg #[.bool a.low.neg, .string a.low.num, .string a.low.den, .bool a.high.neg, .string a.high.num, .string a.high.den], Value.bool true, Value.bool false, Value.bool false, Value.agg #[.bool b.low.neg, .string b.low.num, .string b.low.den, .bool b.high.neg, .string b.high.num, .string b.high.den], Value.bool true, Value.bool false, Value.bool false, undef, Value.agg #[.bool a.low.neg, .string a.low.num, .string a.low.den, .bool a.high.neg, .string a.high.num, .string a.high.den], Value.agg #[.bool b.low.neg, .string b.low.num, .string b.low.den, .bool b.high.neg, .string b.high.num, .string b.high.den], Value.func (Fn.func 37) #[] #[Value.pointer (some ⟨N, 0, none⟩), Value.pointer (some ⟨N + 1, 0, none⟩)], Value.agg #[.bool x.1.neg, .string x.1.num, .string x.1.den], Value.int .i64 x.2, undef, undef, undef, undef, undef, undef, undef, undef, undef, undef, undef, undef, undef], defers := [] })
    (fun x a' s X Y row hs hg hr => by
      obtain ⟨X1, h1, h2, h3⟩ := hs
      exact ⟨X1, h1, ⟨heap_own h2.cells hg (fun r e => (hr r e).2)⟩, h3⟩) ?assign ?body ?done ?stop
  case assign =>
    rintro l pre x W K hi hK
    have hlt : B2 < W.heap.size := by obtain ⟨⟨v, hv, _⟩, _⟩ := hi; exact hv.lt
    have hn : w.heap.size ≤ W.heap.size := hi.2.2.2.2.size
    have hb : Below W.heap.size W (W.alloc (Obj.cells #[Value.bool x.1.neg, Value.string x.1.num, Value.string x.1.den] 24)) := (Below.refl _ _).alloc (Nat.le_refl _) _
    have HI := Lib.hid hi
    have HB := Lib.hid hb
    have HKK := Lib.hid hK
    have HL := Lib.hid hlt
    have HN2 := Lib.hid hn
    clear hi hb hK hlt hn
    gi_wp2
    exact HKK.out _ _ ((KeepsOthers.alloc _ _).from _) (KpF.bel HL.out HB.out) (sofar_bel HI.out HB.out HN2.out) ⟨W.heap.size, HL.out, ⟨heap_lastM _ _⟩, rfl⟩
  case body =>
    rintro l pre x a' W hl ⟨r, hr⟩ ⟨⟨v, hv, hrow, hnil⟩, hall, hz, he, hB⟩ ⟨X, hX, hx, rfl⟩ hlen
    have HV := Lib.hid hv
    have HROW := Lib.hid hrow
    have HALL := Lib.hid hall
    have HZ := Lib.hid hz
    have HE := Lib.hid he
    have HBB := Lib.hid hB
    have HX := Lib.hid hx
    have HLEN : Hid (pre.length < 4) := Lib.hid hlen
    have HNIL := Lib.hid hnil
    clear hr hl hX hrow hall hlen hnil
    by_cases h0 : x.2 = 0
    · have q : (x.2 != 0) = false := by rw [h0]; rfl
      have H0 := Lib.hid h0
      obtain ⟨base, b1, b2, b3, b4⟩ : ∃ base, w.heap.size ≤ base ∧ base ≤ W.heap.size ∧ (pre = [] → base = W.heap.size) ∧ W.ownsRow base 24 3 v pre.length (cellsP pre) := by
        by_cases hp : pre = []
        · have hv0 := HNIL.out.2 hp
          subst hp hv0
          exact ⟨W.heap.size, hB.size, Nat.le_refl _, fun _ => rfl, World.ownsRow_nil _ _ _ _⟩
        · exact ⟨w.heap.size, Nat.le_refl _, hB.size, fun h => absurd h hp, HROW.out⟩
      have B1' := Lib.hid b1
      have B2' := Lib.hid b2
      have B3' := Lib.hid b3
      have B4' := Lib.hid b4
      have hvc := hv.cell
      have hvf := hv.frozen
      have xc0 := hx.c0
      have xc1 := hx.c1
      have xc2 := hx.c2
      obtain ⟨i0, hi0, hz0, hz1, hz2⟩ := info_parts ratInfo5
      have HI0 := Lib.hid hi0
      have HZ0 := Lib.hid hz0
      have HZ1 := Lib.hid hz1
      have HZ2 := Lib.hid hz2
      clear b1 b2 b3 b4 h0 hz he hB hx hv hi0 hz0 hz1 hz2
      gi_wp2_with (gi_at_builtin; refine wpListIn_append_own _ rfl _ _ 38 rfl base 24 i0 (.agg #[.bool false, .string ⟨#[]⟩, .string ⟨#[]⟩]) 3 40 Tryd.underlying38 HI0.out HZ0.out HZ1.out HZ2.out rfl (by decide) v pre.length (cellsP pre) rfl (B4'.out.alloc _) ⟨W.heap.size, 0, none⟩ 1 1 [.bool x.1.neg, .string x.1.num, .string x.1.den] rfl rfl (cells3_new _ _ _ _ _) (by simp [Value.oneCell']) (by have := HLEN.out; unfold maxLen; omega) (by have := HLEN.out; omega) (by have := B2'.out; rw [World.size_alloc]; omega) ?_; intro v' w1 hown' hgrow _; obtain ⟨g', cap', rfl⟩ := ownsRow_succ hown'; obtain ⟨k1, k2, k3, k4, k5, k6, k7⟩ := appended2 HV.out B4'.out B1'.out B2'.out B3'.out HLE.out hown' hgrow; have hc1 := k1.cell; have hf1 := k1.frozen; have K2 := Lib.hid k2; have K3 := Lib.hid k3; have K4 := Lib.hid k4; have K5 := Lib.hid k5; have K6 := Lib.hid k6; have K7 := Lib.hid k7; clear k1 k2 k3 k4 k5 k6 k7 hown' hgrow)
      refine ⟨K4.out.from _, K6.out, ⟨_, K2.out, by rw [cellsP_snoc, List.length_append]; exact K3.out, by simp⟩, ?_, ⟨(K7.out _ _ _ HZ.out.cells (by decide) (by have := HFN.out.1; omega)).trans HZ.out.cells⟩, ⟨(K7.out _ _ _ HE.out.cells (by decide) (by have := HFN.out.2.1; omega)).trans HE.out.cells⟩, HBB.out.trans K5.out⟩
      intro y hy
      rcases List.mem_append.1 hy with h | h
      · exact HALL.out y h
      · simp only [List.mem_singleton] at h; subst h; exact H0.out
    · have q : (x.2 != 0) = true := by simpa using h0
      have H0 := Lib.hid h0
      have zc0 := hz.c0
      have zc1 := hz.c1
      have zc2 := hz.c2
      have zc3 := hz.c3
      have zc4 := hz.c4
      have zc5 := hz.c5
      have zf0 := hz.fz 0
      have zf1 := hz.fz 1
      have zf2 := hz.fz 2
      have zf3 := hz.fz 3
      have zf4 := hz.fz 4
      have zf5 := hz.fz 5
      have ec0 := he.c0
      have ef0 := he.fz 0
      have hne : B1 + 1 + 1 ≠ B1 + 1 + 1 + 1 := by omega
      clear h0 hz he hB hx hv
      gi_wp2_with fail
      exact ⟨(((((((KeepsOthers.setCell W _ _).trans (KeepsOthers.setCell _ _ _)).trans (KeepsOthers.setCell _ _ _)).trans (KeepsOthers.setCell _ _ _)).trans (KeepsOthers.setCell _ _ _)).trans (KeepsOthers.setCell _ _ _)).trans (KeepsOthers.setCell _ _ _)).from _, rfl, x, by simp, H0.out, (HZ.out.set noI).setOther (by omega) _, (HE.out.bes ((((((Bes.set W (B1 + 1 + 1) 0 (.bool false)).trans (Bes.set _ (B1 + 1 + 1) 1 (.string ⟨#[]⟩))).trans (Bes.set _ (B1 + 1 + 1) 2 (.string ⟨#[]⟩))).trans (Bes.set _ (B1 + 1 + 1) 3 (.bool false))).trans (Bes.set _ (B1 + 1 + 1) 4 (.string ⟨#[]⟩))).trans (Bes.set _ (B1 + 1 + 1) 5 (.string ⟨#[]⟩))) (by omega)).set x.2, (((((((HBB.out.setCell (p := ⟨B1 + 1 + 1, 0, none⟩) HLZ.out _).setCell (p := ⟨B1 + 1 + 1, 1, none⟩) HLZ.out _).setCell (p := ⟨B1 + 1 + 1, 2, none⟩) HLZ.out _).setCell (p := ⟨B1 + 1 + 1, 3, none⟩) HLZ.out _).setCell (p := ⟨B1 + 1 + 1, 4, none⟩) HLZ.out _).setCell (p := ⟨B1 + 1 + 1, 5, none⟩) HLZ.out _).setCell (p := ⟨B1 + 1 + 1 + 1, 0, none⟩) (by have := HLZ.out; show w.heap.size ≤ B1 + 1 + 1 + 1; omega) _)⟩
  case done =>
    rintro D ys W hD rfl ⟨⟨v, hv, hrow, hnil⟩, hall, hz, he, hB⟩ hK
    obtain ⟨g0, cap, hv0, hc1, hc2, hrw⟩ := row_of hrow (by simp [prods])
    obtain ⟨L, hL⟩ : ∃ L, L = (prods a b).map Prod.fst := ⟨_, rfl⟩
    rw [← hL] at hv0 hc1 hrw
    subst hv0
    have hL0 : 0 < L.length := by rw [hL]; simp [prods]
    obtain ⟨s1, hs1⟩ : ∃ s, s = sel noRaw lessR L := ⟨_, rfl⟩
    obtain ⟨s2, hs2⟩ : ∃ s, s = sel noRaw moreR L := ⟨_, rfl⟩
    have HC1 : Hid (∀ w', RowR w' g0 L → Calls Tryd.prog 24 #[Value.slice (some ⟨g0, 0, none⟩) L.length cap, .func (.func 22) #[] #[]] w' (GivesN s1 w')) := Lib.hid (fun w' h => by rw [hs1]; exact pfirstR_any _ lessR g0 cap L w' callLess hL0 hc1 hc2 h)
    have HC2 : Hid (∀ w', RowR w' g0 L → Calls Tryd.prog 24 #[Value.slice (some ⟨g0, 0, none⟩) L.length cap, .func (.func 25) #[] #[]] w' (GivesN s2 w')) := Lib.hid (fun w' h => by rw [hs2]; exact pfirstR_any _ moreR g0 cap L w' callMore hL0 hc1 hc2 h)
    have HTT : Hid (t = (⟨s1, s2⟩, 0)) := Lib.hid (by rw [HT.out, hs1, hs2, hL]; exact mulI_prods HOK.out hall)
    have HRW := Lib.hid hrw
    have HVB : Hid (BoxF B2 (Value.slice (some ⟨g0, 0, none⟩) L.length cap) W) := Lib.hid ⟨hv⟩
    have HZ := Lib.hid hz
    have HE := Lib.hid he
    have HBB := Lib.hid hB
    have HK5 := Lib.hid hK
    have HDD := Lib.hid hD
    have HDR : Hid (Below W.heap.size W W.drew) := Lib.hid ((Below.refl _ _).drew)
    have HLE2 : Hid (w.heap.size ≤ B1 + 1 + 1 + 1) := Lib.hid (by have := HLZ.out; omega)
    have hvc := hv.cell
    have n1 : B2 ≠ B1 + 1 + 1 := by have := HFN.out.1; omega
    have n2 : B2 ≠ B1 + 1 + 1 + 1 := by have := HFN.out.2.1; omega
    have hne : B1 + 1 + 1 ≠ B1 + 1 + 1 + 1 := by omega
    have HN1 := Lib.hid n1
    have HN2 := Lib.hid n2
    clear hrow hnil hall hz he hB hK hD hc1 hc2 hrw hs1 hs2 hL hL0 hv n1 n2
    go_wp2_with fail
    go_region_held3 (fun w' => Below w.heap.size w w' ∧ w'.cell? ⟨B2, 0, none⟩ = some (Value.slice (some ⟨g0, 0, none⟩) L.length cap)) (first | (with_reducible assumption) | with_reducible exact HK1.out | with_reducible exact HK2.out | with_reducible exact ⟨HBB.out.trans (HDR.out.mono HBB.out.size), (HVB.out.bel HDR.out).c0⟩ | with_reducible exact keep6 HK1.out HLZ.out HN1.out _ _ _ _ _ _ | with_reducible exact keep6 HK2.out HLZ.out HN1.out _ _ _ _ _ _ | with_reducible exact keep1 (keep6 HK1.out HLZ.out HN1.out _ _ _ _ _ _) HLE2.out HN2.out _ | with_reducible exact keep1 (keep6 HK2.out HLZ.out HN1.out _ _ _ _ _ _) HLE2.out HN2.out _) (first | (go_at_call 24; ((with_reducible refine (HC1.out _ ?hr).mono ?_); (case hr => first | with_reducible exact HRW.out.bel HDR.out | with_reducible exact HRW.out.bel HY2.out)); rintro e y1 ⟨rfl, hy1⟩; have HY1 : Hid (Below W.heap.size W y1) := (by first | with_reducible exact Lib.hid (HDR.out.trans (hy1.mono HDR.out.size)) | with_reducible exact Lib.hid (HY2.out.trans (hy1.mono HY2.out.size))); clear hy1; have HK1 := Lib.hid (And.intro (HBB.out.trans (HY1.out.mono HBB.out.size)) ((HVB.out.bel HY1.out).c0)); have HZ1 := Lib.hid (HZ.out.bel HY1.out); have HE1 := Lib.hid (HE.out.bel HY1.out); have zc0 := HZ1.out.c0; have zf0 := HZ1.out.fz 0; have zc1 := HZ1.out.c1; have zf1 := HZ1.out.fz 1; have zc2 := HZ1.out.c2; have zf2 := HZ1.out.fz 2; have zc3 := HZ1.out.c3; have zf3 := HZ1.out.fz 3; have zc4 := HZ1.out.c4; have zf4 := HZ1.out.fz 4; have zc5 := HZ1.out.c5; have zf5 := HZ1.out.fz 5; have ec0 := HE1.out.c0; have ef0 := HE1.out.fz 0) | (go_at_call 24; ((with_reducible refine (HC2.out _ ?hr).mono ?_); (case hr => first | with_reducible exact HRW.out.bel HDR.out | with_reducible exact HRW.out.bel HY1.out)); rintro e y2 ⟨rfl, hy2⟩; have HY2 : Hid (Below W.heap.size W y2) := (by first | with_reducible exact Lib.hid (HDR.out.trans (hy2.mono HDR.out.size)) | with_reducible exact Lib.hid (HY1.out.trans (hy2.mono HY1.out.size))); clear hy2; have HK2 := Lib.hid (And.intro (HBB.out.trans (HY2.out.mono HBB.out.size)) ((HVB.out.bel HY2.out).c0)); have HZ2 := Lib.hid (HZ.out.bel HY2.out); have HE2 := Lib.hid (HE.out.bel HY2.out); have zc0 := HZ2.out.c0; have zf0 := HZ2.out.fz 0; have zc1 := HZ2.out.c1; have zf1 := HZ2.out.fz 1; have zc2 := HZ2.out.c2; have zf2 := HZ2.out.fz 2; have zc3 := HZ2.out.c3; have zf3 := HZ2.out.fz 3; have zc4 := HZ2.out.c4; have zf4 := HZ2.out.fz 4; have zc5 := HZ2.out.c5; have zf5 := HZ2.out.fz 5; have ec0 := HE2.out.c0; have ef0 := HE2.out.fz 0) | fail "no arm")
    go_wp2_with fail
    obtain ⟨r1, r2, r3, r4⟩ := mul_end (s1 := s1) (s2 := s2) HZ2.out HE2.out ((fun {y : World} (h : Below W.heap.size W y) => (h.block D (Array.getElem?_eq_some_iff.1 HK5.out).1).trans HK5.out) HY2.out) HK2.out.1 HLZ.out HLE2.out (by omega) rfl
    refine ⟨by simp, .inl ⟨_, _, rfl, run_takeDeferred r3, ?_⟩⟩
    refine ⟨_, results_iv2 rfl _ _ (B1 + 1 + 1) (B1 + 1 + 1 + 1) ⟨s1, s2⟩ 0 rfl rfl ⟨put_kept r1.cells r3⟩ ⟨put_kept r2.cells r3⟩, ?_⟩
    rw [HTT.out]
    exact ⟨rfl, r4.trans (belowK_b (w := w) (Nat.le_refl _) _ D _ _ (by have := HLES.out; have := HDD.out; omega) r3 rfl rfl)⟩
  case stop =>
    rintro D c pre W hD hSp ⟨rfl, x, hx, hx0, hz, he, hB⟩ hK
    gi_wp2
    refine ⟨by simp, .inl ⟨_, _, rfl, run_takeDeferred hK, ?_⟩⟩
    obtain ⟨e1, e2⟩ := mulI_bad HOK.out (hSp.subset hx) hx0
    refine ⟨_, results_iv2 rfl _ _ (B1 + 1 + 1) (B1 + 1 + 1 + 1) noI x.2 rfl rfl ⟨put_kept hz.cells hK⟩ ⟨put_kept he.cells hK⟩, ?_⟩
    rw [HT.out, e1, e2]
    exact ⟨rfl, hB.trans (belowK_b (w := w) (Nat.le_refl _) W D _ _ (by have := HLES.out; omega) hK rfl rfl)⟩
theorem pimul_any (a b : Iv) (w : World) : Calls Tryd.prog 12 #[.agg #[.bool a.low.neg, .string a.low.num, .string a.low.den, .bool a.high.neg, .string a.high.num, .string a.high.den], .agg #[.bool b.low.neg, .string b.low.num, .string b.low.den, .bool b.high.neg, .string b.high.num, .string b.high.den]] w (GivesI (mulI a b) w) := by
  by_cases ha : okI a = true
  · by_cases hb : okI b = true
    · exact pimul_ok a b w ha hb
    · have hb := Bool.eq_false_iff.2 hb
      have e : mulI a b = (noI, 1) := by unfold mulI; rw [ha, hb]; rfl
      rw [e]; exact pimul_badb a b w ha hb
  · have ha := Bool.eq_false_iff.2 ha
    have e : mulI a b = (noI, 1) := by unfold mulI; rw [ha]; rfl
    rw [e]; exact pimul_bada a b w ha
end Go.Proofs.YtbcoblpnihdhgaaDoor
