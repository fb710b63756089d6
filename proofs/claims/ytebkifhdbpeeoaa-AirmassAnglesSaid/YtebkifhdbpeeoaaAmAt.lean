/-
  Lists of spans in memory; the answers of layer 11's functions.
-/
import Derived.Test.YtebkifhdbpeeoaaAmPure
import Derived.Test.YtebkifhdbpeeoaaCaAns
import Derived.Test.YtebkifhdbpeeoaaCaPA
import Derived.Lib.Builder
import Derived.Maps.AppendAt
import Derived.Laws.OwnMore
import Derived.RangeFuncBox
set_option linter.unusedVariables false
set_option maxRecDepth 100000
namespace Go.Proofs.Ytebkifhdbpeeoaa.Am
open Go.RowKit
open Ca (sid sid_lt)
def okC (c : Int) : Bool := decide (0 ≤ c ∧ c ≤ 31)
def okS (s : Int) : Bool := decide (0 ≤ s ∧ s ≤ 15)
def okT (t : Int) : Bool := decide (0 ≤ t ∧ t < 512)
def okN (n : Int) : Bool := decide (0 ≤ n ∧ n ≤ 399)
theorem okC_nat {k : Nat} (h : k < 32) : okC (k : Int) = true := by simp only [okC, decide_eq_true_eq]; omega
theorem okS_nat {k : Nat} (h : k < 16) : okS (k : Int) = true := by simp only [okS, decide_eq_true_eq]; omega
theorem okT_nat {k : Nat} (h : k < 512) : okT (k : Int) = true := by simp only [okT, decide_eq_true_eq]; omega
theorem okN_nat {k : Nat} (h : k < 400) : okN (k : Int) = true := by simp only [okN, decide_eq_true_eq]; omega
theorem okC_yes {c : Int} (h : okC c = true) : ∃ k : Nat, c = (k : Int) ∧ k < 32 := by
  simp only [okC, decide_eq_true_eq] at h; exact ⟨c.toNat, by omega, by omega⟩
theorem okS_yes {c : Int} (h : okS c = true) : ∃ k : Nat, c = (k : Int) ∧ k < 16 := by
  simp only [okS, decide_eq_true_eq] at h; exact ⟨c.toNat, by omega, by omega⟩
theorem okT_yes {c : Int} (h : okT c = true) : ∃ k : Nat, c = (k : Int) ∧ k < 512 := by
  simp only [okT, decide_eq_true_eq] at h; exact ⟨c.toNat, by omega, by omega⟩
theorem okN_yes {c : Int} (h : okN c = true) : ∃ k : Nat, c = (k : Int) ∧ k < 400 := by
  simp only [okN, decide_eq_true_eq] at h; exact ⟨c.toNat, by omega, by omega⟩
def horA (c m : Int) : Int × Nat := if okC c && isM m then (hr (sid m.toNat) c.toNat, 0) else (0, 1)
def heiA (s t m : Int) : Int × Nat := if okS s && okT t && isM m then (ht t.toNat s.toNat m.toNat, 0) else (0, 1)
def airA (h : Int) : Int × Nat := if 900 < h then (0, 1) else if h < 100 then (0, 19) else (900000 / h, 0)
/-- is a tile high enough at a slot? -/
def hi (s t n : Nat) (least : Int) (k : Nat) : Bool := decide (least ≤ ht t s (96 * n + k))
def intsS (l : List (Nat × Nat)) : List (Int × Int) := l.map fun w : Nat × Nat => ((w.1 : Int), (w.2 : Int))
theorem intsS_len (l : List (Nat × Nat)) : (intsS l).length = l.length := by simp [intsS]
theorem intsS_get {l : List (Nat × Nat)} {j : Nat} (h : j < (intsS l).length) : (intsS l)[j] = (((l[j]'(by rwa [intsS_len] at h)).1 : Int), ((l[j]'(by rwa [intsS_len] at h)).2 : Int)) := by simp [intsS]
def winA (s t n least : Int) : List (Int × Int) × Nat := if okS s && okT t && okN n then (intsS (win (hi s.toNat t.toNat n.toNat least) 96), 0) else ([], 1)
theorem horA_ok {c m : Nat} (hc : c < 32) (hm : m < 38400) : horA (c : Int) (m : Int) = (hr (sid m) c, 0) := by
  unfold horA; rw [okC_nat hc, isM_nat hm]; simp
theorem heiA_ok {s t m : Nat} (hs : s < 16) (ht' : t < 512) (hm : m < 38400) : heiA (s : Int) (t : Int) (m : Int) = (ht t s m, 0) := by
  unfold heiA; rw [okS_nat hs, okT_nat ht', isM_nat hm]; simp
theorem winA_ok {s t n : Nat} (least : Int) (hs : s < 16) (ht' : t < 512) (hn : n < 400) : winA (s : Int) (t : Int) (n : Int) least = (intsS (win (hi s t n least) 96), 0) := by
  unfold winA; rw [okS_nat hs, okT_nat ht', okN_nat hn]; simp
theorem winA_len (s t n least : Int) : (winA s t n least).1.length ≤ 96 := by
  unfold winA
  split
  · rw [intsS_len]; exact win_len _ _
  · simp
/-- a row of spans in memory -/
structure SpnAt (w : World) (a : Option Addr) (n : Nat) (l : List (Int × Int)) : Prop where
  len : n = l.length
  cells : 0 < n → ∃ b off, a = some ⟨b, off, none⟩ ∧ ∀ j (hj : j < l.length), w.cell? ⟨b, off + j * 2, none⟩ = some (.int .i64 l[j].1) ∧ w.cell? ⟨b, off + j * 2 + 1, none⟩ = some (.int .i64 l[j].2)
theorem cell_lt {w : World} {b o : Nat} {v : Value} (h : w.cell? ⟨b, o, none⟩ = some v) : b < w.heap.size := by
  rcases Nat.lt_or_ge b w.heap.size with h' | h'
  · exact h'
  · simp [World.cell?, Array.getElem?_eq_none h'] at h
theorem SpnAt.bel {w w' : World} {a : Option Addr} {n : Nat} {l : List (Int × Int)} (h : SpnAt w a n l) (hb : Below w.heap.size w w') : SpnAt w' a n l :=
  ⟨h.len, fun h0 => by
    obtain ⟨b, off, e, hc⟩ := h.cells h0
    exact ⟨b, off, e, fun j hj => ⟨(hb.cell (p := ⟨b, off + j * 2, none⟩) (cell_lt (hc j hj).1)).trans (hc j hj).1, (hb.cell (p := ⟨b, off + j * 2 + 1, none⟩) (cell_lt (hc j hj).2)).trans (hc j hj).2⟩⟩⟩
theorem spn_nil (w : World) : SpnAt w none 0 [] := ⟨rfl, fun h => absurd h (by decide)⟩
theorem SpnAt.at0 {w : World} {a : Option Addr} {n k : Nat} {l : List (Int × Int)} (h : SpnAt w a n l) (hk : k < l.length) : ∃ b off, a = some ⟨b, off, none⟩ := by
  obtain ⟨b, off, e, _⟩ := h.cells (by have := h.len; omega)
  exact ⟨b, off, e⟩
theorem SpnAt.cell {w : World} {b off n : Nat} {l : List (Int × Int)} (h : SpnAt w (some ⟨b, off, none⟩) n l) {j : Nat} (hj : j < l.length) : w.cell? ⟨b, off + j * 2, none⟩ = some (.int .i64 l[j].1) ∧ w.cell? ⟨b, off + j * 2 + 1, none⟩ = some (.int .i64 l[j].2) := by
  obtain ⟨b', off', e, hc⟩ := h.cells (by have := h.len; omega)
  cases e
  exact hc j hj
/-- a list of spans, of whatever place -/
structure ListS (w : World) (v : Value) (l : List (Int × Int)) : Prop where
  out : ∃ a cap, v = .slice a l.length cap ∧ l.length ≤ cap ∧ SpnAt w a l.length l
theorem ListS.bel {w w' : World} {v : Value} {l : List (Int × Int)} (h : ListS w v l) (hb : Below w.heap.size w w') : ListS w' v l := by
  obtain ⟨a, cap, e, h1, h2⟩ := h.out
  exact ⟨⟨a, cap, e, h1, h2.bel hb⟩⟩
theorem list_nil (w : World) : ListS w (.slice none 0 0) [] := ⟨⟨none, 0, rfl, Nat.le_refl _, spn_nil w⟩⟩
def cellsS (l : List (Int × Int)) : List Value := l.flatMap fun q => [Value.int .i64 q.1, Value.int .i64 q.2]
theorem cellsS_len : ∀ l : List (Int × Int), (cellsS l).length = l.length * 2
  | [] => rfl
  | q :: l => by
    have ih := cellsS_len l
    unfold cellsS at ih ⊢
    rw [List.flatMap_cons, List.length_append, ih, List.length_cons, List.length_cons, List.length_cons, List.length_nil]; omega
theorem cellsS_app (l m : List (Int × Int)) : cellsS (l ++ m) = cellsS l ++ cellsS m := by simp [cellsS]
theorem cellsS_get : ∀ (l : List (Int × Int)) (j : Nat) (hj : j < l.length), (cellsS l)[j * 2]? = some (.int .i64 l[j].1) ∧ (cellsS l)[j * 2 + 1]? = some (.int .i64 l[j].2)
  | q :: l, 0, _ => ⟨rfl, rfl⟩
  | q :: l, j + 1, hj => by
    have ih := cellsS_get l j (by simpa using hj)
    have e : cellsS (q :: l) = [Value.int .i64 q.1, Value.int .i64 q.2] ++ cellsS l := rfl
    rw [e, show (j + 1) * 2 = j * 2 + 2 by omega]
    refine ⟨?_, ?_⟩
    · rw [List.getElem?_append_right (by simp)]; simpa using ih.1
    · rw [List.getElem?_append_right (by simp)]; simpa using ih.2
/-- a growing row of spans of the call's own -/
def OwnS (B : Nat) (w : World) (v : Value) (l : List (Int × Int)) : Prop := w.ownsRow B 39 2 v l.length (cellsS l)
theorem OwnS.nil (B : Nat) (w : World) : OwnS B w (.slice none 0 0) [] := World.ownsRow_nil _ _ _ _
theorem OwnS.below {B : Nat} {w w' : World} {v : Value} {D : List (Int × Int)} (h : OwnS B w v D) (hb : Below w.heap.size w w') : OwnS B w' v D := by
  by_cases e : v.ownBlock = none
  · exact World.ownsRow.kept (row := none) h ⟨hb.os, hb.tape, hb.output, hb.size, fun k hk _ => hb.block k hk⟩ (.inl e)
  · exact World.ownsRow.kept (row := none) h ⟨hb.os, hb.tape, hb.output, hb.size, fun k hk _ => hb.block k hk⟩ (.inr e)
theorem OwnS.at {B : Nat} {w : World} {v : Value} {l : List (Int × Int)} (h : OwnS B w v l) : ∃ a cap, v = .slice a l.length cap ∧ l.length ≤ cap ∧ cap ≤ maxLen ∧ SpnAt w a l.length l := by
  have hl : w.ownsRow B 39 2 v l.length (cellsS l) := h
  rcases h.2 with ⟨rfl, h0⟩ | ⟨g, cap, cur, rfl, h1, h2, h3, h4, h5, h6⟩
  · obtain rfl : l = [] := List.eq_nil_of_length_eq_zero h0
    exact ⟨none, 0, rfl, by simp, by unfold maxLen; omega, spn_nil w⟩
  · refine ⟨_, cap, rfl, h3, h4, rfl, fun _ => ⟨g, 0, rfl, fun j hj => ?_⟩⟩
    have := cellsS_get l j hj
    rw [Nat.zero_add, World.ownsRow.cellAt hl (j * 2) (by omega), World.ownsRow.cellAt hl (j * 2 + 1) (by omega)]
    exact this
theorem OwnS.list {B : Nat} {w : World} {v : Value} {l : List (Int × Int)} (h : OwnS B w v l) : ListS w v l := by
  obtain ⟨a, cap, e, h1, _, h2⟩ := h.at
  exact ⟨⟨a, cap, e, h1, h2⟩⟩
theorem infoS : (Try.prog.info? 39).map (fun i => (i.zero, i.size, i.bytes)) = some (some (.agg #[.int .i64 0, .int .i64 0]), 2, 16) := by kernel_rfl
theorem wpList_snocS (w : World) {ops : Array Oper} {rest : List Oper} {o : Oper} {a : Act} {Q : Exit → Act → World → Prop} (hgd : o.guard = none) (s x : Operand)
    (ho : o.op = .call { callee := .builtin .append, args := #[s, x], argTypes := #[28, 28] })
    (B : Nat) (u : Value) (D : List (Int × Int)) (d e : Int) (hs : a.eval s = u) (hx : a.eval x = .slice (some ⟨w.heap.size, 0, none⟩) 1 1) (h1 : OwnS B w u D) (hn : D.length + 1 ≤ 1099511627) (hB : B ≤ w.heap.size)
    (h : ∀ v' w', OwnS B w' v' (D ++ [(d, e)]) → (w.alloc (.cells #[.int .i64 d, .int .i64 e] 39)).grownBy w' u.ownBlock → wpList Try.prog ops Q rest (a.put o.dst v') w') : wpList Try.prog ops Q (o :: rest) a (w.alloc (.cells #[.int .i64 d, .int .i64 e] 39)) := by
  obtain ⟨i0, hi, hz0, hz1, hz2⟩ := info_parts infoS
  refine wpList_append_own _ hgd s x 28 ho B 39 i0 (.agg #[.int .i64 0, .int .i64 0]) 2 16 Try.underlying28 hi hz0 hz1 hz2 rfl (by decide) u D.length (cellsS D) hs (World.ownsRow.alloc h1 _) ⟨w.heap.size, 0, none⟩ 1 1 [.int .i64 d, .int .i64 e] hx rfl ?_ ?_ (by unfold maxLen; omega) (by omega) (by simp; omega) ?_
  · intro j z hj
    match j, hj with
    | 0, hj => simp at hj; subst hj; simp [Addr.add]
    | 1, hj => simp at hj; subst hj; simp [Addr.add]
  · intro z hz; simp at hz; rcases hz with rfl | rfl <;> rfl
  · intro v' w' h2 h3 _
    refine h v' w' ?_ h3
    unfold OwnS
    rw [List.length_append, cellsS_app]
    exact h2
theorem below_snocS {w wr w' : World} {u : Value} {D : List (Int × Int)} {o : Obj} (h : Below w.heap.size w wr) (hu : OwnS w.heap.size wr u D) (hg : (wr.alloc o).grownBy w' u.ownBlock) : Below w.heap.size w w' :=
  (h.alloc h.size o).grown hg (Nat.le_trans h.size (by simp)) (fun q hq => (World.ownsRow.lt (w := wr) (base := w.heap.size) hu q hq).1)
/-- a list and an error -/
def GivesS2 (l : List (Int × Int)) (e : Nat) (w : World) (en : Ending) (w' : World) : Prop := ∃ v, en = .returned (.tuple #[v, .int .i64 (e : Int)]) ∧ ListS w' v l ∧ Below w.heap.size w w'
end Go.Proofs.Ytebkifhdbpeeoaa.Am
