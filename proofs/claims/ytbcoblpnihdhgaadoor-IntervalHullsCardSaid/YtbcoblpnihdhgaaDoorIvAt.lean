/-
  Intervals in memory.
-/
import Derived.Test.YtbcoblpnihdhgaaDoorRmF
import Derived.Test.YtbcoblpnihdhgaaDoorIvPure
set_option linter.unusedVariables false
set_option maxRecDepth 100000
namespace Go.Proofs.YtbcoblpnihdhgaaDoor
open Go.RowKit
open Rt
/-- an interval lies in a block -/
structure IvAt (B : Nat) (i : Iv) (w : World) : Prop where
  cells : w.heap[B]? = some (.cells #[.bool i.low.neg, .string i.low.num, .string i.low.den, .bool i.high.neg, .string i.high.num, .string i.high.den] 26 (0, 0))
theorem IvAt.bel {B : Nat} {i : Iv} {w w' : World} (h : IvAt B i w) (hb : Below w.heap.size w w') : IvAt B i w' := ⟨(hb.block _ (blk_lt h.cells)).trans h.cells⟩
theorem IvAt.bes {B C : Nat} {i : Iv} {w w' : World} (h : IvAt B i w) (hb : Bes C w w') (hne : B ≠ C) : IvAt B i w' := ⟨(hb.block _ (blk_lt h.cells) hne).trans h.cells⟩
theorem IvAt.c0 {B : Nat} {i : Iv} {w : World} (h : IvAt B i w) : w.cell? ⟨B, 0, none⟩ = some (.bool i.low.neg) := by rw [Lib.cell_of_heap h.cells]; rfl
theorem IvAt.c1 {B : Nat} {i : Iv} {w : World} (h : IvAt B i w) : w.cell? ⟨B, 1, none⟩ = some (.string i.low.num) := by rw [Lib.cell_of_heap h.cells]; rfl
theorem IvAt.c2 {B : Nat} {i : Iv} {w : World} (h : IvAt B i w) : w.cell? ⟨B, 2, none⟩ = some (.string i.low.den) := by rw [Lib.cell_of_heap h.cells]; rfl
theorem IvAt.c3 {B : Nat} {i : Iv} {w : World} (h : IvAt B i w) : w.cell? ⟨B, 3, none⟩ = some (.bool i.high.neg) := by rw [Lib.cell_of_heap h.cells]; rfl
theorem IvAt.c4 {B : Nat} {i : Iv} {w : World} (h : IvAt B i w) : w.cell? ⟨B, 4, none⟩ = some (.string i.high.num) := by rw [Lib.cell_of_heap h.cells]; rfl
theorem IvAt.c5 {B : Nat} {i : Iv} {w : World} (h : IvAt B i w) : w.cell? ⟨B, 5, none⟩ = some (.string i.high.den) := by rw [Lib.cell_of_heap h.cells]; rfl
theorem IvAt.fz {B : Nat} {i : Iv} {w : World} (h : IvAt B i w) (k : Nat) : w.frozen? ⟨B, k, none⟩ = false := Lib.frozen_of_heap h.cells k
theorem IvAt.setOther {B C k : Nat} {i : Iv} {w : World} (h : IvAt B i w) (hne : B ≠ C) (u : Value) : IvAt B i (w.setCell ⟨C, k, none⟩ u) := h.bes (Bes.set w C k u) hne
theorem IvAt.setLow {B : Nat} {i : Iv} {w : World} (h : IvAt B i w) (s : Raw) : IvAt B ⟨s, i.high⟩ (((w.setCell ⟨B, 0, none⟩ (.bool s.neg)).setCell ⟨B, 1, none⟩ (.string s.num)).setCell ⟨B, 2, none⟩ (.string s.den)) := by
  have h1 := heap_setCell_same w B 0 _ _ (.bool s.neg) h.cells
  have h2 := heap_setCell_same _ B 1 _ _ (.string s.num) h1
  have h3 := heap_setCell_same _ B 2 _ _ (.string s.den) h2
  exact ⟨h3⟩
theorem IvAt.setHigh {B : Nat} {i : Iv} {w : World} (h : IvAt B i w) (s : Raw) : IvAt B ⟨i.low, s⟩ (((w.setCell ⟨B, 3, none⟩ (.bool s.neg)).setCell ⟨B, 4, none⟩ (.string s.num)).setCell ⟨B, 5, none⟩ (.string s.den)) := by
  have h1 := heap_setCell_same w B 3 _ _ (.bool s.neg) h.cells
  have h2 := heap_setCell_same _ B 4 _ _ (.string s.num) h1
  have h3 := heap_setCell_same _ B 5 _ _ (.string s.den) h2
  exact ⟨h3⟩
theorem IvAt.set {B : Nat} {i : Iv} {w : World} (h : IvAt B i w) (s : Iv) : IvAt B s ((((((((((((w).setCell ⟨B, 0, none⟩ (.bool s.low.neg))).setCell ⟨B, 1, none⟩ (.string s.low.num))).setCell ⟨B, 2, none⟩ (.string s.low.den))).setCell ⟨B, 3, none⟩ (.bool s.high.neg))).setCell ⟨B, 4, none⟩ (.string s.high.num))).setCell ⟨B, 5, none⟩ (.string s.high.den)) := (h.setLow s.low).setHigh s.high
theorem results_iv {fn : Func} {p q : Tmp} (h : fn.results = #[.cell p 26, .tmp q]) (tmps : Array Value) (w : World) (g : Nat) (r : Iv) (v : Value)
    (hp : tmps.getD p undef = .pointer (some ⟨g, 0, none⟩)) (hq : tmps.getD q undef = v) (hg : IvAt g r w) :
    (results fn tmps).run Tryd.prog w = .ok (.tuple #[.agg #[.bool r.low.neg, .string r.low.num, .string r.low.den, .bool r.high.neg, .string r.high.num, .string r.high.den], v]) w := by
  have hp' : tmps[p]?.getD undef = .pointer (some ⟨g, 0, none⟩) := by simpa using hp
  have hq' : tmps[q]?.getD undef = v := by simpa using hq
  simp [results, h, hp', hq', asAddr, run_loadVar_row w g 26 26 _ (0, 0) _ hg.cells Tryd.underlying26 rfl (by kernel_rfl)]
theorem results_iv1 {fn : Func} {p : Tmp} (h : fn.results = #[.cell p 26]) (tmps : Array Value) (w : World) (g : Nat) (r : Iv)
    (hp : tmps.getD p undef = .pointer (some ⟨g, 0, none⟩)) (hg : IvAt g r w) :
    (results fn tmps).run Tryd.prog w = .ok (.agg #[.bool r.low.neg, .string r.low.num, .string r.low.den, .bool r.high.neg, .string r.high.num, .string r.high.den]) w := by
  have hp' : tmps[p]?.getD undef = .pointer (some ⟨g, 0, none⟩) := by simpa using hp
  simp [results, h, hp', asAddr, run_loadVar_row w g 26 26 _ (0, 0) _ hg.cells Tryd.underlying26 rfl (by kernel_rfl)]
/-- the call answers with an interval and an error -/
def GivesI (r : Iv × Int) (w : World) (e : Ending) (w' : World) : Prop := e = .returned (.tuple #[.agg #[.bool r.1.low.neg, .string r.1.low.num, .string r.1.low.den, .bool r.1.high.neg, .string r.1.high.num, .string r.1.high.den], .int .i64 r.2]) ∧ Below w.heap.size w w'
/-- the call answers with an interval and whether there is one -/
def GivesM (r : Iv × Bool) (w : World) (e : Ending) (w' : World) : Prop := e = .returned (.tuple #[.agg #[.bool r.1.low.neg, .string r.1.low.num, .string r.1.low.den, .bool r.1.high.neg, .string r.1.high.num, .string r.1.high.den], .bool r.2]) ∧ Below w.heap.size w w'
/-- the call answers with an interval -/
def GivesV (r : Iv) (w : World) (e : Ending) (w' : World) : Prop := e = .returned (.agg #[.bool r.low.neg, .string r.low.num, .string r.low.den, .bool r.high.neg, .string r.high.num, .string r.high.den]) ∧ Below w.heap.size w w'
/-- two intervals are equal -/
def sameI (a b : Iv) : Bool := decide (a.low.neg = b.low.neg ∧ a.low.num = b.low.num ∧ a.low.den = b.low.den ∧ a.high.neg = b.high.neg ∧ a.high.num = b.high.num ∧ a.high.den = b.high.den)
theorem sameI_iff {a b : Iv} : sameI a b = true ↔ a = b := by
  obtain ⟨⟨_, _, _⟩, ⟨_, _, _⟩⟩ := a; obtain ⟨⟨_, _, _⟩, ⟨_, _, _⟩⟩ := b; simp [sameI, and_assoc]
end Go.Proofs.YtbcoblpnihdhgaaDoor
