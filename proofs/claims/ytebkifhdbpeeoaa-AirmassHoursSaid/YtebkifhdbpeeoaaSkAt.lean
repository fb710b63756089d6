/-
  Lists of tiles in memory; the answers of layer 10's functions.
-/
import Derived.Test.YtebkifhdbpeeoaaSkPure
import Derived.Test.YtebkifhdbpeeoaaProg
import Derived.WalkKit
import Derived.Below
import Derived.Lib.Walk
import Derived.Lib.Hide
import Derived.IntWalk
import Derived.WalkLawsBesides
import Derived.Lib.Builder
import Derived.Outline
import Derived.WalkSmall
import Derived.Deep.QuietTactic
import Derived.BigQuiet
import Derived.Maps.AppendAt
import Derived.Laws.OwnMore
import Derived.RangeFuncBox
set_option linter.unusedVariables false
set_option maxRecDepth 100000
namespace Go.Proofs.Ytebkifhdbpeeoaa.Sk
open Go.RowKit
/-- a row of numbers in memory: n of them, from a on -/
structure IntsAt (w : World) (a : Option Addr) (n : Nat) (l : List Int) : Prop where
  len : n = l.length
  cells : 0 < n → ∃ b off, a = some ⟨b, off, none⟩ ∧ ∀ j (hj : j < l.length), w.cell? ⟨b, off + j, none⟩ = some (.int .i64 l[j])
theorem cell_lt {w : World} {b o : Nat} {v : Value} (h : w.cell? ⟨b, o, none⟩ = some v) : b < w.heap.size := by
  rcases Nat.lt_or_ge b w.heap.size with h' | h'
  · exact h'
  · simp [World.cell?, Array.getElem?_eq_none h'] at h
theorem IntsAt.bel {w w' : World} {a : Option Addr} {n : Nat} {l : List Int} (h : IntsAt w a n l) (hb : Below w.heap.size w w') : IntsAt w' a n l :=
  ⟨h.len, fun h0 => by
    obtain ⟨b, off, e, hc⟩ := h.cells h0
    exact ⟨b, off, e, fun j hj => (hb.cell (p := ⟨b, off + j, none⟩) (cell_lt (hc j hj))).trans (hc j hj)⟩⟩
theorem ints_nil (w : World) : IntsAt w none 0 [] := ⟨rfl, fun h => absurd h (by decide)⟩
def cellsI (l : List Int) : List Value := l.map fun x : Int => Value.int .i64 x
theorem cellsI_snoc (l : List Int) (d : Int) : cellsI (l ++ [d]) = cellsI l ++ [Value.int .i64 d] := by simp [cellsI]
/-- a growing row of ints of the call's own -/
def OwnI (B : Nat) (w : World) (v : Value) (l : List Int) : Prop := w.ownsRow B 3 1 v l.length (cellsI l)
theorem OwnI.nil (B : Nat) (w : World) : OwnI B w (.slice none 0 0) [] := World.ownsRow_nil _ _ _ _
theorem OwnI.below {B : Nat} {w w' : World} {v : Value} {D : List Int} (h : OwnI B w v D) (hb : Below w.heap.size w w') : OwnI B w' v D := by
  by_cases e : v.ownBlock = none
  · exact World.ownsRow.kept (row := none) h ⟨hb.os, hb.tape, hb.output, hb.size, fun k hk _ => hb.block k hk⟩ (.inl e)
  · exact World.ownsRow.kept (row := none) h ⟨hb.os, hb.tape, hb.output, hb.size, fun k hk _ => hb.block k hk⟩ (.inr e)
theorem OwnI.at {B : Nat} {w : World} {v : Value} {l : List Int} (h : OwnI B w v l) : ∃ a cap, v = .slice a l.length cap ∧ l.length ≤ cap ∧ cap ≤ maxLen ∧ IntsAt w a l.length l := by
  have hl : w.ownsRow B 3 1 v l.length (cellsI l) := h
  rcases h.2 with ⟨rfl, h0⟩ | ⟨g, cap, cur, rfl, h1, h2, h3, h4, h5, h6⟩
  · obtain rfl : l = [] := List.eq_nil_of_length_eq_zero h0
    exact ⟨none, 0, rfl, by simp, by unfold maxLen; omega, ints_nil w⟩
  · refine ⟨_, cap, rfl, h3, h4, rfl, fun _ => ⟨g, 0, rfl, fun j hj => ?_⟩⟩
    rw [Nat.zero_add, World.ownsRow.cellAt hl j (by omega)]
    simp [cellsI, hj]
theorem infoI : (Try.prog.info? 3).map (fun i => (i.zero, i.size, i.bytes)) = some (some (.int .i64 0), 1, 8) := by kernel_rfl
theorem below_snocI {w wr w' : World} {u : Value} {D : List Int} {o : Obj} (h : Below w.heap.size w wr) (hu : OwnI w.heap.size wr u D) (hg : (wr.alloc o).grownBy w' u.ownBlock) : Below w.heap.size w w' :=
  (h.alloc h.size o).grown hg (Nat.le_trans h.size (by simp)) (fun q hq => (World.ownsRow.lt (w := wr) (base := w.heap.size) hu q hq).1)
/-- a list in memory, of whatever place -/
structure ListAt (w : World) (v : Value) (l : List Int) : Prop where
  out : ∃ a cap, v = .slice a l.length cap ∧ l.length ≤ cap ∧ IntsAt w a l.length l
theorem ListAt.bel {w w' : World} {v : Value} {l : List Int} (h : ListAt w v l) (hb : Below w.heap.size w w') : ListAt w' v l := by
  obtain ⟨a, cap, e, h1, h2⟩ := h.out
  exact ⟨⟨a, cap, e, h1, h2.bel hb⟩⟩
theorem OwnI.list {B : Nat} {w : World} {v : Value} {l : List Int} (h : OwnI B w v l) : ListAt w v l := by
  obtain ⟨a, cap, e, h1, _, h2⟩ := h.at
  exact ⟨⟨a, cap, e, h1, h2⟩⟩
theorem list_nil (w : World) : ListAt w (.slice none 0 0) [] := ⟨⟨none, 0, rfl, Nat.le_refl _, ints_nil w⟩⟩
def I64 (x : Int) : Prop := -9223372036854775808 ≤ x ∧ x ≤ 9223372036854775807
theorem i64_of {x : Int} (h : -9223372036854775808 ≤ x ∧ x ≤ 9223372036854775807) : I64 x := h
theorem i64_nat {x : Nat} (h : x ≤ 9223372036854775807) : I64 (x : Int) := ⟨by omega, by omega⟩
def okP (x y : Int) : Bool := decide (0 ≤ x ∧ x < 5760 ∧ 0 ≤ y ∧ y < 2880)
def isT (t : Int) : Bool := decide (0 ≤ t ∧ t < 512)
theorem isT_yes {t : Int} (h : isT t = true) : ∃ k : Nat, t = (k : Int) ∧ k < 512 := by
  simp only [isT, decide_eq_true_eq] at h
  exact ⟨t.toNat, by omega, by omega⟩
theorem isT_nat {k : Nat} (h : k < 512) : isT (k : Int) = true := by
  simp only [isT, decide_eq_true_eq]; omega
theorem okP_yes {x y : Int} (h : okP x y = true) : ∃ a b : Nat, x = (a : Int) ∧ y = (b : Int) ∧ a < 5760 ∧ b < 2880 := by
  simp only [okP, decide_eq_true_eq] at h
  exact ⟨x.toNat, y.toNat, by omega, by omega, by omega, by omega⟩
theorem okP_nat {a b : Nat} (ha : a < 5760) (hb : b < 2880) : okP (a : Int) (b : Int) = true := by
  simp only [okP, decide_eq_true_eq]; omega
def tilA (x y : Int) : Int × Nat := if okP x y then (((tilN x.toNat y.toNat : Nat) : Int), 0) else (0, 1)
def celA (x y : Int) : Int × Nat := if okP x y then (((celN x.toNat y.toNat : Nat) : Int), 0) else (0, 1)
def cenA (t : Int) : Int × Int × Nat := if isT t then (((t.toNat % 32 * 180 + 90 : Nat) : Int), ((t.toNat / 32 * 180 + 90 : Nat) : Int), 0) else (0, 0, 1)
def disA (a b : Int) : Int × Nat := if isT a && isT b then (((dis a.toNat b.toNat : Nat) : Int), 0) else (0, 1)
def intsN (l : List Nat) : List Int := l.map fun n : Nat => (n : Int)
theorem intsN_len (l : List Nat) : (intsN l).length = l.length := by simp [intsN]
theorem intsN_get {l : List Nat} {j : Nat} (h : j < (intsN l).length) : (intsN l)[j] = ((l[j]'(by rwa [intsN_len] at h) : Nat) : Int) := by simp [intsN]
def okR (r : Int) : Bool := decide (0 ≤ r ∧ r ≤ 31)
def neaA (t r : Int) : List Int × Nat := if isT t && okR r then (intsN (nea t.toNat r.toNat), 0) else ([], 1)
theorem tilA_ok {a b : Nat} (ha : a < 5760) (hb : b < 2880) : tilA (a : Int) (b : Int) = (((tilN a b : Nat) : Int), 0) := by
  unfold tilA; rw [if_pos (okP_nat ha hb)]; simp
theorem celA_ok {a b : Nat} (ha : a < 5760) (hb : b < 2880) : celA (a : Int) (b : Int) = (((celN a b : Nat) : Int), 0) := by
  unfold celA; rw [if_pos (okP_nat ha hb)]; simp
theorem cenA_ok {t : Nat} (h : t < 512) : cenA (t : Int) = (((t % 32 * 180 + 90 : Nat) : Int), ((t / 32 * 180 + 90 : Nat) : Int), 0) := by
  unfold cenA; rw [if_pos (isT_nat h)]; simp
theorem disA_ok {a b : Nat} (ha : a < 512) (hb : b < 512) : disA (a : Int) (b : Int) = (((dis a b : Nat) : Int), 0) := by
  unfold disA; rw [isT_nat ha, isT_nat hb]; simp
theorem neaA_ok {t r : Nat} (ht : t < 512) (hr : r ≤ 31) : neaA (t : Int) (r : Int) = (intsN (nea t r), 0) := by
  unfold neaA; rw [isT_nat ht, show okR (r : Int) = true by simp [okR]; omega]; simp
theorem nea_le (t r : Nat) : (nea t r).length ≤ 512 := neaK_len t r 512
theorem neaA_len (t r : Int) : (neaA t r).1.length ≤ 1000000 := by
  unfold neaA
  split
  · have := nea_le t.toNat r.toNat
    rw [intsN_len]; omega
  · simp
/-- a number and an error -/
def GivesN (v : Int) (e : Nat) (w : World) (en : Ending) (w' : World) : Prop := en = .returned (.tuple #[.int .i64 v, .int .i64 (e : Int)]) ∧ Below w.heap.size w w'
/-- a position and an error -/
def GivesP (x y : Int) (e : Nat) (w : World) (en : Ending) (w' : World) : Prop := en = .returned (.tuple #[.agg #[.int .i64 x, .int .i64 y], .int .i64 (e : Int)]) ∧ Below w.heap.size w w'
/-- a list and an error -/
def GivesL (l : List Int) (e : Nat) (w : World) (en : Ending) (w' : World) : Prop := ∃ v, en = .returned (.tuple #[v, .int .i64 (e : Int)]) ∧ ListAt w' v l ∧ Below w.heap.size w w'
/-- a position in a block -/
structure PosAt (B : Nat) (x y : Int) (w : World) : Prop where
  cells : w.heap[B]? = some (.cells #[.int .i64 x, .int .i64 y] 43 (0, 0))
theorem blk_ltS {w : World} {B : Nat} {o : Obj} (h : w.heap[B]? = some o) : B < w.heap.size := (Array.getElem?_eq_some_iff.1 h).1
theorem heap_lastS (w : World) (o : Obj) : (w.alloc o).heap[w.heap.size]? = some o := by show (w.heap.push o)[w.heap.size]? = _; simp
theorem PosAt.new (w : World) (x y : Int) : PosAt w.heap.size x y (w.alloc (Obj.cells #[.int .i64 x, .int .i64 y] 43)) := ⟨heap_lastS _ _⟩
theorem PosAt.bel {B : Nat} {x y : Int} {w w' : World} (h : PosAt B x y w) (hb : Below w.heap.size w w') : PosAt B x y w' := ⟨(hb.block _ (blk_ltS h.cells)).trans h.cells⟩
theorem PosAt.c0 {B : Nat} {x y : Int} {w : World} (h : PosAt B x y w) : w.cell? ⟨B, 0, none⟩ = some (.int .i64 x) := by rw [Lib.cell_of_heap h.cells]; rfl
theorem PosAt.c1 {B : Nat} {x y : Int} {w : World} (h : PosAt B x y w) : w.cell? ⟨B, 1, none⟩ = some (.int .i64 y) := by rw [Lib.cell_of_heap h.cells]; rfl
theorem PosAt.fz {B : Nat} {x y : Int} {w : World} (h : PosAt B x y w) (k : Nat) : w.frozen? ⟨B, k, none⟩ = false := Lib.frozen_of_heap h.cells k
theorem heap_setS (w : World) (B i : Nat) (cs : Array Value) (T : TypeId) (u : Value) (h : w.heap[B]? = some (.cells cs T (0, 0))) : (w.setCell ⟨B, i, none⟩ u).heap[B]? = some (.cells (cs.setIfInBounds i u) T (0, 0)) := by
  obtain ⟨hlt, hk⟩ := Array.getElem?_eq_some_iff.1 h
  show (w.heap.modify B _)[B]? = _
  rw [Array.getElem?_eq_getElem (by rw [Array.size_modify]; exact hlt), Array.getElem_modify_self, hk]
  rfl
theorem PosAt.set {B : Nat} {x y : Int} {w : World} (h : PosAt B x y w) (u v : Int) : PosAt B u v ((w.setCell ⟨B, 0, none⟩ (.int .i64 u)).setCell ⟨B, 1, none⟩ (.int .i64 v)) :=
  ⟨heap_setS _ B 1 _ _ (.int .i64 v) (heap_setS w B 0 _ _ (.int .i64 u) h.cells)⟩
theorem PosAt.set0 {B : Nat} {x y : Int} {w : World} (h : PosAt B x y w) (u : Int) : PosAt B u y (w.setCell ⟨B, 0, none⟩ (.int .i64 u)) :=
  ⟨heap_setS w B 0 _ _ (.int .i64 u) h.cells⟩
theorem PosAt.below {B : Nat} {w0 w : World} (hb : Below w0.heap.size w0 w) (hB : w0.heap.size ≤ B) (u v : Value) : Below w0.heap.size w0 ((w.setCell ⟨B, 0, none⟩ u).setCell ⟨B, 1, none⟩ v) :=
  (hb.setCell (p := ⟨B, 0, none⟩) hB _).setCell (p := ⟨B, 1, none⟩) hB _
end Go.Proofs.Ytebkifhdbpeeoaa.Sk
