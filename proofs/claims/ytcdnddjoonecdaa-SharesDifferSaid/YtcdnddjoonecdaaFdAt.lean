/-
  Lists of numbers in memory; the field's operations as functions (layer 6).
-/
import Derived.Test.YtcdnddjoonecdaaFdLink
import Derived.Test.YtcdnddjoonecdaaProg
import Derived.WalkKit
import Derived.Below
import Derived.Lib.Walk
import Derived.Lib.Hide
import Derived.IntWalk
import Derived.WalkLawsBesides
import Derived.Lib.Builder
import Derived.Outline
import Derived.WalkSmall
import Derived.Deep.QuietTactic
import Derived.BigQuiet
set_option linter.unusedVariables false
set_option maxRecDepth 100000
namespace Go.Proofs.Ytcdnddjoonecdaa
open Go.RowKit
/-- a row of numbers in memory: n of them, from a on -/
structure IntsAt (w : World) (a : Option Addr) (n : Nat) (l : List Int) : Prop where
  len : n = l.length
  cells : 0 < n → ∃ b off, a = some ⟨b, off, none⟩ ∧ ∀ j (hj : j < l.length), w.cell? ⟨b, off + j, none⟩ = some (.int .i64 l[j])
theorem cell_ltF {w : World} {b o : Nat} {v : Value} (h : w.cell? ⟨b, o, none⟩ = some v) : b < w.heap.size := by
  rcases Nat.lt_or_ge b w.heap.size with h' | h'
  · exact h'
  · simp [World.cell?, Array.getElem?_eq_none h'] at h
theorem IntsAt.bel {w w' : World} {a : Option Addr} {n : Nat} {l : List Int} (h : IntsAt w a n l) (hb : Below w.heap.size w w') : IntsAt w' a n l :=
  ⟨h.len, fun h0 => by
    obtain ⟨b, off, e, hc⟩ := h.cells h0
    exact ⟨b, off, e, fun j hj => (hb.cell (p := ⟨b, off + j, none⟩) (cell_ltF (hc j hj))).trans (hc j hj)⟩⟩
theorem IntsAt.drewN {w : World} {a : Option Addr} {n : Nat} {l : List Int} (h : IntsAt w a n l) (k : Nat) : IntsAt (w.drewN k) a n l :=
  ⟨h.len, fun h0 => by
    obtain ⟨b, off, e, hc⟩ := h.cells h0
    exact ⟨b, off, e, fun j hj => hc j hj⟩⟩
/-- a row of points in memory -/
structure PtsAt (w : World) (a : Option Addr) (n : Nat) (l : List (Int × Int)) : Prop where
  len : n = l.length
  cells : 0 < n → ∃ b off, a = some ⟨b, off, none⟩ ∧ ∀ j (hj : j < l.length), w.cell? ⟨b, off + j * 2, none⟩ = some (.int .i64 l[j].1) ∧ w.cell? ⟨b, off + j * 2 + 1, none⟩ = some (.int .i64 l[j].2)
theorem PtsAt.bel {w w' : World} {a : Option Addr} {n : Nat} {l : List (Int × Int)} (h : PtsAt w a n l) (hb : Below w.heap.size w w') : PtsAt w' a n l :=
  ⟨h.len, fun h0 => by
    obtain ⟨b, off, e, hc⟩ := h.cells h0
    exact ⟨b, off, e, fun j hj => ⟨(hb.cell (p := ⟨b, off + j * 2, none⟩) (cell_ltF (hc j hj).1)).trans (hc j hj).1, (hb.cell (p := ⟨b, off + j * 2 + 1, none⟩) (cell_ltF (hc j hj).2)).trans (hc j hj).2⟩⟩⟩
theorem IntsAt.cell {w : World} {b off n : Nat} {l : List Int} (h : IntsAt w (some ⟨b, off, none⟩) n l) {j : Nat} (hj : j < l.length) : w.cell? ⟨b, off + j, none⟩ = some (.int .i64 l[j]) := by
  obtain ⟨b', off', e, hc⟩ := h.cells (by have := h.len; omega)
  cases e
  exact hc j hj
theorem PtsAt.cell {w : World} {b off n : Nat} {l : List (Int × Int)} (h : PtsAt w (some ⟨b, off, none⟩) n l) {j : Nat} (hj : j < l.length) : w.cell? ⟨b, off + j * 2, none⟩ = some (.int .i64 l[j].1) ∧ w.cell? ⟨b, off + j * 2 + 1, none⟩ = some (.int .i64 l[j].2) := by
  obtain ⟨b', off', e, hc⟩ := h.cells (by have := h.len; omega)
  cases e
  exact hc j hj
theorem heap_lastF (w : World) (o : Obj) : (w.alloc o).heap[w.heap.size]? = some o := by show (w.heap.push o)[w.heap.size]? = _; simp
theorem ints_one (w : World) (x : Int) {B : Nat} (hB : w.heap.size = B) : IntsAt (w.alloc (Obj.cells #[Value.int .i64 x] 3)) (some ⟨B, 0, none⟩) 1 [x] := by
  subst hB
  exact ⟨rfl, fun _ => ⟨_, _, rfl, fun j hj => by
    match j, hj with
    | 0, _ => rw [Lib.cell_of_heap (heap_lastF _ _)]; rfl⟩⟩
theorem ints_two (w : World) (x y : Int) {B : Nat} (hB : w.heap.size = B) : IntsAt (w.alloc (Obj.cells #[Value.int .i64 x, Value.int .i64 y] 3)) (some ⟨B, 0, none⟩) 2 [x, y] := by
  subst hB
  exact ⟨rfl, fun _ => ⟨_, _, rfl, fun j hj => by
    match j, hj with
    | 0, _ => rw [Lib.cell_of_heap (heap_lastF _ _)]; rfl
    | 1, _ => rw [Lib.cell_of_heap (heap_lastF _ _)]; rfl⟩⟩
theorem ints_three (w : World) (x y z : Int) {B : Nat} (hB : w.heap.size = B) : IntsAt (w.alloc (Obj.cells #[Value.int .i64 x, Value.int .i64 y, Value.int .i64 z] 3)) (some ⟨B, 0, none⟩) 3 [x, y, z] := by
  subst hB
  exact ⟨rfl, fun _ => ⟨_, _, rfl, fun j hj => by
    match j, hj with
    | 0, _ => rw [Lib.cell_of_heap (heap_lastF _ _)]; rfl
    | 1, _ => rw [Lib.cell_of_heap (heap_lastF _ _)]; rfl
    | 2, _ => rw [Lib.cell_of_heap (heap_lastF _ _)]; rfl⟩⟩
theorem ints_nil (w : World) : IntsAt w none 0 [] := ⟨rfl, fun h => absurd h (by decide)⟩
theorem pts_nil (w : World) : PtsAt w none 0 [] := ⟨rfl, fun h => absurd h (by decide)⟩
theorem pts_one (w : World) (a b : Int) {B : Nat} (hB : w.heap.size = B) : PtsAt (w.alloc (Obj.cells #[Value.int .i64 a, Value.int .i64 b] 35)) (some ⟨B, 0, none⟩) 1 [(a, b)] := by
  subst hB
  exact ⟨rfl, fun _ => ⟨_, _, rfl, fun j hj => by
    match j, hj with
    | 0, _ => exact ⟨by rw [Lib.cell_of_heap (heap_lastF _ _)]; rfl, by rw [Lib.cell_of_heap (heap_lastF _ _)]; rfl⟩⟩⟩
theorem pts_two (w : World) (a b c d : Int) {B : Nat} (hB : w.heap.size = B) : PtsAt (w.alloc (Obj.cells #[Value.int .i64 a, Value.int .i64 b, Value.int .i64 c, Value.int .i64 d] 35)) (some ⟨B, 0, none⟩) 2 [(a, b), (c, d)] := by
  subst hB
  exact ⟨rfl, fun _ => ⟨_, _, rfl, fun j hj => by
    match j, hj with
    | 0, _ => exact ⟨by rw [Lib.cell_of_heap (heap_lastF _ _)]; rfl, by rw [Lib.cell_of_heap (heap_lastF _ _)]; rfl⟩
    | 1, _ => exact ⟨by rw [Lib.cell_of_heap (heap_lastF _ _)]; rfl, by rw [Lib.cell_of_heap (heap_lastF _ _)]; rfl⟩⟩⟩
theorem pts_three (w : World) (a b c d e f : Int) {B : Nat} (hB : w.heap.size = B) : PtsAt (w.alloc (Obj.cells #[Value.int .i64 a, Value.int .i64 b, Value.int .i64 c, Value.int .i64 d, Value.int .i64 e, Value.int .i64 f] 35)) (some ⟨B, 0, none⟩) 3 [(a, b), (c, d), (e, f)] := by
  subst hB
  exact ⟨rfl, fun _ => ⟨_, _, rfl, fun j hj => by
    match j, hj with
    | 0, _ => exact ⟨by rw [Lib.cell_of_heap (heap_lastF _ _)]; rfl, by rw [Lib.cell_of_heap (heap_lastF _ _)]; rfl⟩
    | 1, _ => exact ⟨by rw [Lib.cell_of_heap (heap_lastF _ _)]; rfl, by rw [Lib.cell_of_heap (heap_lastF _ _)]; rfl⟩
    | 2, _ => exact ⟨by rw [Lib.cell_of_heap (heap_lastF _ _)]; rfl, by rw [Lib.cell_of_heap (heap_lastF _ _)]; rfl⟩⟩⟩
/-- the call answers with a number and an error -/
def GivesN (r : Int × Int) (w : World) (e : Ending) (w' : World) : Prop := e = .returned (.tuple #[.int .i64 r.1, .int .i64 r.2]) ∧ Below w.heap.size w w'
/-- is it an element? -/
def okE (a : Int) : Bool := decide (0 ≤ a ∧ a < 2147483647)
theorem okE_iff {a : Int} : okE a = true ↔ 0 ≤ a ∧ a < 2147483647 := by simp [okE]
theorem okE_no {a : Int} : okE a = false ↔ a < 0 ∨ 2147483647 ≤ a := by
  simp only [okE, decide_eq_false_iff_not]; omega
def allE (l : List Int) : Bool := l.all okE
theorem allE_iff {l : List Int} : allE l = true ↔ ∀ x ∈ l, 0 ≤ x ∧ x < 2147483647 := by
  simp only [allE, List.all_eq_true, okE_iff]
theorem allE_no {l : List Int} {k : Nat} (hk : k < l.length) (h : okE l[k] = false) : allE l = false := by
  unfold allE; rw [List.all_eq_false]; exact ⟨_, List.getElem_mem hk, by simp [h]⟩
theorem allE_upto {l : List Int} (h : ∀ j (hj : j < l.length), okE l[j] = true) : allE l = true := by
  unfold allE; rw [List.all_eq_true]; intro x hx; obtain ⟨j, hj, rfl⟩ := List.getElem_of_mem hx; exact h j hj
def sumF (a b : Int) : Int := (a + b) % 2147483647
def difF (a b : Int) : Int := (a - b + 2147483647) % 2147483647
def mulF (a b : Int) : Int := a * b % 2147483647
theorem sumF_range (a b : Int) : 0 ≤ sumF a b ∧ sumF a b < 2147483647 := by unfold sumF; omega
theorem difF_range (a b : Int) : 0 ≤ difF a b ∧ difF a b < 2147483647 := by unfold difF; omega
theorem mulF_range (a b : Int) : 0 ≤ mulF a b ∧ mulF a b < 2147483647 := by
  unfold mulF; obtain ⟨x, hx⟩ : ∃ x, x = a * b := ⟨_, rfl⟩; rw [← hx]; omega
theorem mul_small {a b : Int} (ha : 0 ≤ a ∧ a < 2147483647) (hb : 0 ≤ b ∧ b < 2147483647) : 0 ≤ a * b ∧ a * b ≤ 4611686009837453316 := by
  refine ⟨Int.mul_nonneg ha.1 hb.1, ?_⟩
  have h1 : a * b ≤ 2147483646 * b := Int.mul_le_mul_of_nonneg_right (by omega) hb.1
  omega
/-- the facts that a walk wants of a product -/
theorem mul_walk {a b : Int} (ha : 0 ≤ a ∧ a < 2147483647) (hb : 0 ≤ b ∧ b < 2147483647) :
    IntKind.i64.wrap (a * b) = a * b ∧ (a * b).tmod 2147483647 = mulF a b ∧ IntKind.i64.wrap (mulF a b) = mulF a b := by
  have h := mul_small ha hb
  have h2 := mulF_range a b
  refine ⟨IntWalk.i64_in _ (by omega), ?_, IntWalk.i64_in _ (by omega)⟩
  rw [Int.tmod_eq_emod_of_nonneg h.1]; rfl
end Go.Proofs.Ytcdnddjoonecdaa
