/-
  The answers of layer 9's functions.
-/
import Derived.Test.YtebkifhdbpeeoaaCaText
import Derived.Test.YtebkifhdbpeeoaaProg
import Derived.Lib.Walk
import Derived.Lib.Hide
import Derived.IntWalk
import Derived.WalkLawsBesides
import Derived.Outline
import Derived.WalkSmall
import Derived.Deep.QuietTactic
import Derived.BigQuiet
import Derived.Below
import Derived.WalkKit
set_option linter.unusedVariables false
set_option maxRecDepth 100000
namespace Go.Proofs.Ytebkifhdbpeeoaa
open Go.RowKit
open Ca
def isM (m : Int) : Bool := decide (0 ≤ m) && decide (m ≤ 38399)
theorem isM_yes {m : Int} (h : isM m = true) : ∃ k : Nat, m = (k : Int) ∧ k < 38400 := by
  simp only [isM, Bool.and_eq_true, decide_eq_true_eq] at h
  exact ⟨m.toNat, by omega, by omega⟩
theorem isM_nat {k : Nat} (h : k < 38400) : isM (k : Int) = true := by
  simp only [isM, Bool.and_eq_true, decide_eq_true_eq]; omega
theorem isM_no {m : Int} (h : isM m = false) : m < 0 ∨ 38399 < m := by
  simp only [isM, Bool.and_eq_false_iff, decide_eq_false_iff_not] at h; omega
/-- a number and an error -/
def GivesN (v : Int) (e : Nat) (w : World) (en : Ending) (w' : World) : Prop := en = .returned (.tuple #[.int .i64 v, .int .i64 (e : Int)]) ∧ Below w.heap.size w w'
def GivesNN (v u : Int) (e : Nat) (w : World) (en : Ending) (w' : World) : Prop := en = .returned (.tuple #[.int .i64 v, .int .i64 u, .int .i64 (e : Int)]) ∧ Below w.heap.size w w'
def GivesS (l : Bs) (e : Nat) (w : World) (en : Ending) (w' : World) : Prop := en = .returned (.tuple #[.string (ba l), .int .i64 (e : Int)]) ∧ Below w.heap.size w w'
def okNS (n s : Int) : Bool := decide (0 ≤ n ∧ n ≤ 399 ∧ 0 ≤ s ∧ s ≤ 95)
def momA (n s : Int) : Int × Nat := if okNS n s then (96 * n + s, 0) else (0, 1)
def splA (m : Int) : Int × Int × Nat := if isM m then (m / 96, m % 96, 0) else (0, 0, 1)
def sidA (m : Int) : Int × Nat := if isM m then ((sid m.toNat : Nat), 0) else (0, 1)
def texA (m : Int) : Bs × Nat := if isM m then (textL m.toNat, 0) else ([], 1)
def ansF : Option Nat → Int × Nat
  | some m => ((m : Nat), 0)
  | none => (0, 5)
def parA (l : Bs) : Int × Nat := ansF (parseF l)
def okMA (m a : Int) : Bool := isM m && decide (0 ≤ a ∧ a ≤ 5759)
def nexA (m a : Int) : Int × Nat := if okMA m a then (match nextF m.toNat a.toNat with
  | some x => ((x : Nat), 0)
  | none => (0, 9)) else (0, 1)
theorem momA_ok {n s : Nat} (hn : n < 400) (hs : s < 96) : momA n s = (((96 * n + s : Nat) : Int), 0) := by
  unfold momA okNS
  rw [if_pos (by simp; omega)]
  simp
theorem splA_ok {m : Nat} (h : m < 38400) : splA m = (((m / 96 : Nat) : Int), ((m % 96 : Nat) : Int), 0) := by
  unfold splA
  rw [if_pos (isM_nat h)]
  simp
theorem sidA_ok {m : Nat} (h : m < 38400) : sidA m = (((sid m : Nat) : Int), 0) := by
  unfold sidA
  rw [if_pos (isM_nat h)]; simp
theorem texA_ok {m : Nat} (h : m < 38400) : texA m = (textL m, 0) := by
  unfold texA
  rw [if_pos (isM_nat h)]; simp
theorem nexA_ok {m a : Nat} (h : m < 38400) (ha : a < 5760) : nexA m a = match nextF m a with
  | some x => ((x : Nat), 0)
  | none => (0, 9) := by
  unfold nexA okMA
  rw [if_pos (by rw [isM_nat h]; simp; omega)]
  simp
end Go.Proofs.Ytebkifhdbpeeoaa
