/-
  The program's rational package: Text.
-/
import Derived.Test.YtbcoblpnihdhgaaGreatDoorRmE
set_option linter.unusedVariables false
set_option maxRecDepth 100000
namespace Go.Proofs.YtbcoblpnihdhgaaGreatDoor
open Go.RowKit
open Rt
theorem ba_nil (s : ByteArray) : s ++ (⟨#[]⟩ : ByteArray) = s := by
  apply tl_inj; simp [tl]
def textS (neg : Bool) (n d : ByteArray) (one : Bool) : ByteArray := (if neg then (⟨#[45]⟩ : ByteArray) ++ n else n) ++ (if one then ⟨#[]⟩ else (⟨#[47]⟩ : ByteArray) ++ d)
theorem tl_app (a b : ByteArray) : tl (a ++ b) = tl a ++ tl b := by simp [tl]
theorem textS_is {r : Raw} (h : okR r = true) : textS r.neg r.num r.den (isO r.den) = bx (textL r.q) := by
  obtain ⟨_, hr, _, _⟩ := okR_of h
  have e1 : tl r.num = Dec.digs r.q.num := by
    have : tl r.q.raw.num = Dec.digs r.q.num := tl_bx _
    rwa [hr] at this
  have e2 : tl r.den = Dec.digs r.q.den := by
    have : tl r.q.raw.den = Dec.digs r.q.den := tl_bx _
    rwa [hr] at this
  have e3 : isO r.den = decide (r.q.den = 1) := by
    have : isO r.q.raw.den = decide (r.q.den = 1) := isO_nS _
    rwa [hr] at this
  have e4 : r.neg = r.q.neg := rfl
  apply tl_inj
  rw [tl_bx, e3]
  unfold textS textL
  rw [tl_app, e4]
  have h45 : tl (⟨#[45]⟩ : ByteArray) = [45] := rfl
  have h47 : tl (⟨#[47]⟩ : ByteArray) = [47] := rfl
  have h0 : tl (⟨#[]⟩ : ByteArray) = [] := rfl
  by_cases hd : r.q.den = 1
  · rw [decide_eq_true hd, if_pos hd]
    cases r.q.neg
    · simp [e1, h0]
    · simp [e1, h0, tl_app, h45]
  · rw [decide_eq_false hd, if_neg hd]
    cases r.q.neg
    · simp [e1, e2, tl_app, h47]
    · simp [e1, e2, tl_app, h45, h47]
end Go.Proofs.YtbcoblpnihdhgaaGreatDoor
