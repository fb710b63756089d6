/-
  The reference's Abs: the digits of an integer's absolute value.
-/
import Derived.Test.YtbcoblpnihdhgaaGreatDoorRatP
import Derived.Lib.ItoaNum
set_option linter.unusedVariables false
set_option maxRecDepth 100000
namespace Go.Proofs.YtbcoblpnihdhgaaGreatDoor
open Go.RowKit
theorem nSn_size (n : Nat) (h : n < 18446744073709551616) : (nS n).size ≤ 20 := (nS_size (by omega)).2 (by omega)
def dlow (n : Nat) : Nat := n % 10
theorem dlow_lt (n : Nat) : dlow n < 10 := Nat.mod_lt _ (by omega)
def dshr (n : Nat) : Nat := n / 10
def ddg (n : Nat) : UInt8 := UInt8.ofNat (48 + dlow n)
theorem decCut (w : World) (k : Nat) : (Instr.slice 9 (.string ⟨#[48, 49, 50, 51, 52, 53, 54, 55, 56, 57]⟩) (some (.int .u64 (dlow k : Nat))) (some (.int .u64 ((dlow k : Nat) + 1))) none).run Tryz.prog w = .ok (.string ⟨#[ddg k]⟩) w := by
  have h := dlow_lt k
  unfold ddg
  generalize dlow k = n at h
  match n, h with
  | 0, _ => rfl
  | 1, _ => rfl
  | 2, _ => rfl
  | 3, _ => rfl
  | 4, _ => rfl
  | 5, _ => rfl
  | 6, _ => rfl
  | 7, _ => rfl
  | 8, _ => rfl
  | 9, _ => rfl
  | n + 10, h => exact absurd h (by omega)
/-- t is the end of n's digits, behind those of m -/
def DecInv (n m : Nat) (t : ByteArray) : Prop := Dec.digs n = (if m = 0 then [] else Dec.digs m) ++ t.data.toList
theorem DecInv.start (n : Nat) : DecInv n (dshr n) ⟨#[ddg n]⟩ := by
  unfold DecInv dshr ddg dlow
  by_cases h : n < 10
  · rw [if_pos (by omega), Dec.digs_small h, Nat.mod_eq_of_lt h]; rfl
  · rw [if_neg (by omega), Dec.digs_big h]
theorem DecInv.step {n m : Nat} {t : ByteArray} (h : DecInv n m t) (hm : m ≠ 0) : DecInv n (dshr m) (⟨#[ddg m]⟩ ++ t) := by
  unfold DecInv at h ⊢
  rw [if_neg hm] at h
  have h1 := DecInv.start m
  unfold DecInv at h1
  rw [h, h1, List.append_assoc]
  congr 1
theorem DecInv.done {n : Nat} {t : ByteArray} (h : DecInv n 0 t) : t = nS n := by
  unfold DecInv at h
  simp at h
  apply ByteArray.ext
  apply Array.ext'
  rw [← h]; rfl
theorem DecInv.size {n m : Nat} {t : ByteArray} (h : DecInv n m t) (hn : n < 18446744073709551616) : t.size ≤ 20 := by
  have h1 := nSn_size n hn
  have h2 : (nS n).size = (Dec.digs n).length := bx_size _
  unfold DecInv at h
  rw [h2, h, List.length_append] at h1
  have : t.data.toList.length = t.size := by simp
  omega
theorem abs_neg_wrap {n : Int} (k : Nat) (h : n = -((k : Int) + 1)) (hk : k < 9223372036854775808) : IntKind.i64.wrap (n + 1) = n + 1 ∧ wrap64 (-(n + 1)) = (k : Int) ∧ IntKind.u64.wrap (k : Int) = (k : Int) ∧ IntKind.u64.wrap ((k : Int) + 1) = ((k + 1 : Nat) : Int) := by
  refine ⟨IntWalk.i64_in _ (by omega), ?_, ?_, ?_⟩
  · have := IntWalk.i64_in (-(n + 1)) (by omega)
    simp only [IntKind.wrap_i64] at this ⊢
    unfold wrap64 at *
    omega
  · exact IntWalk.u64_in _ (by omega)
  · rw [IntWalk.u64_in _ (by omega)]; omega
end Go.Proofs.YtbcoblpnihdhgaaGreatDoor
