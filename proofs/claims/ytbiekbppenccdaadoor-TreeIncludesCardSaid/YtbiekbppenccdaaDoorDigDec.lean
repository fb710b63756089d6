/-
  The contracts of the reference Decimal and digits: for every number its decimal digits.
-/
import Derived.Test.YtbiekbppenccdaaDoorDigRis
import Derived.Lib.ItoaNum
namespace Go.Proofs.YtbiekbppenccdaaDoor
open Go.RowKit
def decB (n : Nat) : ByteArray := ⟨(Lib.decDigits n).toArray⟩
theorem decB_size (n : Nat) (h : n < 18446744073709551616) : (decB n).size ≤ 20 := by
  have h1 : (decB n).size = Lib.nDigits n := by
    show (Lib.decDigits n).toArray.size = _
    simp [Lib.decDigits_length]
  rw [h1]
  by_cases h0 : n = 0
  · subst h0; rw [Lib.nDigits_small (by omega)]; omega
  · have := Lib.numDigits_eq n (by omega) h
    split at this <;> omega
def dlow (n : Nat) : Nat := n % 10
theorem dlow_lt (n : Nat) : dlow n < 10 := Nat.mod_lt _ (by omega)
def dshr (n : Nat) : Nat := n / 10
def ddg (n : Nat) : UInt8 := UInt8.ofNat (48 + dlow n)
theorem decCut (w : World) (k : Nat) : (Instr.slice 9 (.string ⟨#[48, 49, 50, 51, 52, 53, 54, 55, 56, 57]⟩) (some (.int .u64 (dlow k : Nat))) (some (.int .u64 ((dlow k : Nat) + 1))) none).run Tryd.prog w = .ok (.string ⟨#[ddg k]⟩) w := by
  have h := dlow_lt k
  unfold ddg
  generalize dlow k = n at h
  match n, h with
  | 0, _ => rfl
  | 1, _ => rfl
  | 2, _ => rfl
  | 3, _ => rfl
  | 4, _ => rfl
  | 5, _ => rfl
  | 6, _ => rfl
  | 7, _ => rfl
  | 8, _ => rfl
  | 9, _ => rfl
  | n + 10, h => exact absurd h (by omega)
/-- t is the end of n's digits, behind those of m -/
def DecInv (n m : Nat) (t : ByteArray) : Prop := Lib.decDigits n = (if m = 0 then [] else Lib.decDigits m) ++ t.data.toList
theorem DecInv.start (n : Nat) : DecInv n (dshr n) ⟨#[ddg n]⟩ := by
  unfold DecInv dshr ddg dlow
  by_cases h : n < 10
  · rw [if_pos (by omega), Lib.decDigits, dif_pos h, Nat.mod_eq_of_lt h]; rfl
  · rw [if_neg (by omega), Lib.decDigits, dif_neg h]
theorem DecInv.step {n m : Nat} {t : ByteArray} (h : DecInv n m t) (hm : m ≠ 0) : DecInv n (dshr m) (⟨#[ddg m]⟩ ++ t) := by
  unfold DecInv at h ⊢
  rw [if_neg hm] at h
  have h1 := DecInv.start m
  unfold DecInv at h1
  rw [h, h1, List.append_assoc]
  congr 1
theorem DecInv.done {n : Nat} {t : ByteArray} (h : DecInv n 0 t) : t = decB n := by
  unfold DecInv at h
  simp at h
  apply ByteArray.ext
  apply Array.ext'
  rw [← h]; rfl
theorem DecInv.size {n m : Nat} {t : ByteArray} (h : DecInv n m t) (hn : n < 18446744073709551616) : t.size ≤ 20 := by
  have h1 := decB_size n hn
  have h2 : (decB n).size = (Lib.decDigits n).length := by show (Lib.decDigits n).toArray.size = _; simp
  unfold DecInv at h
  rw [h2, h, List.length_append] at h1
  have : t.data.toList.length = t.size := by simp
  omega
set_option maxHeartbeats 400000 in
theorem digits_any (n : Nat) (w : World) (hn : n < 18446744073709551616) :
   Calls Tryd.prog 77 #[.int .u64 (n : Int)] w fun e w' => e = .returned (.string (decB n)) ∧ w = w' := by
  have e1 : ((n : Nat) : Int) % 10 = (dlow n : Nat) := rfl
  have e2 : ((n : Nat) : Int) / 10 = (dshr n : Nat) := rfl
  have e3 := dlow_lt n
  have e4 := decCut w n
  go_enter Tryd.func77, Tryd.ntmps77
  go_wp2_with fail
  go_loop [0, 3] (fun m t => ∃ (k : Nat) (s : ByteArray), k < 18446744073709551616 ∧ m = .int .u64 k ∧ t = .string s ∧ DecInv n k s) (fun m _ => (intOf m).toNat)
  case atStart => exact ⟨dshr n, _, by unfold dshr; omega, rfl, rfl, DecInv.start n⟩
  case round =>
    obtain ⟨k, s, hk, rfl, rfl, hinv⟩ := hrel
    clear e1 e2 e3 e4
    by_cases hk0 : 0 < k
    · have e1 : ((k : Nat) : Int) % 10 = (dlow k : Nat) := rfl
      have e2 : ((k : Nat) : Int) / 10 = (dshr k : Nat) := rfl
      have e3 := dlow_lt k
      have e4 := decCut w k
      have e5 := hinv.size hn
      go_wp2_with fail
      go_round
      case rel => exact ⟨dshr k, _, by unfold dshr; omega, rfl, rfl, hinv.step (by omega)⟩
      case measure => simp [intOf, dshr]; omega
    · obtain rfl : k = 0 := by omega
      go_wp2_with fail
      go_ret
      exact ⟨by rw [← hinv.done]; rfl, rfl⟩
theorem decimal_any (n : Nat) (w : World) (hn : n ≤ maxLen) :
   Calls Tryd.prog 66 #[.int .i64 (n : Int)] w fun e w' => e = .returned (.string (decB n)) ∧ w = w' := by
  unfold maxLen at hn
  go_enter Tryd.func66, Tryd.ntmps66
  go_wp2_with fail
  refine (digits_any n _ (by omega)).mono ?_
  rintro e w' ⟨rfl, rfl⟩
  go_wp2_with fail
  go_ret
  exact ⟨rfl, rfl⟩
end Go.Proofs.YtbiekbppenccdaaDoor
