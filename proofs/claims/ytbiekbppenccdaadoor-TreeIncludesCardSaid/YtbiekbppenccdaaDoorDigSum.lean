/-
  The contract of digest.Sum: for every text its digest, as the plain function sumL gives it.
-/
import Derived.Test.YtbiekbppenccdaaDoorDigHex
import Derived.Lib.Hide
namespace Go.Proofs.YtbiekbppenccdaaDoor
open Go.RowKit
def sumB (s : ByteArray) : ByteArray := ⟨(Dig.sumL s.data.toList).toArray⟩
/-- the state after so many blocks -/
def stB (s : ByteArray) (k : Nat) : Nat := Dig.stN s.data.toList k
def blB (s : ByteArray) (k : Nat) : Nat := Dig.blkN s.data.toList (8 * k) 8
theorem len_lt (s : ByteArray) (hs : s.size ≤ maxLen) : s.data.toList.length < Dig.M := by
  have : s.data.toList.length = s.size := by simp
  unfold maxLen at hs
  rw [this]; unfold Dig.M; omega
theorem stB_lt (s : ByteArray) (hs : s.size ≤ maxLen) (k : Nat) : stB s k < 18446744073709551616 := Dig.stN_lt _ (len_lt s hs) k
theorem stB_zero (s : ByteArray) (hs : s.size ≤ maxLen) : bits .xor .u64 1442695040888963407 (s.size : Int) = (stB s 0 : Nat) := by
  have h : s.data.toList.length = s.size := by simp
  unfold maxLen at hs
  have := u64_xor_nat 1442695040888963407 s.size (by omega) (by omega)
  unfold stB Dig.stN Dig.SEED
  rw [h]
  exact this
theorem stB_step (s : ByteArray) (hs : s.size ≤ maxLen) (k : Nat) : bits .xor .u64 (stB s k : Nat) (Dig.blkN s.data.toList (8 * k) 8 : Nat) = (stB s k ^^^ blB s k : Nat) :=
  u64_xor_nat _ _ (stB_lt s hs k) (Dig.blk8_lt _ _)
theorem stB_succ (s : ByteArray) (k : Nat) : Dig.mixN (stB s k ^^^ blB s k) = stB s (k + 1) := rfl
theorem xor_lt (s : ByteArray) (hs : s.size ≤ maxLen) (k : Nat) : stB s k ^^^ blB s k < 18446744073709551616 := Dig.xor_lt_M (stB_lt s hs k) (Dig.blk8_lt _ _)
theorem sumB_eq (s : ByteArray) : (⟨(Dig.hexK 16 (stB s (s.size / 8 + 1))).toArray⟩ : ByteArray) = sumB s := by
  unfold sumB stB Dig.sumL
  rw [show s.data.toList.length = s.size by simp]
set_option maxHeartbeats 400000 in
theorem sum_any (s : ByteArray) (w : World) (hs : s.size ≤ maxLen) :
   Calls Tryd.prog 55 #[.string s] w fun e w' => e = .returned (.string (sumB s)) ∧ Below w.heap.size w w' := by
  have hs' := hs
  unfold maxLen at hs
  have hst0 := stB_zero s hs'
  go_enter Tryd.func55, Tryd.ntmps55
  go_wp2_with (go_at_call 68; refine (count_any s _ hs').mono ?_; rintro e w' ⟨rfl, rfl⟩)
  go_loopw [5, 16] (fun st i wr => ∃ k : Nat, k ≤ s.size / 8 + 1 ∧ i = .int .i64 k ∧ st = .int .u64 (stB s k : Nat) ∧ Below w.heap.size w wr) (fun _ i _ => s.size / 8 + 1 - (intOf i).toNat)
  case atStart => exact ⟨0, by omega, rfl, rfl, Below.refl _ _⟩
  case round =>
    obtain ⟨k, hk, rfl, rfl, hB⟩ := hrel
    clear hst0
    by_cases hlt : k < s.size / 8 + 1
    · have hmx := stB_step s hs' k
      go_wp2_with fail
      refine (at_any s k _ hs' (by omega)).mono ?_
      rintro e w1 ⟨rfl, hB1⟩
      go_wp2_with fail
      refine (number_any _ _ _).mono ?_
      rintro e w2 ⟨rfl, hB2⟩
      go_wp2_with fail
      refine (mix_any _ (xor_lt s hs' k) _).mono ?_
      rintro e w3 ⟨rfl, rfl⟩
      go_wp2_with fail
      go_roundw
      case rel => exact ⟨k + 1, by omega, by go_num, by rw [stB_succ], (hB.trans (hB1.mono hB.size)).trans (hB2.mono (Nat.le_trans hB.size hB1.size))⟩
      case measure => simp [intOf]; omega
    · obtain rfl : k = s.size / 8 + 1 := by omega
      go_wp2_with fail
      refine (hex_any _ (stB_lt s hs' _) _).mono ?_
      rintro e w1 ⟨rfl, hB1⟩
      go_wp2_with fail
      go_ret
      exact ⟨by rw [← sumB_eq s]; rfl, hB.trans (hB1.mono hB.size)⟩
theorem sumB_size (s : ByteArray) : (sumB s).size = 16 := by
  show (Dig.sumL s.data.toList).toArray.size = 16
  simp [Dig.sumL_length]
end Go.Proofs.YtbiekbppenccdaaDoor
