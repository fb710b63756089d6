/-
  The contracts of digest.Chain and of the reference Chain: for every text of at most 2^47 bytes and every int the digest applied min(n, 1000) times.
-/
import Derived.Test.YtbkhcmpmhnnhcaaDoorDigRef
set_option linter.unusedVariables false
namespace Go.Proofs.YtbkhcmpmhnnhcaaDoor
open Go.RowKit
def chB (s : ByteArray) : Nat → ByteArray
  | 0 => s
  | k + 1 => sumB (chB s k)
theorem sumB_size (s : ByteArray) : (sumB s).size = 16 := by
  show (Dig.sumL s.data.toList).toArray.size = 16
  simp [Dig.sumL_length]
theorem chB_size (s : ByteArray) (hs : s.size ≤ 140737488355328) (k : Nat) : (chB s k).size ≤ 140737488355328 := by
  cases k with
  | zero => exact hs
  | succ k => rw [chB, sumB_size]; omega
set_option maxHeartbeats 400000 in
theorem chain_le (s : ByteArray) (n : Int) (w : World) (hs : s.size ≤ 140737488355328) (h0 : -9223372036854775808 ≤ n) (h1 : n ≤ 9223372036854775807) (h : n ≤ 1000) :
   Calls Tryd.prog 16 #[.string s, .int .i64 n] w fun e w' => e = .returned (.string (chB s n.toNat)) ∧ Below w.heap.size w w' := by
  go_enter Tryd.func16, Tryd.ntmps16
  go_wp2_with fail
  go_loopw [0, 7] (fun t i wr => ∃ k : Nat, k ≤ n.toNat ∧ i = .int .i64 k ∧ t = .string (chB s k) ∧ Below w.heap.size w wr) (fun _ i _ => n.toNat - (intOf i).toNat)
  case atStart => exact ⟨0, by omega, rfl, rfl, Below.refl _ _⟩
  case round =>
    obtain ⟨k, hk, rfl, rfl, hB⟩ := hrel
    have hk2 := chB_size s hs k
    by_cases hlt : k < n.toNat
    · have hlt2 : (k : Int) < n := by omega
      go_wp2_with fail
      refine (sum_any _ _ (by unfold maxLen; omega)).mono ?_
      rintro e w1 ⟨rfl, hB1⟩
      go_wp2_with fail
      go_roundw
      case rel => exact ⟨k + 1, by omega, by go_num, rfl, hB.trans (hB1.mono hB.size)⟩
      case measure => simp [intOf]; omega
    · obtain rfl : k = n.toNat := by omega
      have hlt2 : ¬ ((n.toNat : Nat) : Int) < n := by omega
      go_wp2_with fail
      go_ret
      exact ⟨rfl, hB⟩
set_option maxHeartbeats 400000 in
theorem chain_gt (s : ByteArray) (n : Int) (w : World) (hs : s.size ≤ 140737488355328) (h0 : -9223372036854775808 ≤ n) (h1 : n ≤ 9223372036854775807) (h : 1000 < n) :
   Calls Tryd.prog 16 #[.string s, .int .i64 n] w fun e w' => e = .returned (.string (chB s 1000)) ∧ Below w.heap.size w w' := by
  go_enter Tryd.func16, Tryd.ntmps16
  go_wp2_with fail
  go_loopw [0, 7] (fun t i wr => ∃ k : Nat, k ≤ 1000 ∧ i = .int .i64 k ∧ t = .string (chB s k) ∧ Below w.heap.size w wr) (fun _ i _ => 1000 - (intOf i).toNat)
  case atStart => exact ⟨0, by omega, rfl, rfl, Below.refl _ _⟩
  case round =>
    obtain ⟨k, hk, rfl, rfl, hB⟩ := hrel
    have hk2 := chB_size s hs k
    by_cases hlt : k < 1000
    · have hlt2 : (k : Int) < 1000 := by omega
      go_wp2_with fail
      refine (sum_any _ _ (by unfold maxLen; omega)).mono ?_
      rintro e w1 ⟨rfl, hB1⟩
      go_wp2_with fail
      go_roundw
      case rel => exact ⟨k + 1, by omega, by go_num, rfl, hB.trans (hB1.mono hB.size)⟩
      case measure => simp [intOf]; omega
    · obtain rfl : k = 1000 := by omega
      have hlt2 : ¬ ((1000 : Nat) : Int) < 1000 := by omega
      go_wp2_with fail
      go_ret
      exact ⟨rfl, hB⟩
set_option maxHeartbeats 400000 in
theorem refchain_le (s : ByteArray) (n : Int) (w : World) (hs : s.size ≤ 140737488355328) (h0 : -9223372036854775808 ≤ n) (h1 : n ≤ 9223372036854775807) (h : n ≤ 1000) :
   Calls Tryd.prog 17 #[.string s, .int .i64 n] w fun e w' => e = .returned (.string (chB s n.toNat)) ∧ w = w' := by
  go_enter Tryd.func17, Tryd.ntmps17
  go_wp2_with fail
  go_loop [0, 5] (fun t i => ∃ k : Nat, k ≤ n.toNat ∧ i = .int .i64 k ∧ t = .string (chB s k)) (fun _ i => n.toNat - (intOf i).toNat)
  case atStart => exact ⟨0, by omega, rfl, rfl⟩
  case round =>
    obtain ⟨k, hk, rfl, rfl⟩ := hrel
    have hk2 := chB_size s hs k
    by_cases hlt : k < n.toNat
    · have hlt2 : (k : Int) < n := by omega
      go_wp2_with fail
      refine (refsum_any _ _ hk2).mono ?_
      rintro e w1 ⟨rfl, rfl⟩
      go_wp2_with fail
      go_round
      case rel => exact ⟨k + 1, by omega, by go_num, rfl⟩
      case measure => simp [intOf]; omega
    · obtain rfl : k = n.toNat := by omega
      have hlt2 : ¬ ((n.toNat : Nat) : Int) < n := by omega
      go_wp2_with fail
      go_ret
      exact ⟨rfl, rfl⟩
set_option maxHeartbeats 400000 in
theorem refchain_gt (s : ByteArray) (n : Int) (w : World) (hs : s.size ≤ 140737488355328) (h0 : -9223372036854775808 ≤ n) (h1 : n ≤ 9223372036854775807) (h : 1000 < n) :
   Calls Tryd.prog 17 #[.string s, .int .i64 n] w fun e w' => e = .returned (.string (chB s 1000)) ∧ w = w' := by
  go_enter Tryd.func17, Tryd.ntmps17
  go_wp2_with fail
  go_loop [0, 5] (fun t i => ∃ k : Nat, k ≤ 1000 ∧ i = .int .i64 k ∧ t = .string (chB s k)) (fun _ i => 1000 - (intOf i).toNat)
  case atStart => exact ⟨0, by omega, rfl, rfl⟩
  case round =>
    obtain ⟨k, hk, rfl, rfl⟩ := hrel
    have hk2 := chB_size s hs k
    by_cases hlt : k < 1000
    · have hlt2 : (k : Int) < 1000 := by omega
      go_wp2_with fail
      refine (refsum_any _ _ hk2).mono ?_
      rintro e w1 ⟨rfl, rfl⟩
      go_wp2_with fail
      go_round
      case rel => exact ⟨k + 1, by omega, by go_num, rfl⟩
      case measure => simp [intOf]; omega
    · obtain rfl : k = 1000 := by omega
      have hlt2 : ¬ ((1000 : Nat) : Int) < 1000 := by omega
      go_wp2_with fail
      go_ret
      exact ⟨rfl, rfl⟩
theorem chain_any (s : ByteArray) (n : Int) (w : World) (hs : s.size ≤ 140737488355328) (h0 : -9223372036854775808 ≤ n) (h1 : n ≤ 9223372036854775807) :
   Calls Tryd.prog 16 #[.string s, .int .i64 n] w fun e w' => e = .returned (.string (chB s (min n 1000).toNat)) ∧ Below w.heap.size w w' := by
  by_cases h : n ≤ 1000
  · rw [show min n 1000 = n by omega]; exact chain_le s n w hs h0 h1 h
  · rw [show min n 1000 = 1000 by omega]; exact chain_gt s n w hs h0 h1 (by omega)
theorem refchain_any (s : ByteArray) (n : Int) (w : World) (hs : s.size ≤ 140737488355328) (h0 : -9223372036854775808 ≤ n) (h1 : n ≤ 9223372036854775807) :
   Calls Tryd.prog 17 #[.string s, .int .i64 n] w fun e w' => e = .returned (.string (chB s (min n 1000).toNat)) ∧ w = w' := by
  by_cases h : n ≤ 1000
  · rw [show min n 1000 = n by omega]; exact refchain_le s n w hs h0 h1 h
  · rw [show min n 1000 = 1000 by omega]; exact refchain_gt s n w hs h0 h1 (by omega)
end Go.Proofs.YtbkhcmpmhnnhcaaDoor
