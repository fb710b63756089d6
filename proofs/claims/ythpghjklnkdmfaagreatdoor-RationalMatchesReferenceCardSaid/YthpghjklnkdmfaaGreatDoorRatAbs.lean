/-
  The reference's Abs: the digits of an integer's absolute value.
-/
import Derived.Test.YthpghjklnkdmfaaGreatDoorRatP
import Derived.Lib.ItoaNum
set_option linter.unusedVariables false
set_option maxRecDepth 100000
namespace Go.Proofs.YthpghjklnkdmfaaGreatDoor
open Go.RowKit
theorem nSn_size (n : Nat) (h : n < 18446744073709551616) : (nS n).size ≤ 20 := (nS_size (by omega)).2 (by omega)
def dlow (n : Nat) : Nat := n % 10
theorem dlow_lt (n : Nat) : dlow n < 10 := Nat.mod_lt _ (by omega)
def dshr (n : Nat) : Nat := n / 10
def ddg (n : Nat) : UInt8 := UInt8.ofNat (48 + dlow n)
theorem decCut (w : World) (k : Nat) : (Instr.slice 9 (.string ⟨#[48, 49, 50, 51, 52, 53, 54, 55, 56, 57]⟩) (some (.int .u64 (dlow k : Nat))) (some (.int .u64 ((dlow k : Nat) + 1))) none).run Tryz.prog w = .ok (.string ⟨#[ddg k]⟩) w := by
  have h := dlow_lt k
  unfold ddg
  generalize dlow k = n at h
  match n, h with
  | 0, _ => rfl
  | 1, _ => rfl
  | 2, _ => rfl
  | 3, _ => rfl
  | 4, _ => rfl
  | 5, _ => rfl
  | 6, _ => rfl
  | 7, _ => rfl
  | 8, _ => rfl
  | 9, _ => rfl
  | n + 10, h => exact absurd h (by omega)
/-- t is the end of n's digits, behind those of m -/
def DecInv (n m : Nat) (t : ByteArray) : Prop := Dec.digs n = (if m = 0 then [] else Dec.digs m) ++ t.data.toList
theorem DecInv.start (n : Nat) : DecInv n (dshr n) ⟨#[ddg n]⟩ := by
  unfold DecInv dshr ddg dlow
  by_cases h : n < 10
  · rw [if_pos (by omega), Dec.digs_small h, Nat.mod_eq_of_lt h]; rfl
  · rw [if_neg (by omega), Dec.digs_big h]
theorem DecInv.step {n m : Nat} {t : ByteArray} (h : DecInv n m t) (hm : m ≠ 0) : DecInv n (dshr m) (⟨#[ddg m]⟩ ++ t) := by
  unfold DecInv at h ⊢
  rw [if_neg hm] at h
  have h1 := DecInv.start m
  unfold DecInv at h1
  rw [h, h1, List.append_assoc]
  congr 1
theorem DecInv.done {n : Nat} {t : ByteArray} (h : DecInv n 0 t) : t = nS n := by
  unfold DecInv at h
  simp at h
  apply ByteArray.ext
  apply Array.ext'
  rw [← h]; rfl
theorem DecInv.size {n m : Nat} {t : ByteArray} (h : DecInv n m t) (hn : n < 18446744073709551616) : t.size ≤ 20 := by
  have h1 := nSn_size n hn
  have h2 : (nS n).size = (Dec.digs n).length := bx_size _
  unfold DecInv at h
  rw [h2, h, List.length_append] at h1
  have : t.data.toList.length = t.size := by simp
  omega
theorem abs_neg_wrap {n : Int} (k : Nat) (h : n = -((k : Int) + 1)) (hk : k < 9223372036854775808) : IntKind.i64.wrap (n + 1) = n + 1 ∧ wrap64 (-(n + 1)) = (k : Int) ∧ IntKind.u64.wrap (k : Int) = (k : Int) ∧ IntKind.u64.wrap ((k : Int) + 1) = ((k + 1 : Nat) : Int) := by
  refine ⟨IntWalk.i64_in _ (by omega), ?_, ?_, ?_⟩
  · have := IntWalk.i64_in (-(n + 1)) (by omega)
    simp only [IntKind.wrap_i64] at this ⊢
    unfold wrap64 at *
    omega
  · exact IntWalk.u64_in _ (by omega)
  · rw [IntWalk.u64_in _ (by omega)]; omega
set_option maxHeartbeats 400000 in
theorem refabs_pos (n : Nat) (w : World) (hn : n < 9223372036854775808) :
   Calls Tryz.prog 33 #[.int .i64 (n : Int)] w fun e w' => e = .returned (.string (nS n)) ∧ w = w' := by
  have t0 : decide ((n : Int) < 0) = false := by simp
  have t1 : IntKind.u64.wrap (n : Int) = (n : Int) := IntWalk.u64_in _ (by omega)
  have e1 : ((n : Nat) : Int) % 10 = (dlow n : Nat) := rfl
  have e2 : ((n : Nat) : Int) / 10 = (dshr n : Nat) := rfl
  have e3 := dlow_lt n
  have e4 := decCut w n
  go_enter Tryz.func33, Tryz.ntmps33
  go_wp2_with fail
  go_loop [3, 4] (fun m t => ∃ (k : Nat) (s : ByteArray), k < 18446744073709551616 ∧ m = .int .u64 k ∧ t = .string s ∧ DecInv n k s) (fun m _ => (intOf m).toNat)
  case atStart => exact ⟨dshr n, _, by unfold dshr; omega, rfl, rfl, DecInv.start n⟩
  case round =>
    obtain ⟨k, s, hk, rfl, rfl, hinv⟩ := hrel
    clear e1 e2 e3 e4
    by_cases hk0 : 0 < k
    · have e1 : ((k : Nat) : Int) % 10 = (dlow k : Nat) := rfl
      have e2 : ((k : Nat) : Int) / 10 = (dshr k : Nat) := rfl
      have e3 := dlow_lt k
      have e4 := decCut w k
      have e5 := hinv.size (by omega)
      go_wp2_with fail
      go_round
      case rel => exact ⟨dshr k, _, by unfold dshr; omega, rfl, rfl, hinv.step (by omega)⟩
      case measure => simp [intOf, dshr]; omega
    · obtain rfl : k = 0 := by omega
      go_wp2_with fail
      go_ret
      exact ⟨by rw [← hinv.done]; rfl, rfl⟩
set_option maxHeartbeats 400000 in
theorem refabs_neg (n : Int) (k : Nat) (w : World) (hn : n = -((k : Int) + 1)) (hk : k < 9223372036854775808) :
   Calls Tryz.prog 33 #[.int .i64 n] w fun e w' => e = .returned (.string (nS (k + 1))) ∧ w = w' := by
  obtain ⟨m, hm⟩ : ∃ m, m = k + 1 := ⟨_, rfl⟩
  obtain ⟨t1, t2, t3, t4⟩ := abs_neg_wrap k hn hk
  have t0 : decide (n < 0) = true := decide_eq_true (by omega)
  rw [← hm] at t4 ⊢
  have hm2 : m < 18446744073709551616 := by omega
  have e1 : ((m : Nat) : Int) % 10 = (dlow m : Nat) := rfl
  have e2 : ((m : Nat) : Int) / 10 = (dshr m : Nat) := rfl
  have e3 := dlow_lt m
  have e4 := decCut w m
  clear hn hk hm
  go_enter Tryz.func33, Tryz.ntmps33
  go_wp2_with fail
  go_loop [3, 4] (fun m' t => ∃ (k : Nat) (s : ByteArray), k < 18446744073709551616 ∧ m' = .int .u64 k ∧ t = .string s ∧ DecInv m k s) (fun m' _ => (intOf m').toNat)
  case atStart => exact ⟨dshr m, _, by unfold dshr; omega, rfl, rfl, DecInv.start m⟩
  case round =>
    obtain ⟨k, s, hk, rfl, rfl, hinv⟩ := hrel
    clear e1 e2 e3 e4 t0 t1 t2 t3 t4
    by_cases hk0 : 0 < k
    · have e1 : ((k : Nat) : Int) % 10 = (dlow k : Nat) := rfl
      have e2 : ((k : Nat) : Int) / 10 = (dshr k : Nat) := rfl
      have e3 := dlow_lt k
      have e4 := decCut w k
      have e5 := hinv.size hm2
      go_wp2_with fail
      go_round
      case rel => exact ⟨dshr k, _, by unfold dshr; omega, rfl, rfl, hinv.step (by omega)⟩
      case measure => simp [intOf, dshr]; omega
    · obtain rfl : k = 0 := by omega
      go_wp2_with fail
      go_ret
      exact ⟨by rw [← hinv.done]; rfl, rfl⟩
theorem refabs_any (n : Int) (w : World) (hn : -9223372036854775808 ≤ n ∧ n ≤ 9223372036854775807) :
   Calls Tryz.prog 33 #[.int .i64 n] w fun e w' => e = .returned (.string (nS n.natAbs)) ∧ w = w' := by
  rcases Int.lt_or_le n 0 with h | h
  · have := refabs_neg n (n.natAbs - 1) w (by omega) (by omega)
    rwa [show n.natAbs - 1 + 1 = n.natAbs by omega] at this
  · obtain ⟨m, rfl⟩ := Int.eq_ofNat_of_zero_le h
    exact refabs_pos m w (by omega)
end Go.Proofs.YthpghjklnkdmfaaGreatDoor
