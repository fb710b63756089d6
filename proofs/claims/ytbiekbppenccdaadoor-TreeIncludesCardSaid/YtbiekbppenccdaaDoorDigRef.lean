/-
  The contract of the reference Sum: for every text of at most 2^47 bytes the same digest.
-/
import Derived.Test.YtbiekbppenccdaaDoorDigSum
import Derived.WalkLawsBesides
import Derived.WalkSpells
namespace Go.Proofs.YtbiekbppenccdaaDoor
open Go.RowKit
def bkB (s : ByteArray) (k j : Nat) : Nat := Dig.blkN s.data.toList (8 * k) j
theorem bkB_lt (s : ByteArray) (k j : Nat) (h : j < 8) : bkB s k j < 72057594037927936 := by
  have h1 : bkB s k j < 256 ^ j := Dig.blkN_lt s.data.toList (8 * k) j
  have h2 : 256 ^ j ≤ 256 ^ 7 := Nat.pow_le_pow_right (n := 256) (Nat.le_of_ble_eq_true rfl) (Nat.le_of_lt_succ h)
  exact Nat.lt_of_lt_of_le h1 h2
theorem bkB_out (s : ByteArray) (k j : Nat) (h : s.size ≤ 8 * k + j) : bkB s k (j + 1) = bkB s k j * 256 := by
  unfold bkB
  rw [Dig.blkN, Dig.byteAt_out (by simpa using h), Nat.add_zero]
theorem bkB_in (s : ByteArray) (k j : Nat) (h : 8 * k + j < s.size) : bkB s k (j + 1) = bkB s k j * 256 + (s[8 * k + j]).toNat := by
  unfold bkB
  rw [Dig.blkN, Dig.byteAt_in (by simpa using h)]; rfl
theorem hexCut (w : World) (k x : Nat) : (Instr.slice 9 (.string ⟨#[48, 49, 50, 51, 52, 53, 54, 55, 56, 57, 97, 98, 99, 100, 101, 102]⟩) (some (.int .u64 (low k x : Nat))) (some (.int .u64 ((low k x : Nat) + 1))) none).run Tryd.prog w = .ok (.string ⟨#[Dig.dg (low k x)]⟩) w := by
  have h := low_lt k x
  generalize low k x = n at h
  match n, h with
  | 0, _ => rfl
  | 1, _ => rfl
  | 2, _ => rfl
  | 3, _ => rfl
  | 4, _ => rfl
  | 5, _ => rfl
  | 6, _ => rfl
  | 7, _ => rfl
  | 8, _ => rfl
  | 9, _ => rfl
  | 10, _ => rfl
  | 11, _ => rfl
  | 12, _ => rfl
  | 13, _ => rfl
  | 14, _ => rfl
  | 15, _ => rfl
  | n + 16, h => exact absurd h (by omega)
def hexB (k x : Nat) : ByteArray := ⟨(Dig.hexK k x).toArray⟩
theorem hexB_size (k x : Nat) : (hexB k x).size ≤ k := by
  have : (hexB k x).size = (Dig.hexK k x).length := by show (Dig.hexK k x).toArray.size = _; simp
  rw [this, Dig.hexK_length]; exact Nat.le_refl _
theorem hexB_succ (k x : Nat) : (⟨#[Dig.dg (low k x)]⟩ : ByteArray) ++ hexB k x = hexB (k + 1) x := by
  unfold hexB
  rw [Dig.hexK_front]
  apply ByteArray.ext
  simp [low, sh]
set_option maxRecDepth 100000 in
set_option maxHeartbeats 1000000 in
theorem refsum_any (s : ByteArray) (w : World) (hs : s.size ≤ 140737488355328) :
   Calls Tryd.prog 52 #[.string s] w fun e w' => e = .returned (.string (sumB s)) ∧ w = w' := by
  have hs' : s.size ≤ maxLen := by unfold maxLen; omega
  have hst0 := stB_zero s hs'
  go_enter Tryd.func52, Tryd.ntmps52
  go_wp2_with fail
  go_loop [3, 4] (fun st i => ∃ k : Nat, k ≤ s.size / 8 + 1 ∧ i = .int .i64 (8 * k : Int) ∧ st = .int .u64 (stB s k : Nat)) (fun _ i => s.size + 8 - (intOf i).toNat)
  case atStart => exact ⟨0, by omega, rfl, rfl⟩
  case round =>
    obtain ⟨k, hk, rfl, rfl⟩ := hrel
    clear hst0
    by_cases hlt : k < s.size / 8 + 1
    · have hmx := stB_step s hs' k
      go_wp2_with fail
      go_loop [5, 6] (fun bl i => ∃ j : Nat, j ≤ 8 ∧ i = .int .i64 (8 * k + j : Int) ∧ bl = .int .u64 (bkB s k j : Nat)) (fun _ i => 8 * k + 8 - (intOf i).toNat)
      case atStart => exact ⟨0, by omega, by simp, rfl⟩
      case round =>
        obtain ⟨j, hj, rfl, rfl⟩ := hrel
        by_cases hjlt : j < 8
        · have hlo := bkB_lt s k j hjlt
          by_cases hin : 8 * k + j < s.size
          · have hbyte := (s[8 * k + j]).toNat_lt
            have hb1 := bkB_in s k j hin
            have HB := Lib.hid hb1
            clear hb1
            go_wp2_with fail
            go_round
            case rel => exact ⟨j + 1, by omega, by go_num, by rw [HB.out]; go_num⟩
            case measure => simp [intOf]; omega
          · have hb1 := bkB_out s k j (by omega)
            have HB := Lib.hid hb1
            clear hb1
            go_wp2_with fail
            go_round
            case rel => exact ⟨j + 1, by omega, by go_num, by rw [HB.out]; go_num⟩
            case measure => simp [intOf]; omega
        · obtain rfl : j = 8 := by omega
          have hmx2 : bits .xor .u64 (stB s k : Nat) (bkB s k 8 : Nat) = (stB s k ^^^ blB s k : Nat) := hmx
          clear hmx
          go_wp2_with fail
          refine (refmix_any _ (xor_lt s hs' k) _).mono ?_
          rintro e w3 ⟨rfl, rfl⟩
          go_wp2_with fail
          go_round
          case rel => exact ⟨k + 1, by omega, by go_num, by rw [stB_succ]⟩
          case measure => simp [intOf]; omega
    · obtain rfl : k = s.size / 8 + 1 := by omega
      have hxl := stB_lt s hs' (s.size / 8 + 1)
      obtain ⟨x, hx⟩ : ∃ x, x = stB s (s.size / 8 + 1) := ⟨_, rfl⟩
      rw [← hx] at hxl ⊢
      have HX := Lib.hid hx
      clear hx
      go_wp2_with fail
      go_loop [3, 7, 8] (fun st t i => ∃ j : Nat, j ≤ 16 ∧ i = .int .i64 (j : Int) ∧ st = .int .u64 (sh j x : Nat) ∧ t = .string (hexB j x)) (fun _ _ i => 16 - (intOf i).toNat)
      case atStart => exact ⟨0, by omega, rfl, by simp [sh], rfl⟩
      case round =>
        obtain ⟨j, hj, rfl, rfl, rfl⟩ := hrel
        by_cases hjlt : j < 16
        · have e1 : ((sh j x : Nat) : Int) % 16 = (low j x : Nat) := rfl
          have e2 := low_lt j x
          have e3 := hexCut w j x
          have e4 := sh_lt j x hxl
          have e5 := hexB_size j x
          go_wp2_with fail
          go_round
          case rel => exact ⟨j + 1, by omega, by go_num, by rw [sh_succ], by rw [hexB_succ]⟩
          case measure => simp [intOf]; omega
        · obtain rfl : j = 16 := by omega
          go_wp2_with fail
          go_ret
          exact ⟨by rw [← sumB_eq s, HX.out]; rfl, rfl⟩
end Go.Proofs.YtbiekbppenccdaaDoor
