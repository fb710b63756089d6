/-
  The contract of digest.Is: for every text, whether it is a digest.
-/
import Derived.Test.YtbiekbppenccdaaDoorDigRef
import Derived.Test.YtbiekbppenccdaaDoorShelf
import Derived.Lib.Bytealg
import Derived.BigQuiet
import Derived.Deep.QuietTactic
namespace Go.Proofs.YtbiekbppenccdaaDoor
open Go.RowKit
/-- a hexadecimal digit's byte -/
def isHex (b : Nat) : Bool := decide ((48 ≤ b ∧ b ≤ 57) ∨ (97 ≤ b ∧ b ≤ 102))
/-- the first k bytes are hexadecimal digits -/
def hexTo (s : ByteArray) : Nat → Bool
  | 0 => true
  | k + 1 => hexTo s k && isHex (Dig.byteAt s.data.toList k)
def isB (s : ByteArray) : Bool := decide (s.size = 16) && hexTo s 16
def hexAt (b : UInt8) : Int := Lib.indexByte [48, 49, 50, 51, 52, 53, 54, 55, 56, 57, 97, 98, 99, 100, 101, 102] b
theorem idx_all : ∀ n : Fin 256, (decide (hexAt (UInt8.ofNat n.val) < 0) = !isHex n.val) := by decide +kernel
theorem idx_hex (b : UInt8) : decide (hexAt b < 0) = !isHex b.toNat := by
  have h := idx_all ⟨b.toNat, b.toNat_lt⟩
  simpa using h
theorem hexTo_mono (s : ByteArray) {j k : Nat} (hjk : j ≤ k) (h : hexTo s k = true) : hexTo s j = true := by
  induction k with
  | zero => obtain rfl : j = 0 := by omega
            exact h
  | succ k ih =>
    by_cases e : j = k + 1
    · subst e; exact h
    · simp only [hexTo, Bool.and_eq_true] at h
      exact ih (by omega) h.1
theorem isB_no (s : ByteArray) (h16 : s.size = 16) (k : Nat) (hk : k < 16) (h : isHex (s[k]).toNat = false) : isB s = false := by
  unfold isB
  by_cases hx : hexTo s 16 = true
  · have := hexTo_mono s (j := k + 1) (by omega) hx
    simp only [hexTo, Bool.and_eq_true] at this
    rw [Dig.byteAt_in (by simp; omega)] at this
    have h2 := this.2
    rw [show s.data.toList[k]'(by simp; omega) = s[k] from rfl, h] at h2
    exact absurd h2 (by simp)
  · simp at hx; simp [hx]
theorem indexHex_any (c : UInt8) (w : World) : Calls Tryd.prog 61 #[.string ⟨#[48, 49, 50, 51, 52, 53, 54, 55, 56, 57, 97, 98, 99, 100, 101, 102]⟩, .int .u8 (c.toNat : Int)] w fun e w' => e = .returned (.int .i64 (hexAt c)) ∧ w = w' := by
  refine (Tryd.strings_IndexByte _ _ w).mono ?_
  rintro e w' ⟨rfl, rfl⟩
  refine ⟨?_, rfl⟩
  rw [show ((c.toNat : Int)).toNat.toUInt8 = c from by simp]
  rfl
set_option maxHeartbeats 400000 in
theorem is_any (s : ByteArray) (w : World) (hs : s.size ≤ maxLen) :
   Calls Tryd.prog 41 #[.string s] w fun e w' => e = .returned (.bool (isB s)) ∧ w = w' := by
  unfold maxLen at hs
  by_cases h16 : s.size = 16
  · have t16 : ((s.size : Int) != 16) = false := by simp [h16]
    have h16' := Lib.hid h16
    have hle : 16 ≤ s.size := by omega
    clear h16
    go_enter Tryd.func41, Tryd.ntmps41
    go_wp2_with fail
    go_loop [7] (fun i => ∃ k : Nat, k ≤ 16 ∧ i = .int .i64 k ∧ Hid (hexTo s k = true)) (fun i => 16 - (intOf i).toNat)
    case atStart => exact ⟨0, by omega, rfl, (show _ = _ from rfl)⟩
    case round =>
      obtain ⟨k, hk, rfl, hx⟩ := hrel
      by_cases hlt : k < 16
      · go_wp2_with fail
        refine (indexHex_any _ _).mono ?_
        rintro e w' ⟨rfl, rfl⟩
        by_cases hh : isHex (s[k]).toNat = true
        · have hd : decide (hexAt s[k] < 0) = false := by rw [idx_hex, hh]; rfl
          go_wp2_with fail
          go_round
          case rel =>
            refine ⟨k + 1, by omega, by go_num, (show _ = _ from ?_)⟩
            simp only [hexTo, hx.out, Bool.true_and]
            rw [Dig.byteAt_in (by simp; omega)]
            exact hh
          case measure => simp [intOf]; omega
        · have hh' : isHex (s[k]).toNat = false := by simpa using hh
          have hd : decide (hexAt s[k] < 0) = true := by rw [idx_hex, hh']; rfl
          go_wp2_with fail
          go_ret
          exact ⟨by rw [isB_no s h16'.out k hlt hh']; rfl, rfl⟩
      · obtain rfl : k = 16 := by omega
        have hb : isB s = true := by simp [isB, h16'.out, hx.out]
        have HB := Lib.hid hb
        clear hb
        go_wp2_with fail
        go_ret
        exact ⟨by rw [HB.out]; rfl, rfl⟩
  · have t16 : ((s.size : Int) != 16) = true := by simp; omega
    have hb : isB s = false := by simp [isB, h16]
    have HB := Lib.hid hb
    clear hb
    go_enter Tryd.func41, Tryd.ntmps41
    go_wp2_with fail
    go_ret
    exact ⟨by rw [HB.out]; rfl, rfl⟩
end Go.Proofs.YtbiekbppenccdaaDoor
