/-
  The contracts of the reference Digit and Is: for every byte and every text.
-/
import Derived.Test.YtbiekbppenccdaaDoorDigIs
namespace Go.Proofs.YtbiekbppenccdaaDoor
open Go.RowKit
def digV (c : Nat) : Int := if 48 ≤ c ∧ c ≤ 57 then (c : Int) - 48 else if 97 ≤ c ∧ c ≤ 102 then (c : Int) - 97 + 10 else -1
theorem digV_neg (c : Nat) (hc : c < 256) : decide (digV c < 0) = !isHex c := by
  unfold digV isHex
  split
  · have : ¬ ((c : Int) - 48 < 0) := by omega
    simp [this]; omega
  · split
    · have : ¬ ((c : Int) - 97 + 10 < 0) := by omega
      simp [this]; omega
    · simp; omega
set_option maxHeartbeats 400000 in
theorem digit_any (c : Nat) (hc : c < 256) (w : World) :
   Calls Tryd.prog 63 #[.int .u8 (c : Int)] w fun e w' => e = .returned (.int .i64 (digV c)) ∧ w = w' := by
  have hw : ∀ x, digV c = x → Ending.returned (Value.int .i64 x) = .returned (.int .i64 (digV c)) := by intro x h; rw [h]
  have HW := Lib.hid hw
  clear hw
  by_cases h1 : 48 ≤ c
  · by_cases h2 : c ≤ 57
    · go_enter Tryd.func63, Tryd.ntmps63
      go_wp2
      go_ret
      exact ⟨HW.out _ (by unfold digV; rw [if_pos ⟨h1, h2⟩]), rfl⟩
    · by_cases h3 : 97 ≤ c
      · by_cases h4 : c ≤ 102
        · go_enter Tryd.func63, Tryd.ntmps63
          go_wp2
          go_ret
          exact ⟨HW.out _ (by unfold digV; rw [if_neg (by omega), if_pos ⟨h3, h4⟩]), rfl⟩
        · go_enter Tryd.func63, Tryd.ntmps63
          go_wp2
          go_ret
          exact ⟨HW.out _ (by unfold digV; rw [if_neg (by omega), if_neg (by omega)]), rfl⟩
      · go_enter Tryd.func63, Tryd.ntmps63
        go_wp2
        go_ret
        exact ⟨HW.out _ (by unfold digV; rw [if_neg (by omega), if_neg (by omega)]), rfl⟩
  · go_enter Tryd.func63, Tryd.ntmps63
    go_wp2
    go_ret
    exact ⟨HW.out _ (by unfold digV; rw [if_neg (by omega), if_neg (by omega)]), rfl⟩
theorem beq16 (n : Nat) : ((n : Int) == 16) = decide (n = 16) := by
  by_cases h : n = 16
  · subst h; rfl
  · simp [h]; omega
/-- the first bytes, but no more than 16, are digits -/
theorem isB_no' (s : ByteArray) (k : Nat) (hk : k < 16) (hs : k < s.size) (h : isHex (s[k]).toNat = false) : isB s = false := by
  by_cases h16 : s.size = 16
  · exact isB_no s h16 k hk h
  · simp [isB, h16]
set_option maxHeartbeats 400000 in
theorem refis_any (s : ByteArray) (w : World) (hs : s.size ≤ maxLen) :
   Calls Tryd.prog 45 #[.string s] w fun e w' => e = .returned (.bool (isB s)) ∧ w = w' := by
  unfold maxLen at hs
  go_enter Tryd.func45, Tryd.ntmps45
  go_wp2_with fail
  go_loop [3] (fun i => ∃ k : Nat, k ≤ 16 ∧ k ≤ s.size ∧ i = .int .i64 k ∧ Hid (hexTo s k = true)) (fun i => 16 - (intOf i).toNat)
  case atStart => exact ⟨0, by omega, by omega, rfl, (show _ = _ from rfl)⟩
  case round =>
    obtain ⟨k, hk, hk2, rfl, hx⟩ := hrel
    by_cases hlt : k < s.size
    · by_cases hlt2 : k < 16
      · go_wp2_with fail
        refine (digit_any _ (s[k]).toNat_lt _).mono ?_
        rintro e w' ⟨rfl, rfl⟩
        by_cases hh : isHex (s[k]).toNat = true
        · have hd : decide (digV (s[k]).toNat < 0) = false := by rw [digV_neg _ (s[k]).toNat_lt, hh]; rfl
          go_wp2_with fail
          go_round
          case rel =>
            refine ⟨k + 1, by omega, by omega, by go_num, (show _ = _ from ?_)⟩
            simp only [hexTo, hx.out, Bool.true_and]
            rw [Dig.byteAt_in (by simp; omega)]
            exact hh
          case measure => simp [intOf]; omega
        · have hh' : isHex (s[k]).toNat = false := by simpa using hh
          have hd : decide (digV (s[k]).toNat < 0) = true := by rw [digV_neg _ (s[k]).toNat_lt, hh']; rfl
          go_wp2_with fail
          go_ret
          exact ⟨by rw [isB_no' s k hlt2 hlt hh']; rfl, rfl⟩
      · have hb : isB s = decide (s.size = 16) := by
          obtain rfl : k = 16 := by omega
          simp [isB, hx.out]
        have HB := Lib.hid hb
        clear hb
        go_wp2_with fail
        go_ret
        refine ⟨?_, rfl⟩
        rw [HB.out, ← beq16]; rfl
    · have hb : isB s = decide (s.size = 16) := by
        obtain rfl : k = s.size := by omega
        by_cases e : s.size = 16
        · simp [isB, e]; rw [e] at hx; exact hx.out
        · simp [isB, e]
      have HB := Lib.hid hb
      clear hb
      go_wp2_with fail
      go_ret
      refine ⟨?_, rfl⟩
      rw [HB.out, ← beq16]; rfl
end Go.Proofs.YtbiekbppenccdaaDoor
