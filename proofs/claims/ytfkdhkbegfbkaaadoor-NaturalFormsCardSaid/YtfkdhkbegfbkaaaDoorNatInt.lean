/-
  The reference's Int and Few of layer 3.
-/
import Derived.Test.YtfkdhkbegfbkaaaDoorNatOf
set_option linter.unusedVariables false
set_option maxRecDepth 100000
namespace Go.Proofs.YtfkdhkbegfbkaaaDoor
open Go.RowKit
/-- what Int answers -/
def intR (a : ByteArray) : Int × Int := if validB a then (if 1000000000000 < Dec.val (tl a) then (0, 9) else ((Dec.val (tl a) : Nat), 0)) else (0, 1)
def bigT : List UInt8 := [49, 48, 48, 48, 48, 48, 48, 48, 48, 48, 48, 48, 48]
theorem big_norm : Dec.Norm bigT := ⟨by decide, (show ∀ b ∈ bigT, Dec.isD b = true from by decide), by decide⟩
theorem big_val : Dec.val bigT = 1000000000000 := by decide
theorem big_tl : tl ⟨#[49, 48, 48, 48, 48, 48, 48, 48, 48, 48, 48, 48, 48]⟩ = bigT := rfl
theorem refless_big (a : ByteArray) (w : World) (ha : validB a = true) :
    Calls Tryd.prog 37 #[.string ⟨#[49, 48, 48, 48, 48, 48, 48, 48, 48, 48, 48, 48, 48]⟩, .string a] w fun e w' => e = .returned (.bool (decide (1000000000000 < Dec.val (tl a)))) ∧ w = w' := by
  have := refless_any ⟨#[49, 48, 48, 48, 48, 48, 48, 48, 48, 48, 48, 48, 48]⟩ a w
  rw [big_tl, Dec.lessL_val big_norm (valid_norm ha), big_val] at this
  exact this
theorem refInt_bad (a : ByteArray) (w : World) (ha : validB a = false) :
    Calls Tryd.prog 26 #[.string a] w fun e w' => e = .returned (.tuple #[.int .i64 0, .int .i64 1]) ∧ w = w' := by
  have HA := Lib.hid ha
  clear ha
  go_enter Tryd.func26, Tryd.ntmps26
  go_wp2_with fail
  refine (refvalid_any a _).mono ?_
  rintro e w1 ⟨rfl, rfl⟩
  rw [HA.out]
  go_wp2_with fail
  go_ret2
  exact ⟨rfl, rfl⟩
theorem refInt_big (a : ByteArray) (w : World) (ha : validB a = true) (h : 1000000000000 < Dec.val (tl a)) :
    Calls Tryd.prog 26 #[.string a] w fun e w' => e = .returned (.tuple #[.int .i64 0, .int .i64 9]) ∧ w = w' := by
  have HA := Lib.hid ha
  have H := Lib.hid (decide_eq_true h)
  clear ha h
  go_enter Tryd.func26, Tryd.ntmps26
  go_wp2_with fail
  refine (refvalid_any a _).mono ?_
  rintro e w1 ⟨rfl, rfl⟩
  rw [HA.out]
  go_wp2_with fail
  refine (refless_big a _ HA.out).mono ?_
  rintro e w1 ⟨rfl, rfl⟩
  rw [H.out]
  go_wp2_with fail
  go_ret2
  exact ⟨rfl, rfl⟩
theorem val_take_le (l : List UInt8) (k : Nat) : Dec.val (l.take k) ≤ Dec.val l := by
  have h := Dec.val_append (l.take k) (l.drop k)
  rw [List.take_append_drop] at h
  have : 1 ≤ 10 ^ (l.drop k).length := Nat.pow_pos (by omega)
  have h2 : Dec.val (l.take k) * 1 ≤ Dec.val (l.take k) * 10 ^ (l.drop k).length := Nat.mul_le_mul_left _ this
  omega
set_option maxHeartbeats 1000000 in
theorem refInt_ok (a : ByteArray) (w : World) (ha : validB a = true) (h : ¬ 1000000000000 < Dec.val (tl a)) :
    Calls Tryd.prog 26 #[.string a] w fun e w' => e = .returned (.tuple #[.int .i64 (Dec.val (tl a) : Nat), .int .i64 0]) ∧ w = w' := by
  have HA := Lib.hid ha
  have H := Lib.hid (decide_eq_false h)
  have HLE := Lib.hid h
  have SA := valid_size ha
  have HN := Lib.hid (valid_norm ha).all
  clear ha h
  go_enter Tryd.func26, Tryd.ntmps26
  go_wp2_with fail
  refine (refvalid_any a _).mono ?_
  rintro e w1 ⟨rfl, rfl⟩
  rw [HA.out]
  go_wp2_with fail
  refine (refless_big a _ HA.out).mono ?_
  rintro e w1 ⟨rfl, rfl⟩
  rw [H.out]
  go_wp2_with fail
  go_loop [4, 5] (fun nv iv => ∃ k n : Nat, k ≤ a.size ∧ iv = .int .i64 (k : Int) ∧ nv = .int .i64 (n : Int) ∧ Hid (n = Dec.val ((tl a).take k)) ∧ n ≤ 1000000000000) (fun _ iv => a.size - (intOf iv).toNat)
  case atStart => exact ⟨0, 0, by omega, rfl, rfl, Lib.hid (by rw [List.take_zero]; rfl), by omega⟩
  case round =>
    obtain ⟨k, n, hk, rfl, rfl, hn, hb⟩ := hrel
    by_cases hlt : k < a.size
    · have htk : Dec.val ((tl a).take (k + 1)) = n * 10 + Dec.dv a[k] := by
        rw [List.take_succ_eq_append_getElem (by rw [tl_length]; exact hlt), tl_get a k hlt, Dec.val_snoc, hn.out]
      have hle := val_take_le (tl a) (k + 1)
      have hd := Dec.isD_iff a[k] |>.1 (HN.out _ (by rw [← tl_get a k hlt]; exact List.getElem_mem _))
      have hdv : (Dec.dv a[k] : Int) = (a[k].toNat : Int) - 48 := by unfold Dec.dv; omega
      have hbig := HLE.out
      have hnb : n * 10 + Dec.dv a[k] ≤ 1000000000000 := by omega
      have i1 : IntKind.i64.wrap (10 * (n : Int)) = 10 * (n : Int) := IntWalk.i64_in _ (by omega)
      have i2 : IntKind.i64.wrap (10 * (n : Int) + ((a[k].toNat : Int) - 48)) = ((n * 10 + Dec.dv a[k] : Nat) : Int) := by rw [IntWalk.i64_in _ (by omega)]; omega
      have i4 : IntKind.u8.wrap ((a[k].toNat : Int) - 48) = (a[k].toNat : Int) - 48 := by simp [IntKind.wrap, IntKind.bits, IntKind.signed]; omega
      have i5 : IntKind.i64.wrap ((a[k].toNat : Int) - 48) = (a[k].toNat : Int) - 48 := IntWalk.i64_in _ (by omega)
      have w4 : IntKind.i64.wrap ((k : Int) + 1) = (k : Int) + 1 := IntWalk.i64_in _ (by omega)
      have HTK := Lib.hid htk
      have HNB := Lib.hid hnb
      clear htk hle hbig hnb
      go_wp2_with fail
      go_round
      case rel => exact ⟨k + 1, n * 10 + Dec.dv a[k], by omega, by go_num, by first | rfl | (congr 1; omega), Lib.hid HTK.out.symm, HNB.out⟩
      case measure => simp [intOf]; omega
    · obtain rfl : k = a.size := by omega
      have e : n = Dec.val (tl a) := by
        have := hn.out
        rwa [List.take_of_length_le (by rw [tl_length]; exact Nat.le_refl _)] at this
      have E := Lib.hid e
      clear e
      go_wp2_with fail
      go_ret2
      exact ⟨by rw [← E.out]; rfl, rfl⟩
theorem refInt_any (a : ByteArray) (w : World) :
    Calls Tryd.prog 26 #[.string a] w fun e w' => e = .returned (.tuple #[.int .i64 (intR a).1, .int .i64 (intR a).2]) ∧ w = w' := by
  by_cases ha : validB a = true
  · by_cases h : 1000000000000 < Dec.val (tl a)
    · have e : intR a = (0, 9) := by unfold intR; rw [if_pos ha, if_pos h]
      rw [e]; exact refInt_big a w ha h
    · have e : intR a = (((Dec.val (tl a) : Nat) : Int), 0) := by unfold intR; rw [if_pos ha, if_neg h]
      rw [e]; exact refInt_ok a w ha h
  · have e : intR a = (0, 1) := by unfold intR; rw [if_neg ha]
    rw [e]; exact refInt_bad a w (by simpa using ha)
end Go.Proofs.YtfkdhkbegfbkaaaDoor
