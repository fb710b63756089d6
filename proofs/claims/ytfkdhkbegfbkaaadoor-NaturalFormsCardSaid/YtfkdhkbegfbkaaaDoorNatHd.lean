/-
  The examples of chapter 3 as plain facts: what the functions answer at valid numbers.
-/
import Derived.Test.YtfkdhkbegfbkaaaDoorNatFew
set_option linter.unusedVariables false
set_option maxRecDepth 100000
namespace Go.Proofs.YtfkdhkbegfbkaaaDoor
open Go.RowKit
theorem nS_val {c : ByteArray} (hc : validB c = true) : nS (Dec.val (tl c)) = c := (nS_of hc).symm
theorem within_is {c : ByteArray} {n : Nat} (hc : validB c = true) (h : Dec.val (tl c) = n) : within n = (c, 0) := by
  subst h
  unfold within
  rw [nS_val hc, if_pos (valid_size hc)]
theorem both_valid {a b : ByteArray} (ha : validB a = true) (hb : validB b = true) : (validB a && validB b) = true := by rw [ha, hb]; rfl
theorem addR_is {a b c : ByteArray} (ha : validB a = true) (hb : validB b = true) (hc : validB c = true) (h : Dec.val (tl c) = Dec.val (tl a) + Dec.val (tl b)) : addR a b = (c, 0) := by
  unfold addR; rw [if_pos (both_valid ha hb), within_is hc h]
theorem mulR_is {a b c : ByteArray} (ha : validB a = true) (hb : validB b = true) (hc : validB c = true) (h : Dec.val (tl c) = Dec.val (tl a) * Dec.val (tl b)) : mulR a b = (c, 0) := by
  unfold mulR; rw [if_pos (both_valid ha hb), within_is hc h]
theorem subR_is {a b c : ByteArray} (ha : validB a = true) (hb : validB b = true) (hc : validB c = true) (hl : Dec.val (tl b) ≤ Dec.val (tl a)) (h : Dec.val (tl c) = Dec.val (tl a) - Dec.val (tl b)) : subR a b = (c, 0) := by
  unfold subR; rw [if_pos (both_valid ha hb), if_neg (by omega), ← h, nS_val hc]
theorem subR_less {a b : ByteArray} (ha : validB a = true) (hb : validB b = true) (h : Dec.val (tl a) < Dec.val (tl b)) : subR a b = (⟨#[]⟩, 9) := by
  unfold subR; rw [if_pos (both_valid ha hb), if_pos h]
theorem gcdR_is {a b c : ByteArray} (ha : validB a = true) (hb : validB b = true) (hc : validB c = true) (h : Dec.val (tl c) = Nat.gcd (Dec.val (tl a)) (Dec.val (tl b))) : gcdR a b = (c, 0) := by
  unfold gcdR; rw [if_pos (both_valid ha hb), ← h, nS_val hc]
theorem divR_zero {a b : ByteArray} (ha : validB a = true) (hb : validB b = true) (h : Dec.val (tl b) = 0) : divR a b = (⟨#[]⟩, ⟨#[]⟩, 14) := by
  unfold divR; rw [if_pos (both_valid ha hb), if_pos h]
theorem divR_is {a b q r : ByteArray} (ha : validB a = true) (hb : validB b = true) (hq : validB q = true) (hr : validB r = true) (h0 : Dec.val (tl b) ≠ 0) (h1 : Dec.val (tl q) = Dec.val (tl a) / Dec.val (tl b)) (h2 : Dec.val (tl r) = Dec.val (tl a) % Dec.val (tl b)) : divR a b = (q, r, 0) := by
  unfold divR; rw [if_pos (both_valid ha hb), if_neg h0, ← h1, ← h2, nS_val hq, nS_val hr]
theorem cmpR_less {a b : ByteArray} (ha : validB a = true) (hb : validB b = true) (h : Dec.val (tl a) < Dec.val (tl b)) : cmpR a b = -1 := by
  unfold cmpR; rw [if_pos (both_valid ha hb), if_pos h]
theorem cmpR_bad {a b : ByteArray} (ha : validB a = false) : cmpR a b = 0 := by
  unfold cmpR; rw [ha, Bool.false_and]; rfl
theorem intR_bad {a : ByteArray} (ha : validB a = false) : intR a = (0, 1) := by
  unfold intR; rw [ha]; rfl
theorem intR_big {a : ByteArray} (ha : validB a = true) (h : 1000000000000 < Dec.val (tl a)) : intR a = (0, 9) := by
  unfold intR; rw [if_pos ha, if_pos h]
theorem ex_add : addR ⟨#[57, 57, 57]⟩ ⟨#[49]⟩ = (⟨#[49, 48, 48, 48]⟩, 0) := addR_is (by decide +kernel) (by decide +kernel) (by decide +kernel) (by decide +kernel)
theorem ex_sub : subR ⟨#[49, 48, 48, 48]⟩ ⟨#[49]⟩ = (⟨#[57, 57, 57]⟩, 0) := subR_is (by decide +kernel) (by decide +kernel) (by decide +kernel) (by decide +kernel) (by decide +kernel)
theorem ex_less : subR ⟨#[49]⟩ ⟨#[50]⟩ = (⟨#[]⟩, 9) := subR_less (by decide +kernel) (by decide +kernel) (by decide +kernel)
theorem ex_mul : mulR ⟨#[49, 50, 51, 52, 53, 54, 55, 56, 57, 48, 49, 50, 51, 52, 53, 54, 55, 56, 57, 48]⟩ ⟨#[49, 48]⟩ = (⟨#[49, 50, 51, 52, 53, 54, 55, 56, 57, 48, 49, 50, 51, 52, 53, 54, 55, 56, 57, 48, 48]⟩, 0) := mulR_is (by decide +kernel) (by decide +kernel) (by decide +kernel) (by decide +kernel)
theorem ex_div : divR ⟨#[49, 48, 48, 48]⟩ ⟨#[55]⟩ = (⟨#[49, 52, 50]⟩, ⟨#[54]⟩, 0) := divR_is (by decide +kernel) (by decide +kernel) (by decide +kernel) (by decide +kernel) (by decide +kernel) (by decide +kernel) (by decide +kernel)
theorem ex_zero : divR ⟨#[55]⟩ ⟨#[48]⟩ = (⟨#[]⟩, ⟨#[]⟩, 14) := divR_zero (by decide +kernel) (by decide +kernel) (by decide +kernel)
theorem ex_gcd : gcdR ⟨#[49, 50]⟩ ⟨#[49, 56]⟩ = (⟨#[54]⟩, 0) := gcdR_is (by decide +kernel) (by decide +kernel) (by decide +kernel) (by decide +kernel)
theorem ex_gcd0 : gcdR ⟨#[48]⟩ ⟨#[53]⟩ = (⟨#[53]⟩, 0) := gcdR_is (by decide +kernel) (by decide +kernel) (by decide +kernel) (by decide +kernel)
theorem ex_of : ofR (-1) = (⟨#[]⟩, 9) := by unfold ofR; rfl
theorem ex_int : intR ⟨#[49, 48, 48, 48, 48, 48, 48, 48, 48, 48, 48, 48, 49]⟩ = (0, 9) := intR_big (by decide +kernel) (by decide +kernel)
theorem ex_int0 : intR ⟨#[48, 48, 55]⟩ = (0, 1) := intR_bad (by decide +kernel)
theorem ex_cmp : cmpR ⟨#[57]⟩ ⟨#[49, 48]⟩ = -1 := cmpR_less (by decide +kernel) (by decide +kernel) (by decide +kernel)
theorem ex_cmp0 : cmpR ⟨#[48, 55]⟩ ⟨#[56]⟩ = 0 := cmpR_bad (by decide +kernel)
end Go.Proofs.YtfkdhkbegfbkaaaDoor
