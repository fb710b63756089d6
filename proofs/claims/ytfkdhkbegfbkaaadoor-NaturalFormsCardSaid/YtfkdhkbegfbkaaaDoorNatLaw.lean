/-
  What the functions of layer 3 answer for numbers below a bound, by their values.
-/
import Derived.Test.YtfkdhkbegfbkaaaDoorNatWLim
set_option linter.unusedVariables false
set_option maxRecDepth 100000
namespace Go.Proofs.YtfkdhkbegfbkaaaDoor
open Go.RowKit
def Small (n : Nat) : Prop := (nS n).size ≤ 1000
theorem small_of {n k : Nat} (h : n < 10 ^ k) (hk : k ≤ 1000) (hk0 : 0 < k) : Small n := Nat.le_trans ((nS_size hk0).2 h) hk
theorem small_valid {n : Nat} (h : Small n) : validB (nS n) = true := (validB_iff _).2 ⟨nS_norm n, h⟩
/-- what a short valid text is -/
theorem short_num {a : ByteArray} (h : validB a = true) (hs : a.size ≤ 80) : ∃ x, a = nS x ∧ x < 10 ^ 80 := by
  refine ⟨Dec.val (tl a), nS_of h, ?_⟩
  have e := nS_of h
  exact (nS_size (by omega)).1 (by rw [← e]; exact hs)
theorem addN {x y n : Nat} (hx : Small x) (hy : Small y) (hn : Small n) (h : x + y = n) : addR (nS x) (nS y) = (nS n, 0) := by
  unfold addR; rw [if_pos (both_valid (small_valid hx) (small_valid hy)), val_nS, val_nS, h]; exact if_pos hn
theorem mulN {x y n : Nat} (hx : Small x) (hy : Small y) (hn : Small n) (h : x * y = n) : mulR (nS x) (nS y) = (nS n, 0) := by
  unfold mulR; rw [if_pos (both_valid (small_valid hx) (small_valid hy)), val_nS, val_nS, h]; exact if_pos hn
theorem subN {x y n : Nat} (hx : Small x) (hy : Small y) (h : y + n = x) : subR (nS x) (nS y) = (nS n, 0) := by
  unfold subR; rw [if_pos (both_valid (small_valid hx) (small_valid hy)), val_nS, val_nS, if_neg (by omega), show x - y = n by omega]
theorem subN_less {x y : Nat} (hx : Small x) (hy : Small y) (h : x < y) : subR (nS x) (nS y) = (⟨#[]⟩, 9) := by
  unfold subR; rw [if_pos (both_valid (small_valid hx) (small_valid hy)), val_nS, val_nS, if_pos h]
theorem divN {x y q r : Nat} (hx : Small x) (hy : Small y) (h0 : 0 < y) (hq : x / y = q) (hr : x % y = r) : divR (nS x) (nS y) = (nS q, nS r, 0) := by
  unfold divR; rw [if_pos (both_valid (small_valid hx) (small_valid hy)), val_nS, val_nS, if_neg (by omega), hq, hr]
theorem gcdN {x y n : Nat} (hx : Small x) (hy : Small y) (h : Nat.gcd x y = n) : gcdR (nS x) (nS y) = (nS n, 0) := by
  unfold gcdR; rw [if_pos (both_valid (small_valid hx) (small_valid hy)), val_nS, val_nS, h]
def cmpN (x y : Nat) : Int := if x < y then -1 else if y < x then 1 else 0
theorem cmpN_eq {x y : Nat} (hx : Small x) (hy : Small y) : cmpR (nS x) (nS y) = cmpN x y := by
  unfold cmpR cmpN; rw [if_pos (both_valid (small_valid hx) (small_valid hy)), val_nS, val_nS]
section calls
variable {x y n q r : Nat} (w : World)
theorem cAdd (hx : Small x) (hy : Small y) (hn : Small n) (h : x + y = n) : Calls Tryd.prog 13 #[.string (nS x), .string (nS y)] w fun e w' => e = .returned (.tuple #[.string (nS n), .int .i64 0]) ∧ Below w.heap.size w w' := by
  have := pAdd_any (nS x) (nS y) w
  rw [addN hx hy hn h] at this; exact this
theorem cMul (hx : Small x) (hy : Small y) (hn : Small n) (h : x * y = n) : Calls Tryd.prog 17 #[.string (nS x), .string (nS y)] w fun e w' => e = .returned (.tuple #[.string (nS n), .int .i64 0]) ∧ Below w.heap.size w w' := by
  have := pMul_any (nS x) (nS y) w
  rw [mulN hx hy hn h] at this; exact this
theorem cSub (hx : Small x) (hy : Small y) (h : y + n = x) : Calls Tryd.prog 15 #[.string (nS x), .string (nS y)] w fun e w' => e = .returned (.tuple #[.string (nS n), .int .i64 0]) ∧ Below w.heap.size w w' := by
  have := pSub_any (nS x) (nS y) w
  rw [subN hx hy h] at this; exact this
theorem cSub_less (hx : Small x) (hy : Small y) (h : x < y) : Calls Tryd.prog 15 #[.string (nS x), .string (nS y)] w fun e w' => e = .returned (.tuple #[.string ⟨#[]⟩, .int .i64 9]) ∧ Below w.heap.size w w' := by
  have := pSub_any (nS x) (nS y) w
  rw [subN_less hx hy h] at this; exact this
theorem cDiv (hx : Small x) (hy : Small y) (h0 : 0 < y) (hq : x / y = q) (hr : x % y = r) : Calls Tryd.prog 19 #[.string (nS x), .string (nS y)] w fun e w' => e = .returned (.tuple #[.string (nS q), .string (nS r), .int .i64 0]) ∧ Below w.heap.size w w' := by
  have := pDiv_any (nS x) (nS y) w
  rw [divN hx hy h0 hq hr] at this; exact this
theorem cGcd (hx : Small x) (hy : Small y) (h : Nat.gcd x y = n) : Calls Tryd.prog 21 #[.string (nS x), .string (nS y)] w fun e w' => e = .returned (.tuple #[.string (nS n), .int .i64 0]) ∧ Below w.heap.size w w' := by
  have := pGcd_any (nS x) (nS y) w
  rw [gcdN hx hy h] at this; exact this
theorem cCmp {c : Int} (hx : Small x) (hy : Small y) (h : cmpN x y = c) : Calls Tryd.prog 29 #[.string (nS x), .string (nS y)] w fun e w' => e = .returned (.int .i64 c) ∧ Below w.heap.size w w' := by
  refine (pCompare_any (nS x) (nS y) w).mono ?_
  rintro e w' ⟨rfl, k, rfl⟩
  exact ⟨by rw [cmpN_eq hx hy, h], nat_dn _ _⟩
theorem cVal {a : ByteArray} {v : Bool} (h : validB a = v) : Calls Tryd.prog 27 #[.string a] w fun e w' => e = .returned (.bool v) ∧ Below w.heap.size w w' := by
  refine (pValid_any a w).mono ?_
  rintro e w' ⟨rfl, k, rfl⟩
  exact ⟨by rw [h], nat_dn _ _⟩
end calls
theorem txt_lit3 (w : World) (a b c : ByteArray) : TxtAt (w.alloc (Obj.cells #[Value.string a, Value.string b, Value.string c] 22)) (.slice (some ⟨w.heap.size, 0, none⟩) 3 3) [a, b, c] :=
  ⟨by simp, _, _, _, rfl, by
    intro j hj
    match j, hj with
    | 0, _ => simp
    | 1, _ => simp
    | 2, _ => simp⟩
theorem few_lit3 (w : World) (a b c : ByteArray) (ha : a.size ≤ maxLen) (hb : b.size ≤ maxLen) (hc : c.size ≤ maxLen) :
    Calls Tryd.prog 12 #[.slice (some ⟨w.heap.size, 0, none⟩) 3 3] (w.alloc (Obj.cells #[Value.string a, Value.string b, Value.string c] 22)) fun e w' => e = .returned (.bool (few80 [a, b, c])) ∧ Below w.heap.size w w' := by
  refine (few03_any _ [a, b, c] _ (txt_lit3 w a b c) (by simp [maxLen]) (by intro s h; simp only [List.mem_cons, List.not_mem_nil, or_false] at h; rcases h with rfl | rfl | rfl <;> assumption)).mono ?_
  rintro e w' ⟨rfl, rfl⟩
  exact ⟨rfl, below_lit w _⟩
end Go.Proofs.YtfkdhkbegfbkaaaDoor
