/-
  The reference's Of, Int, Compare and Few of layer 3.
-/
import Derived.Test.YtbcoblpnihdhgaaDoorNatA
import Derived.StillTailTactics
set_option linter.unusedVariables false
set_option maxRecDepth 100000
namespace Go.Proofs.YtbcoblpnihdhgaaDoor
open Go.RowKit
/-- the digits taken from a number, the last one first, and what is left of it -/
structure Taken (n k m : Nat) (D : List Nat) : Prop where
  len : D.length = k
  small : ∀ d ∈ D, d < 10
  sum : Dec.valR D + m * 10 ^ k = n
theorem Taken.zero (n : Nat) : Taken n 0 n [] := ⟨rfl, fun d hd => by (cases hd), by simp [Dec.valR]⟩
theorem Taken.next {n k m : Nat} {D : List Nat} (h : Taken n k m D) : Taken n (k + 1) (m / 10) (D ++ [m % 10]) := by
  refine ⟨by rw [List.length_append, h.len]; rfl, ?_, ?_⟩
  · intro d hd
    rcases List.mem_append.1 hd with hd | hd
    · exact h.small d hd
    · simp only [List.mem_singleton] at hd; subst hd; exact Nat.mod_lt _ (by omega)
  · have hs := h.sum
    rw [Dec.valR_snoc, h.len, Nat.pow_succ]
    generalize 10 ^ k = t at hs
    have e : m % 10 * t + m / 10 * (t * 10) = m * t := by
      rw [← Nat.mul_assoc, Nat.mul_right_comm, ← Nat.add_mul]
      congr 1; omega
    omega
theorem Taken.bound {n k m : Nat} {D : List Nat} (h : Taken n k m D) (hm : 0 < m) (hn : n < 9223372036854775808) : k < 19 := by
  have hs := h.sum
  rcases Nat.lt_or_ge k 19 with h' | h'
  · exact h'
  · have h1 := Nat.pow_le_pow_right (show 0 < 10 by omega) h'
    have h2 : 1 * 10 ^ k ≤ m * 10 ^ k := Nat.mul_le_mul_right _ hm
    have h3 : (10 : Nat) ^ 19 = 10000000000000000000 := by decide
    omega
/-- what Of answers -/
def ofR (n : Int) : ByteArray × Int := if n < 0 then (⟨#[]⟩, 9) else (nS n.toNat, 0)
/-- what Compare answers -/
def cmpR (a b : ByteArray) : Int := if validB a && validB b then (if Dec.val (tl a) < Dec.val (tl b) then -1 else if Dec.val (tl b) < Dec.val (tl a) then 1 else 0) else 0
end Go.Proofs.YtbcoblpnihdhgaaDoor

/-
  The reference's Int and Few of layer 3.
-/
set_option linter.unusedVariables false
set_option maxRecDepth 100000
namespace Go.Proofs.YtbcoblpnihdhgaaDoor
open Go.RowKit
/-- what Int answers -/
def intR (a : ByteArray) : Int × Int := if validB a then (if 1000000000000 < Dec.val (tl a) then (0, 9) else ((Dec.val (tl a) : Nat), 0)) else (0, 1)
def bigT : List UInt8 := [49, 48, 48, 48, 48, 48, 48, 48, 48, 48, 48, 48, 48]
theorem big_norm : Dec.Norm bigT := ⟨by decide, (show ∀ b ∈ bigT, Dec.isD b = true from by decide), by decide⟩
theorem big_val : Dec.val bigT = 1000000000000 := by decide
theorem big_tl : tl ⟨#[49, 48, 48, 48, 48, 48, 48, 48, 48, 48, 48, 48, 48]⟩ = bigT := rfl
theorem val_take_le (l : List UInt8) (k : Nat) : Dec.val (l.take k) ≤ Dec.val l := by
  have h := Dec.val_append (l.take k) (l.drop k)
  rw [List.take_append_drop] at h
  have : 1 ≤ 10 ^ (l.drop k).length := Nat.pow_pos (by omega)
  have h2 : Dec.val (l.take k) * 1 ≤ Dec.val (l.take k) * 10 ^ (l.drop k).length := Nat.mul_le_mul_left _ this
  omega
end Go.Proofs.YtbcoblpnihdhgaaDoor

/-
  Plain mathematics of products digit by digit, for layer 3.
-/
set_option linter.unusedVariables false
set_option maxRecDepth 100000
namespace Go.Proofs.YtbcoblpnihdhgaaDoor.Dec
theorem valR_set (l : List Nat) (j x : Nat) (h : j < l.length) : valR (l.set j (l.getD j 0 + x)) = valR l + x * 10 ^ j := by
  induction l generalizing j with
  | nil => simp at h
  | cons d l ih =>
    cases j with
    | zero => simp [valR]; omega
    | succ j =>
      simp only [List.length_cons] at h
      simp only [List.set_cons_succ, valR, List.getD_cons_succ, Nat.pow_succ]
      rw [ih j (by omega), Nat.mul_add]
      have : 10 * (x * 10 ^ j) = x * (10 ^ j * 10) := by rw [Nat.mul_comm 10, Nat.mul_assoc]
      omega
theorem valR_zeros (n : Nat) : valR (List.replicate n 0) = 0 := by
  induction n with
  | zero => rfl
  | succ n ih => rw [List.replicate_succ, valR, ih]
theorem valR_append (l m : List Nat) : valR (l ++ m) = valR l + valR m * 10 ^ l.length := by
  induction l with
  | nil => simp [valR]
  | cons d l ih =>
    simp only [List.cons_append, valR, ih, List.length_cons, Nat.pow_succ, Nat.mul_add]
    have : 10 * (valR m * 10 ^ l.length) = valR m * (10 ^ l.length * 10) := by rw [Nat.mul_comm 10, Nat.mul_assoc]
    omega
/-- the sums of the products of digits, up to a place of the one and a place of the other number -/
structure Muls (a b i k : Nat) (S : List Nat) (m : Nat) : Prop where
  sum : valR S = a % 10 ^ i * b + a / 10 ^ i % 10 * 10 ^ i * (b % 10 ^ k)
  bound : ∀ j, S.getD j 0 ≤ m
theorem Muls.zero (a b L : Nat) : Muls a b 0 0 (List.replicate L 0) 0 := ⟨by simp [valR_zeros, Nat.mod_one], fun j => by
  rw [List.getD_eq_getElem?_getD]
  by_cases h : j < L
  · simp [h]
  · rw [List.getElem?_eq_none (by simpa using h)]; simp⟩
theorem Muls.step {a b i k m : Nat} {S : List Nat} (h : Muls a b i k S m) (hj : i + k < S.length) :
    Muls a b i (k + 1) (S.set (i + k) (S.getD (i + k) 0 + a / 10 ^ i % 10 * (b / 10 ^ k % 10))) (m + 81) := by
  have h1 := Nat.mod_lt (a / 10 ^ i) (show 0 < 10 by omega)
  have h2 := Nat.mod_lt (b / 10 ^ k) (show 0 < 10 by omega)
  refine ⟨?_, fun j => ?_⟩
  · rw [valR_set _ _ _ hj, h.sum, mod_next b k, Nat.mul_add, Nat.pow_add]
    generalize a / 10 ^ i % 10 = x
    generalize b / 10 ^ k % 10 = y
    generalize 10 ^ i = s
    generalize 10 ^ k = t
    have : x * y * (s * t) = x * s * (y * t) := by rw [Nat.mul_mul_mul_comm]
    omega
  · have hb := h.bound
    have h3 : a / 10 ^ i % 10 * (b / 10 ^ k % 10) ≤ 81 := by
      have : a / 10 ^ i % 10 * (b / 10 ^ k % 10) ≤ 9 * 9 := Nat.mul_le_mul (by omega) (by omega)
      omega
    rw [List.getD_eq_getElem?_getD]
    by_cases e : i + k = j
    · subst e
      rw [List.getElem?_set_self hj]
      have := hb (i + k)
      simp only [Option.getD_some]
      omega
    · rw [List.getElem?_set_ne e, ← List.getD_eq_getElem?_getD]
      have := hb j
      omega
theorem Muls.row {a b i k m : Nat} {S : List Nat} (h : Muls a b i k S m) (hb : b < 10 ^ k) : Muls a b (i + 1) 0 S m := by
  refine ⟨?_, h.bound⟩
  rw [h.sum, Nat.mod_eq_of_lt hb, mod_next a i, Nat.add_mul]
  simp [Nat.mod_one]
theorem Muls.done {a b i m : Nat} {S : List Nat} (h : Muls a b i 0 S m) (ha : a < 10 ^ i) : valR S = a * b := by
  rw [h.sum, Nat.mod_eq_of_lt ha]
  simp [Nat.mod_one]
/-- the digits of the sums up to a place, and what is carried -/
structure Carr (S : List Nat) (i : Nat) (D : List Nat) (c : Nat) : Prop where
  len : D.length = i
  small : ∀ d ∈ D, d < 10
  sum : valR D + (c + valR (S.drop i)) * 10 ^ i = valR S
theorem Carr.zero (S : List Nat) : Carr S 0 [] 0 := ⟨rfl, fun d hd => by (cases hd), by simp [valR]⟩
theorem Carr.next {S : List Nat} {i c : Nat} {D : List Nat} (h : Carr S i D c) (hi : i < S.length) : Carr S (i + 1) (D ++ [(S.getD i 0 + c) % 10]) ((S.getD i 0 + c) / 10) := by
  refine ⟨by rw [List.length_append, h.len]; rfl, ?_, ?_⟩
  · intro d hd
    rcases List.mem_append.1 hd with hd | hd
    · exact h.small d hd
    · simp only [List.mem_singleton] at hd; subst hd; exact Nat.mod_lt _ (by omega)
  · have hs := h.sum
    have hd : S.drop i = S.getD i 0 :: S.drop (i + 1) := by
      rw [List.drop_eq_getElem_cons hi]
      simp [List.getD, hi]
    rw [hd, valR] at hs
    rw [valR_snoc, h.len, Nat.pow_succ]
    generalize S.getD i 0 = x at *
    generalize valR (S.drop (i + 1)) = r at *
    generalize 10 ^ i = t at *
    have e1 : ((x + c) / 10 + r) * (t * 10) = ((x + c) / 10 * 10 + 10 * r) * t := by
      rw [Nat.mul_comm t 10, ← Nat.mul_assoc, Nat.add_mul]
      congr 2; omega
    have e2 : (x + c) % 10 * t + ((x + c) / 10 * 10 + 10 * r) * t = (c + (x + 10 * r)) * t := by
      rw [← Nat.add_mul]
      congr 1; omega
    omega
theorem Carr.done {S : List Nat} {D : List Nat} {c : Nat} (h : Carr S S.length D c) (hv : valR S < 10 ^ S.length) : valR D = valR S := by
  have hs := h.sum
  rw [List.drop_length, valR, Nat.add_zero] at hs
  rcases Nat.eq_zero_or_pos c with q | q
  · subst q; omega
  · have : 1 * 10 ^ S.length ≤ c * 10 ^ S.length := Nat.mul_le_mul_right _ q
    omega
end Go.Proofs.YtbcoblpnihdhgaaDoor.Dec

/-
  The reference's products of layer 3.
-/
set_option linter.unusedVariables false
set_option maxRecDepth 100000
namespace Go.Proofs.YtbcoblpnihdhgaaDoor
open Go.RowKit
def intCells (S : List Nat) : List Value := S.map fun d : Nat => Value.int .i64 ((d : Nat) : Int)
theorem infoInt : (Tryd.prog.info? 3).map (fun i => (i.zero, i.size, i.bytes)) = some (some (.int .i64 0), 1, 8) := by kernel_rfl
/-- the row of sums -/
def SumAt (H L : Nat) (S : List Nat) (w : World) : Prop := S.length = L ∧ w.ownsRow H 3 1 (.slice (some ⟨H, 0, none⟩) L L) L (intCells S)
theorem SumAt.cell {H L : Nat} {S : List Nat} {w : World} (h : SumAt H L S w) (j : Nat) (hj : j < L) : w.cell? ⟨H, j, none⟩ = some (.int .i64 ((S.getD j 0 : Nat) : Int)) := by
  rw [World.ownsRow.cellAt h.2 j (by omega)]
  have hl : j < S.length := by rw [h.1]; exact hj
  simp [intCells, List.getD, hl]
theorem SumAt.frozen {H L : Nat} {S : List Nat} {w : World} (h : SumAt H L S w) (j : Nat) : w.frozen? ⟨H, j, none⟩ = false := World.ownsRow.frozenAt h.2 j
theorem SumAt.store {H L : Nat} {S : List Nat} {w : World} (h : SumAt H L S w) (j x : Nat) : SumAt H L (S.set j x) (w.setCell ⟨H, j, none⟩ (.int .i64 (x : Int))) := by
  refine ⟨by rw [List.length_set, h.1], ?_⟩
  have := (World.ownsRow.stored h.2 j (.int .i64 (x : Int))).1
  rw [show intCells (S.set j x) = (intCells S).set j (.int .i64 (x : Int)) by simp [intCells, List.map_set]]
  exact this
/-- the row of digits that are written one after the other -/
def OutAt (B G L : Nat) (Z : List Nat) (w : World) : Prop := Z.length = L ∧ w.ownsRow B 5 1 (.slice (some ⟨G, 0, none⟩) L L) L (numCells Z)
theorem OutAt.frozen {B G L : Nat} {Z : List Nat} {w : World} (h : OutAt B G L Z w) (j : Nat) : w.frozen? ⟨G, j, none⟩ = false := World.ownsRow.frozenAt h.2 j
theorem OutAt.cell {B G L : Nat} {Z : List Nat} {w : World} (h : OutAt B G L Z w) (j : Nat) (hj : j < L) : w.cell? ⟨G, j, none⟩ = some (.int .u8 ((Z.getD j 0 : Nat) : Int)) := by
  rw [World.ownsRow.cellAt h.2 j (by omega)]
  have hl : j < Z.length := by rw [h.1]; exact hj
  simp [numCells, List.getD, hl]
theorem OutAt.store {B G L : Nat} {Z : List Nat} {w : World} (h : OutAt B G L Z w) (j x : Nat) : OutAt B G L (Z.set j x) (w.setCell ⟨G, j, none⟩ (.int .u8 (x : Int))) := by
  refine ⟨by rw [List.length_set, h.1], ?_⟩
  have := (World.ownsRow.stored h.2 j (.int .u8 (x : Int))).1
  rw [show numCells (Z.set j x) = (numCells Z).set j (.int .u8 (x : Int)) by simp [numCells, List.map_set]]
  exact this
theorem SumAt.beside {H L B G L' : Nat} {S Z : List Nat} {w : World} (h : SumAt H L S w) (ho : OutAt B G L' Z w) (hne : H ≠ G) (j x : Nat) : SumAt H L S (w.setCell ⟨G, j, none⟩ (.int .u8 (x : Int))) :=
  ⟨h.1, World.ownsRow.kept h.2 (World.ownsRow.stored ho.2 j _).2 (by right; simpa [Value.ownBlock] using hne)⟩
theorem out_next {D : List Nat} {L i d : Nat} (hD : D.length = i) (hi : i < L) : (D ++ List.replicate (L - i) 0).set i d = (D ++ [d]) ++ List.replicate (L - (i + 1)) 0 := by
  obtain ⟨r, hr⟩ : ∃ r, L - i = r + 1 := ⟨L - i - 1, by omega⟩
  rw [show L - (i + 1) = r by omega, hr, List.replicate_succ]
  subst hD
  simp
end Go.Proofs.YtbcoblpnihdhgaaDoor

/-
  The reference's Mul of layer 3: one contract that says all that it answers.
-/
set_option linter.unusedVariables false
set_option maxRecDepth 100000
namespace Go.Proofs.YtbcoblpnihdhgaaDoor
open Go.RowKit
end Go.Proofs.YtbcoblpnihdhgaaDoor

/-
  The contracts of the check of lengths in the statements of layer 3: for lists that are not empty.
-/
set_option linter.unusedVariables false
set_option maxRecDepth 100000
namespace Go.Proofs.YtbcoblpnihdhgaaDoor
open Go.RowKit
/-- a list of texts, not empty -/
def TxtAt (w : World) (v : Value) (ss : List ByteArray) : Prop :=
  0 < ss.length ∧ ∃ b off cap, v = .slice (some ⟨b, off, none⟩) ss.length cap ∧ ∀ j (hj : j < ss.length), w.cell? ⟨b, off + j, none⟩ = some (.string ss[j])
def few80 (ss : List ByteArray) : Bool := ss.all fun s => decide (s.size ≤ 80)
end Go.Proofs.YtbcoblpnihdhgaaDoor

/-
  The examples of chapter 3 as plain facts: what the functions answer at valid numbers.
-/
set_option linter.unusedVariables false
set_option maxRecDepth 100000
namespace Go.Proofs.YtbcoblpnihdhgaaDoor
open Go.RowKit
theorem nS_val {c : ByteArray} (hc : validB c = true) : nS (Dec.val (tl c)) = c := (nS_of hc).symm
theorem within_is {c : ByteArray} {n : Nat} (hc : validB c = true) (h : Dec.val (tl c) = n) : within n = (c, 0) := by
  subst h
  unfold within
  rw [nS_val hc, if_pos (valid_size hc)]
theorem both_valid {a b : ByteArray} (ha : validB a = true) (hb : validB b = true) : (validB a && validB b) = true := by rw [ha, hb]; rfl
theorem addR_is {a b c : ByteArray} (ha : validB a = true) (hb : validB b = true) (hc : validB c = true) (h : Dec.val (tl c) = Dec.val (tl a) + Dec.val (tl b)) : addR a b = (c, 0) := by
  unfold addR; rw [if_pos (both_valid ha hb), within_is hc h]
theorem mulR_is {a b c : ByteArray} (ha : validB a = true) (hb : validB b = true) (hc : validB c = true) (h : Dec.val (tl c) = Dec.val (tl a) * Dec.val (tl b)) : mulR a b = (c, 0) := by
  unfold mulR; rw [if_pos (both_valid ha hb), within_is hc h]
theorem subR_is {a b c : ByteArray} (ha : validB a = true) (hb : validB b = true) (hc : validB c = true) (hl : Dec.val (tl b) ≤ Dec.val (tl a)) (h : Dec.val (tl c) = Dec.val (tl a) - Dec.val (tl b)) : subR a b = (c, 0) := by
  unfold subR; rw [if_pos (both_valid ha hb), if_neg (by omega), ← h, nS_val hc]
theorem subR_less {a b : ByteArray} (ha : validB a = true) (hb : validB b = true) (h : Dec.val (tl a) < Dec.val (tl b)) : subR a b = (⟨#[]⟩, 9) := by
  unfold subR; rw [if_pos (both_valid ha hb), if_pos h]
theorem gcdR_is {a b c : ByteArray} (ha : validB a = true) (hb : validB b = true) (hc : validB c = true) (h : Dec.val (tl c) = Nat.gcd (Dec.val (tl a)) (Dec.val (tl b))) : gcdR a b = (c, 0) := by
  unfold gcdR; rw [if_pos (both_valid ha hb), ← h, nS_val hc]
theorem divR_zero {a b : ByteArray} (ha : validB a = true) (hb : validB b = true) (h : Dec.val (tl b) = 0) : divR a b = (⟨#[]⟩, ⟨#[]⟩, 14) := by
  unfold divR; rw [if_pos (both_valid ha hb), if_pos h]
theorem divR_is {a b q r : ByteArray} (ha : validB a = true) (hb : validB b = true) (hq : validB q = true) (hr : validB r = true) (h0 : Dec.val (tl b) ≠ 0) (h1 : Dec.val (tl q) = Dec.val (tl a) / Dec.val (tl b)) (h2 : Dec.val (tl r) = Dec.val (tl a) % Dec.val (tl b)) : divR a b = (q, r, 0) := by
  unfold divR; rw [if_pos (both_valid ha hb), if_neg h0, ← h1, ← h2, nS_val hq, nS_val hr]
theorem cmpR_less {a b : ByteArray} (ha : validB a = true) (hb : validB b = true) (h : Dec.val (tl a) < Dec.val (tl b)) : cmpR a b = -1 := by
  unfold cmpR; rw [if_pos (both_valid ha hb), if_pos h]
theorem cmpR_bad {a b : ByteArray} (ha : validB a = false) : cmpR a b = 0 := by
  unfold cmpR; rw [ha, Bool.false_and]; rfl
theorem intR_bad {a : ByteArray} (ha : validB a = false) : intR a = (0, 1) := by
  unfold intR; rw [ha]; rfl
theorem intR_big {a : ByteArray} (ha : validB a = true) (h : 1000000000000 < Dec.val (tl a)) : intR a = (0, 9) := by
  unfold intR; rw [if_pos ha, if_pos h]
theorem ex_add : addR ⟨#[57, 57, 57]⟩ ⟨#[49]⟩ = (⟨#[49, 48, 48, 48]⟩, 0) := addR_is (by decide +kernel) (by decide +kernel) (by decide +kernel) (by decide +kernel)
theorem ex_sub : subR ⟨#[49, 48, 48, 48]⟩ ⟨#[49]⟩ = (⟨#[57, 57, 57]⟩, 0) := subR_is (by decide +kernel) (by decide +kernel) (by decide +kernel) (by decide +kernel) (by decide +kernel)
theorem ex_less : subR ⟨#[49]⟩ ⟨#[50]⟩ = (⟨#[]⟩, 9) := subR_less (by decide +kernel) (by decide +kernel) (by decide +kernel)
theorem ex_mul : mulR ⟨#[49, 50, 51, 52, 53, 54, 55, 56, 57, 48, 49, 50, 51, 52, 53, 54, 55, 56, 57, 48]⟩ ⟨#[49, 48]⟩ = (⟨#[49, 50, 51, 52, 53, 54, 55, 56, 57, 48, 49, 50, 51, 52, 53, 54, 55, 56, 57, 48, 48]⟩, 0) := mulR_is (by decide +kernel) (by decide +kernel) (by decide +kernel) (by decide +kernel)
theorem ex_div : divR ⟨#[49, 48, 48, 48]⟩ ⟨#[55]⟩ = (⟨#[49, 52, 50]⟩, ⟨#[54]⟩, 0) := divR_is (by decide +kernel) (by decide +kernel) (by decide +kernel) (by decide +kernel) (by decide +kernel) (by decide +kernel) (by decide +kernel)
theorem ex_zero : divR ⟨#[55]⟩ ⟨#[48]⟩ = (⟨#[]⟩, ⟨#[]⟩, 14) := divR_zero (by decide +kernel) (by decide +kernel) (by decide +kernel)
theorem ex_gcd : gcdR ⟨#[49, 50]⟩ ⟨#[49, 56]⟩ = (⟨#[54]⟩, 0) := gcdR_is (by decide +kernel) (by decide +kernel) (by decide +kernel) (by decide +kernel)
theorem ex_gcd0 : gcdR ⟨#[48]⟩ ⟨#[53]⟩ = (⟨#[53]⟩, 0) := gcdR_is (by decide +kernel) (by decide +kernel) (by decide +kernel) (by decide +kernel)
theorem ex_of : ofR (-1) = (⟨#[]⟩, 9) := by unfold ofR; rfl
theorem ex_int : intR ⟨#[49, 48, 48, 48, 48, 48, 48, 48, 48, 48, 48, 48, 49]⟩ = (0, 9) := intR_big (by decide +kernel) (by decide +kernel)
theorem ex_int0 : intR ⟨#[48, 48, 55]⟩ = (0, 1) := intR_bad (by decide +kernel)
theorem ex_cmp : cmpR ⟨#[57]⟩ ⟨#[49, 48]⟩ = -1 := cmpR_less (by decide +kernel) (by decide +kernel) (by decide +kernel)
theorem ex_cmp0 : cmpR ⟨#[48, 55]⟩ ⟨#[56]⟩ = 0 := cmpR_bad (by decide +kernel)
end Go.Proofs.YtbcoblpnihdhgaaDoor
