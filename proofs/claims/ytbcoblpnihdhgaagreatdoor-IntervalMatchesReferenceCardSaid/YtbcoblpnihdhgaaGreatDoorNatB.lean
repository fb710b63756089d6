/-
  The reference's Of, Int, Compare and Few of layer 3.
-/
import Derived.Test.YtbcoblpnihdhgaaGreatDoorNatA
import Derived.StillTailTactics
set_option linter.unusedVariables false
set_option maxRecDepth 100000
namespace Go.Proofs.YtbcoblpnihdhgaaGreatDoor
open Go.RowKit
/-- the digits taken from a number, the last one first, and what is left of it -/
structure Taken (n k m : Nat) (D : List Nat) : Prop where
  len : D.length = k
  small : ∀ d ∈ D, d < 10
  sum : Dec.valR D + m * 10 ^ k = n
theorem Taken.zero (n : Nat) : Taken n 0 n [] := ⟨rfl, fun d hd => by (cases hd), by simp [Dec.valR]⟩
theorem Taken.next {n k m : Nat} {D : List Nat} (h : Taken n k m D) : Taken n (k + 1) (m / 10) (D ++ [m % 10]) := by
  refine ⟨by rw [List.length_append, h.len]; rfl, ?_, ?_⟩
  · intro d hd
    rcases List.mem_append.1 hd with hd | hd
    · exact h.small d hd
    · simp only [List.mem_singleton] at hd; subst hd; exact Nat.mod_lt _ (by omega)
  · have hs := h.sum
    rw [Dec.valR_snoc, h.len, Nat.pow_succ]
    generalize 10 ^ k = t at hs
    have e : m % 10 * t + m / 10 * (t * 10) = m * t := by
      rw [← Nat.mul_assoc, Nat.mul_right_comm, ← Nat.add_mul]
      congr 1; omega
    omega
theorem Taken.bound {n k m : Nat} {D : List Nat} (h : Taken n k m D) (hm : 0 < m) (hn : n < 9223372036854775808) : k < 19 := by
  have hs := h.sum
  rcases Nat.lt_or_ge k 19 with h' | h'
  · exact h'
  · have h1 := Nat.pow_le_pow_right (show 0 < 10 by omega) h'
    have h2 : 1 * 10 ^ k ≤ m * 10 ^ k := Nat.mul_le_mul_right _ hm
    have h3 : (10 : Nat) ^ 19 = 10000000000000000000 := by decide
    omega
/-- what Of answers -/
def ofR (n : Int) : ByteArray × Int := if n < 0 then (⟨#[]⟩, 9) else (nS n.toNat, 0)
/-- what Compare answers -/
def cmpR (a b : ByteArray) : Int := if validB a && validB b then (if Dec.val (tl a) < Dec.val (tl b) then -1 else if Dec.val (tl b) < Dec.val (tl a) then 1 else 0) else 0
theorem refCompare_bad1 (a b : ByteArray) (w : World) (ha : validB a = false) :
    Calls Tryz.prog 42 #[.string a, .string b] w fun e w' => e = .returned (.int .i64 0) ∧ w = w' := by
  have HA := Lib.hid ha
  clear ha
  go_enter Tryz.func42, Tryz.ntmps42
  go_wp2_with fail
  refine (refvalid_any a _).mono ?_
  rintro e w1 ⟨rfl, rfl⟩
  rw [HA.out]
  go_wp2_with fail
  go_ret
  exact ⟨rfl, rfl⟩
theorem refCompare_bad2 (a b : ByteArray) (w : World) (ha : validB a = true) (hb : validB b = false) :
    Calls Tryz.prog 42 #[.string a, .string b] w fun e w' => e = .returned (.int .i64 0) ∧ w = w' := by
  have HA := Lib.hid ha
  have HB := Lib.hid hb
  clear ha hb
  go_enter Tryz.func42, Tryz.ntmps42
  go_wp2_with fail
  refine (refvalid_any a _).mono ?_
  rintro e w1 ⟨rfl, rfl⟩
  rw [HA.out]
  go_wp2_with fail
  refine (refvalid_any b _).mono ?_
  rintro e w1 ⟨rfl, rfl⟩
  rw [HB.out]
  go_wp2_with fail
  go_ret
  exact ⟨rfl, rfl⟩
theorem refCompare_eq (a b : ByteArray) (w : World) (ha : validB a = true) (hb : validB b = true) (q : (a.toList == b.toList) = true) :
    Calls Tryz.prog 42 #[.string a, .string b] w fun e w' => e = .returned (.int .i64 0) ∧ w = w' := by
  have HA := Lib.hid ha
  have HB := Lib.hid hb
  clear ha hb
  go_enter Tryz.func42, Tryz.ntmps42
  go_wp2_with fail
  refine (refvalid_any a _).mono ?_
  rintro e w1 ⟨rfl, rfl⟩
  rw [HA.out]
  go_wp2_with fail
  refine (refvalid_any b _).mono ?_
  rintro e w1 ⟨rfl, rfl⟩
  rw [HB.out]
  go_wp2_with fail
  go_ret
  exact ⟨rfl, rfl⟩
theorem refCompare_lt (a b : ByteArray) (w : World) (ha : validB a = true) (hb : validB b = true) (q : (a.toList == b.toList) = false) (h : Dec.val (tl a) < Dec.val (tl b)) :
    Calls Tryz.prog 42 #[.string a, .string b] w fun e w' => e = .returned (.int .i64 (-1)) ∧ w = w' := by
  have HA := Lib.hid ha
  have HB := Lib.hid hb
  have H := Lib.hid (decide_eq_true h)
  clear ha hb h
  go_enter Tryz.func42, Tryz.ntmps42
  go_wp2_with fail
  refine (refvalid_any a _).mono ?_
  rintro e w1 ⟨rfl, rfl⟩
  rw [HA.out]
  go_wp2_with fail
  refine (refvalid_any b _).mono ?_
  rintro e w1 ⟨rfl, rfl⟩
  rw [HB.out]
  go_wp2_with fail
  refine (refless_any a b _).mono ?_
  rintro e w1 ⟨rfl, rfl⟩
  rw [Dec.lessL_val (valid_norm HA.out) (valid_norm HB.out), H.out]
  go_wp2_with fail
  go_ret
  exact ⟨rfl, rfl⟩
theorem refCompare_gt (a b : ByteArray) (w : World) (ha : validB a = true) (hb : validB b = true) (q : (a.toList == b.toList) = false) (h : ¬ Dec.val (tl a) < Dec.val (tl b)) :
    Calls Tryz.prog 42 #[.string a, .string b] w fun e w' => e = .returned (.int .i64 1) ∧ w = w' := by
  have HA := Lib.hid ha
  have HB := Lib.hid hb
  have H := Lib.hid (decide_eq_false h)
  clear ha hb h
  go_enter Tryz.func42, Tryz.ntmps42
  go_wp2_with fail
  refine (refvalid_any a _).mono ?_
  rintro e w1 ⟨rfl, rfl⟩
  rw [HA.out]
  go_wp2_with fail
  refine (refvalid_any b _).mono ?_
  rintro e w1 ⟨rfl, rfl⟩
  rw [HB.out]
  go_wp2_with fail
  refine (refless_any a b _).mono ?_
  rintro e w1 ⟨rfl, rfl⟩
  rw [Dec.lessL_val (valid_norm HA.out) (valid_norm HB.out), H.out]
  go_wp2_with fail
  go_ret
  exact ⟨rfl, rfl⟩
theorem refCompare_any (a b : ByteArray) (w : World) :
    Calls Tryz.prog 42 #[.string a, .string b] w fun e w' => e = .returned (.int .i64 (cmpR a b)) ∧ w = w' := by
  by_cases ha : validB a = true
  · by_cases hb : validB b = true
    · by_cases h : Dec.val (tl a) = Dec.val (tl b)
      · have e : cmpR a b = 0 := by unfold cmpR; rw [ha, hb, if_pos (by rfl), if_neg (by omega), if_neg (by omega)]
        rw [e]; exact refCompare_eq a b w ha hb (by rw [str_beq]; exact decide_eq_true (valid_inj ha hb h))
      · have q : (a.toList == b.toList) = false := by rw [str_beq]; exact decide_eq_false (fun e => h (by rw [e]))
        by_cases h2 : Dec.val (tl a) < Dec.val (tl b)
        · have e : cmpR a b = -1 := by unfold cmpR; rw [ha, hb, if_pos (by rfl), if_pos h2]
          rw [e]; exact refCompare_lt a b w ha hb q h2
        · have e : cmpR a b = 1 := by unfold cmpR; rw [ha, hb, if_pos (by rfl), if_neg h2, if_pos (by omega)]
          rw [e]; exact refCompare_gt a b w ha hb q h2
    · have e : cmpR a b = 0 := by unfold cmpR; rw [two_not (fun h => hb h.2)]; rfl
      rw [e]; exact refCompare_bad2 a b w ha (by simpa using hb)
  · have e : cmpR a b = 0 := by unfold cmpR; rw [two_not (fun h => ha h.1)]; rfl
    rw [e]; exact refCompare_bad1 a b w (by simpa using ha)
end Go.Proofs.YtbcoblpnihdhgaaGreatDoor

/-
  The reference's Int and Few of layer 3.
-/
set_option linter.unusedVariables false
set_option maxRecDepth 100000
namespace Go.Proofs.YtbcoblpnihdhgaaGreatDoor
open Go.RowKit
/-- what Int answers -/
def intR (a : ByteArray) : Int × Int := if validB a then (if 1000000000000 < Dec.val (tl a) then (0, 9) else ((Dec.val (tl a) : Nat), 0)) else (0, 1)
def bigT : List UInt8 := [49, 48, 48, 48, 48, 48, 48, 48, 48, 48, 48, 48, 48]
theorem big_norm : Dec.Norm bigT := ⟨by decide, (show ∀ b ∈ bigT, Dec.isD b = true from by decide), by decide⟩
theorem big_val : Dec.val bigT = 1000000000000 := by decide
theorem big_tl : tl ⟨#[49, 48, 48, 48, 48, 48, 48, 48, 48, 48, 48, 48, 48]⟩ = bigT := rfl
theorem refless_big (a : ByteArray) (w : World) (ha : validB a = true) :
    Calls Tryz.prog 67 #[.string ⟨#[49, 48, 48, 48, 48, 48, 48, 48, 48, 48, 48, 48, 48]⟩, .string a] w fun e w' => e = .returned (.bool (decide (1000000000000 < Dec.val (tl a)))) ∧ w = w' := by
  have := refless_any ⟨#[49, 48, 48, 48, 48, 48, 48, 48, 48, 48, 48, 48, 48]⟩ a w
  rw [big_tl, Dec.lessL_val big_norm (valid_norm ha), big_val] at this
  exact this
theorem val_take_le (l : List UInt8) (k : Nat) : Dec.val (l.take k) ≤ Dec.val l := by
  have h := Dec.val_append (l.take k) (l.drop k)
  rw [List.take_append_drop] at h
  have : 1 ≤ 10 ^ (l.drop k).length := Nat.pow_pos (by omega)
  have h2 : Dec.val (l.take k) * 1 ≤ Dec.val (l.take k) * 10 ^ (l.drop k).length := Nat.mul_le_mul_left _ this
  omega
end Go.Proofs.YtbcoblpnihdhgaaGreatDoor

/-
  Plain mathematics of products digit by digit, for layer 3.
-/
set_option linter.unusedVariables false
set_option maxRecDepth 100000
namespace Go.Proofs.YtbcoblpnihdhgaaGreatDoor.Dec
theorem valR_set (l : List Nat) (j x : Nat) (h : j < l.length) : valR (l.set j (l.getD j 0 + x)) = valR l + x * 10 ^ j := by
  induction l generalizing j with
  | nil => simp at h
  | cons d l ih =>
    cases j with
    | zero => simp [valR]; omega
    | succ j =>
      simp only [List.length_cons] at h
      simp only [List.set_cons_succ, valR, List.getD_cons_succ, Nat.pow_succ]
      rw [ih j (by omega), Nat.mul_add]
      have : 10 * (x * 10 ^ j) = x * (10 ^ j * 10) := by rw [Nat.mul_comm 10, Nat.mul_assoc]
      omega
theorem valR_zeros (n : Nat) : valR (List.replicate n 0) = 0 := by
  induction n with
  | zero => rfl
  | succ n ih => rw [List.replicate_succ, valR, ih]
theorem valR_append (l m : List Nat) : valR (l ++ m) = valR l + valR m * 10 ^ l.length := by
  induction l with
  | nil => simp [valR]
  | cons d l ih =>
    simp only [List.cons_append, valR, ih, List.length_cons, Nat.pow_succ, Nat.mul_add]
    have : 10 * (valR m * 10 ^ l.length) = valR m * (10 ^ l.length * 10) := by rw [Nat.mul_comm 10, Nat.mul_assoc]
    omega
/-- the sums of the products of digits, up to a place of the one and a place of the other number -/
structure Muls (a b i k : Nat) (S : List Nat) (m : Nat) : Prop where
  sum : valR S = a % 10 ^ i * b + a / 10 ^ i % 10 * 10 ^ i * (b % 10 ^ k)
  bound : ∀ j, S.getD j 0 ≤ m
theorem Muls.zero (a b L : Nat) : Muls a b 0 0 (List.replicate L 0) 0 := ⟨by simp [valR_zeros, Nat.mod_one], fun j => by
  rw [List.getD_eq_getElem?_getD]
  by_cases h : j < L
  · simp [h]
  · rw [List.getElem?_eq_none (by simpa using h)]; simp⟩
theorem Muls.step {a b i k m : Nat} {S : List Nat} (h : Muls a b i k S m) (hj : i + k < S.length) :
    Muls a b i (k + 1) (S.set (i + k) (S.getD (i + k) 0 + a / 10 ^ i % 10 * (b / 10 ^ k % 10))) (m + 81) := by
  have h1 := Nat.mod_lt (a / 10 ^ i) (show 0 < 10 by omega)
  have h2 := Nat.mod_lt (b / 10 ^ k) (show 0 < 10 by omega)
  refine ⟨?_, fun j => ?_⟩
  · rw [valR_set _ _ _ hj, h.sum, mod_next b k, Nat.mul_add, Nat.pow_add]
    generalize a / 10 ^ i % 10 = x
    generalize b / 10 ^ k % 10 = y
    generalize 10 ^ i = s
    generalize 10 ^ k = t
    have : x * y * (s * t) = x * s * (y * t) := by rw [Nat.mul_mul_mul_comm]
    omega
  · have hb := h.bound
    have h3 : a / 10 ^ i % 10 * (b / 10 ^ k % 10) ≤ 81 := by
      have : a / 10 ^ i % 10 * (b / 10 ^ k % 10) ≤ 9 * 9 := Nat.mul_le_mul (by omega) (by omega)
      omega
    rw [List.getD_eq_getElem?_getD]
    by_cases e : i + k = j
    · subst e
      rw [List.getElem?_set_self hj]
      have := hb (i + k)
      simp only [Option.getD_some]
      omega
    · rw [List.getElem?_set_ne e, ← List.getD_eq_getElem?_getD]
      have := hb j
      omega
theorem Muls.row {a b i k m : Nat} {S : List Nat} (h : Muls a b i k S m) (hb : b < 10 ^ k) : Muls a b (i + 1) 0 S m := by
  refine ⟨?_, h.bound⟩
  rw [h.sum, Nat.mod_eq_of_lt hb, mod_next a i, Nat.add_mul]
  simp [Nat.mod_one]
theorem Muls.done {a b i m : Nat} {S : List Nat} (h : Muls a b i 0 S m) (ha : a < 10 ^ i) : valR S = a * b := by
  rw [h.sum, Nat.mod_eq_of_lt ha]
  simp [Nat.mod_one]
/-- the digits of the sums up to a place, and what is carried -/
structure Carr (S : List Nat) (i : Nat) (D : List Nat) (c : Nat) : Prop where
  len : D.length = i
  small : ∀ d ∈ D, d < 10
  sum : valR D + (c + valR (S.drop i)) * 10 ^ i = valR S
theorem Carr.zero (S : List Nat) : Carr S 0 [] 0 := ⟨rfl, fun d hd => by (cases hd), by simp [valR]⟩
theorem Carr.next {S : List Nat} {i c : Nat} {D : List Nat} (h : Carr S i D c) (hi : i < S.length) : Carr S (i + 1) (D ++ [(S.getD i 0 + c) % 10]) ((S.getD i 0 + c) / 10) := by
  refine ⟨by rw [List.length_append, h.len]; rfl, ?_, ?_⟩
  · intro d hd
    rcases List.mem_append.1 hd with hd | hd
    · exact h.small d hd
    · simp only [List.mem_singleton] at hd; subst hd; exact Nat.mod_lt _ (by omega)
  · have hs := h.sum
    have hd : S.drop i = S.getD i 0 :: S.drop (i + 1) := by
      rw [List.drop_eq_getElem_cons hi]
      simp [List.getD, hi]
    rw [hd, valR] at hs
    rw [valR_snoc, h.len, Nat.pow_succ]
    generalize S.getD i 0 = x at *
    generalize valR (S.drop (i + 1)) = r at *
    generalize 10 ^ i = t at *
    have e1 : ((x + c) / 10 + r) * (t * 10) = ((x + c) / 10 * 10 + 10 * r) * t := by
      rw [Nat.mul_comm t 10, ← Nat.mul_assoc, Nat.add_mul]
      congr 2; omega
    have e2 : (x + c) % 10 * t + ((x + c) / 10 * 10 + 10 * r) * t = (c + (x + 10 * r)) * t := by
      rw [← Nat.add_mul]
      congr 1; omega
    omega
theorem Carr.done {S : List Nat} {D : List Nat} {c : Nat} (h : Carr S S.length D c) (hv : valR S < 10 ^ S.length) : valR D = valR S := by
  have hs := h.sum
  rw [List.drop_length, valR, Nat.add_zero] at hs
  rcases Nat.eq_zero_or_pos c with q | q
  · subst q; omega
  · have : 1 * 10 ^ S.length ≤ c * 10 ^ S.length := Nat.mul_le_mul_right _ q
    omega
end Go.Proofs.YtbcoblpnihdhgaaGreatDoor.Dec

/-
  The reference's products of layer 3.
-/
set_option linter.unusedVariables false
set_option maxRecDepth 100000
namespace Go.Proofs.YtbcoblpnihdhgaaGreatDoor
open Go.RowKit
def intCells (S : List Nat) : List Value := S.map fun d : Nat => Value.int .i64 ((d : Nat) : Int)
theorem infoInt : (Tryz.prog.info? 3).map (fun i => (i.zero, i.size, i.bytes)) = some (some (.int .i64 0), 1, 8) := by kernel_rfl
/-- the row of sums -/
def SumAt (H L : Nat) (S : List Nat) (w : World) : Prop := S.length = L ∧ w.ownsRow H 3 1 (.slice (some ⟨H, 0, none⟩) L L) L (intCells S)
theorem SumAt.cell {H L : Nat} {S : List Nat} {w : World} (h : SumAt H L S w) (j : Nat) (hj : j < L) : w.cell? ⟨H, j, none⟩ = some (.int .i64 ((S.getD j 0 : Nat) : Int)) := by
  rw [World.ownsRow.cellAt h.2 j (by omega)]
  have hl : j < S.length := by rw [h.1]; exact hj
  simp [intCells, List.getD, hl]
theorem SumAt.frozen {H L : Nat} {S : List Nat} {w : World} (h : SumAt H L S w) (j : Nat) : w.frozen? ⟨H, j, none⟩ = false := World.ownsRow.frozenAt h.2 j
theorem SumAt.store {H L : Nat} {S : List Nat} {w : World} (h : SumAt H L S w) (j x : Nat) : SumAt H L (S.set j x) (w.setCell ⟨H, j, none⟩ (.int .i64 (x : Int))) := by
  refine ⟨by rw [List.length_set, h.1], ?_⟩
  have := (World.ownsRow.stored h.2 j (.int .i64 (x : Int))).1
  rw [show intCells (S.set j x) = (intCells S).set j (.int .i64 (x : Int)) by simp [intCells, List.map_set]]
  exact this
/-- the row of digits that are written one after the other -/
def OutAt (B G L : Nat) (Z : List Nat) (w : World) : Prop := Z.length = L ∧ w.ownsRow B 5 1 (.slice (some ⟨G, 0, none⟩) L L) L (numCells Z)
theorem OutAt.frozen {B G L : Nat} {Z : List Nat} {w : World} (h : OutAt B G L Z w) (j : Nat) : w.frozen? ⟨G, j, none⟩ = false := World.ownsRow.frozenAt h.2 j
theorem OutAt.cell {B G L : Nat} {Z : List Nat} {w : World} (h : OutAt B G L Z w) (j : Nat) (hj : j < L) : w.cell? ⟨G, j, none⟩ = some (.int .u8 ((Z.getD j 0 : Nat) : Int)) := by
  rw [World.ownsRow.cellAt h.2 j (by omega)]
  have hl : j < Z.length := by rw [h.1]; exact hj
  simp [numCells, List.getD, hl]
theorem OutAt.store {B G L : Nat} {Z : List Nat} {w : World} (h : OutAt B G L Z w) (j x : Nat) : OutAt B G L (Z.set j x) (w.setCell ⟨G, j, none⟩ (.int .u8 (x : Int))) := by
  refine ⟨by rw [List.length_set, h.1], ?_⟩
  have := (World.ownsRow.stored h.2 j (.int .u8 (x : Int))).1
  rw [show numCells (Z.set j x) = (numCells Z).set j (.int .u8 (x : Int)) by simp [numCells, List.map_set]]
  exact this
theorem SumAt.beside {H L B G L' : Nat} {S Z : List Nat} {w : World} (h : SumAt H L S w) (ho : OutAt B G L' Z w) (hne : H ≠ G) (j x : Nat) : SumAt H L S (w.setCell ⟨G, j, none⟩ (.int .u8 (x : Int))) :=
  ⟨h.1, World.ownsRow.kept h.2 (World.ownsRow.stored ho.2 j _).2 (by right; simpa [Value.ownBlock] using hne)⟩
theorem out_next {D : List Nat} {L i d : Nat} (hD : D.length = i) (hi : i < L) : (D ++ List.replicate (L - i) 0).set i d = (D ++ [d]) ++ List.replicate (L - (i + 1)) 0 := by
  obtain ⟨r, hr⟩ : ∃ r, L - i = r + 1 := ⟨L - i - 1, by omega⟩
  rw [show L - (i + 1) = r by omega, hr, List.replicate_succ]
  subst hD
  simp
theorem refat_still (s : ByteArray) (p x : Nat) (w : World) (hs : s.size ≤ 1099511627776) (hd : Dec.AllD (tl s)) (hx : x = Dec.place (tl s) p) :
    Calls Tryz.prog 84 #[.string s, .int .i64 (p : Int)] w fun e w' => e = .returned (.int .i64 (x : Nat)) ∧ w' = w :=
  Calls.mono (refat_any s p w hs hd) (fun e w' h => ⟨by rw [hx]; exact h.1, h.2.symm⟩)
set_option maxRecDepth 100000 in
set_option maxHeartbeats 4000000 in
theorem refmul_any (s t : ByteArray) (w : World) (hs0 : 0 < s.size) (ht0 : 0 < t.size) (hs : s.size ≤ 1000) (ht : t.size ≤ 1000) (hds : Dec.AllD (tl s)) (hdt : Dec.AllD (tl t)) :
    Calls Tryz.prog 63 #[.string s, .string t] w fun e w' => e = .returned (.string (bx (Dec.digs (Dec.val (tl s) * Dec.val (tl t))))) ∧ Below w.heap.size w w' := by
  obtain ⟨j0, hj0, jz0, jz1, jz2⟩ := info_parts infoInt
  have HDS := Lib.hid hds
  have HDT := Lib.hid hdt
  obtain ⟨L, hL⟩ : ∃ L, L = s.size + t.size + 1 := ⟨_, rfl⟩
  have HL := Lib.hid hL
  clear hL
  have i1 : IntKind.i64.wrap ((s.size : Int) + (t.size : Int)) = (s.size : Int) + (t.size : Int) := IntWalk.i64_in _ (by omega)
  have i2 : IntKind.i64.wrap ((s.size : Int) + (t.size : Int) + 1) = (s.size : Int) + (t.size : Int) + 1 := IntWalk.i64_in _ (by omega)
  clear hds hdt
  go_enter Tryz.func63, Tryz.ntmps63
  go_wp2_with (at_make; refine wpList_make_full _ rfl _ _ 84 rfl w.heap.size 3 j0 (.int .i64 0) 1 Tryz.underlying84 hj0 jz0 jz1 _ _ _ _ L rfl rfl (by have := HL.out; omega) (by have := HL.out; omega) (by rw [jz2]; have := HL.out; omega) (by unfold maxLen; have := HL.out; omega) (Nat.le_refl _) ?_)
  intro w1 hown hgrow
  have hB1 : Below w.heap.size w w1 := (Below.refl _ _).grown hgrow (Nat.le_refl _) (fun k h => by cases h)
  have hS1 : Hid (SumAt w.heap.size L (List.replicate L 0) w1) := Lib.hid (by
    refine ⟨by simp, ?_⟩
    have e : (madeCells #[Value.int .i64 0] L).toList = intCells (List.replicate L 0) := by
      rw [toList_madeCells_one]; simp [intCells]
    rw [← e]; exact hown)
  clear hown hgrow
  go_wp2_with fail
  go_loopw [6] (fun ii wr => ∃ (i m : Nat) (S : List Nat), i ≤ s.size ∧ ii = .int .i64 (i : Int) ∧ m ≤ 81000 * i ∧ Hid (Dec.Muls (Dec.val (tl s)) (Dec.val (tl t)) i 0 S m) ∧ Hid (SumAt w.heap.size L S wr) ∧ Below w.heap.size w wr) (fun ii _ => s.size - (intOf ii).toNat)
  case atStart => exact ⟨0, 0, _, by omega, rfl, by omega, Lib.hid (Dec.Muls.zero _ _ L), hS1, hB1⟩
  case round =>
    obtain ⟨i, m, S, hi, rfl, hm, hM, hS, hB⟩ := hrel
    clear hS1 hB1
    by_cases hlt : i < s.size
    · go_wp2_with fail
      go_loopw [7] (fun kk wq => ∃ (k m : Nat) (S : List Nat), k ≤ t.size ∧ kk = .int .i64 (k : Int) ∧ m ≤ 81000 * i + 81 * k ∧ Hid (Dec.Muls (Dec.val (tl s)) (Dec.val (tl t)) i k S m) ∧ Hid (SumAt w.heap.size L S wq) ∧ Below w.heap.size w wq) (fun kk _ => t.size - (intOf kk).toNat)
      case atStart => exact ⟨0, m, S, by omega, rfl, by omega, hM, hS, hB⟩
      case round =>
        clear hM hS hB
        obtain ⟨k, m, S, hk, rfl, hm, hM, hS, hB⟩ := hrel
        by_cases hklt : k < t.size
        · have hjL : i + k < L := by have := HL.out; omega
          obtain ⟨c, hc⟩ : ∃ c, c = S.getD (i + k) 0 := ⟨_, rfl⟩
          have hcell := hS.out.cell (i + k) hjL
          rw [← hc] at hcell
          have etn : ((i : Int) + (k : Int)).toNat = i + k := by omega
          rw [← etn] at hcell
          have hfz := hS.out.frozen (i + k)
          rw [← etn] at hfz
          have ETN := Lib.hid etn
          clear etn
          have hcm : c ≤ m := by rw [hc]; exact hM.out.bound (i + k)
          obtain ⟨p, hp⟩ : ∃ p, p = Dec.place (tl s) i := ⟨_, rfl⟩
          obtain ⟨q, hq⟩ : ∃ q, q = Dec.place (tl t) k := ⟨_, rfl⟩
          have hp10 : p < 10 := by rw [hp]; exact place_lt _ _
          have hq10 : q < 10 := by rw [hq]; exact place_lt _ _
          obtain ⟨pq, hpq⟩ : ∃ pq, pq = p * q := ⟨_, rfl⟩
          have hpq81 : pq ≤ 81 := by rw [hpq]; have : p * q ≤ 9 * 9 := Nat.mul_le_mul (by omega) (by omega); omega
          have e1 : IntKind.i64.wrap ((i : Int) + (k : Int)) = (i : Int) + (k : Int) := IntWalk.i64_in _ (by omega)
          have HC := Lib.hid hc
          clear hc
          have e0 : (0 : Int) ≤ (i : Int) + (k : Int) := by omega
          have e2 : (i : Int) + (k : Int) < (L : Int) := by omega
          have e3 : (p : Int) * (q : Int) = (pq : Int) := by rw [hpq]; simp
          have e4 : IntKind.i64.wrap (pq : Int) = (pq : Int) := IntWalk.i64_in _ (by omega)
          have e5 : IntKind.i64.wrap ((c : Int) + (pq : Int)) = (c : Int) + (pq : Int) := IntWalk.i64_in _ (by omega)
          have HP := Lib.hid hp
          have HQ := Lib.hid hq
          have HPQ := Lib.hid hpq
          clear hp hq hpq
          go_wp2_with fail
          go_still_tail 19, (by kernel_rfl)
          still_call (refat_still s i p _ (by omega) HDS.out HP.out)
          repeat still_step
          still_call (refat_still t k q _ (by omega) HDT.out HQ.out)
          repeat still_step
          try refine wpStill_nil ?_
          change wpList _ _ _ _ _ wr.drew
          have hS2 : Hid (SumAt w.heap.size L S wr.drew) := hS
          have hB2 : Below w.heap.size w wr.drew := hB.drew
          have hc2 : wr.drew.cell? ⟨w.heap.size, ((i : Int) + (k : Int)).toNat, none⟩ = some (.int .i64 (c : Int)) := hcell
          have hf2 : wr.drew.frozen? ⟨w.heap.size, ((i : Int) + (k : Int)).toNat, none⟩ = false := hfz
          clear hcell hfz
          generalize wr.drew = wd at hS2 hB2 hc2 hf2 ⊢
          go_wp2_with fail
          refine ⟨⟨k + 1, m + 81, S.set (i + k) (c + pq), by omega, by simp, by omega, ?_, ?_, ?_⟩, by simp [intOf]; omega⟩
          · refine Lib.hid ?_
            rw [HPQ.out, HP.out, HQ.out, HC.out]
            exact hM.out.step (by rw [hS.out.1]; exact hjL)
          · refine Lib.hid ?_
            have := hS2.out.store (i + k) (c + pq)
            rw [show ((c : Int) + (pq : Int)) = ((c + pq : Nat) : Int) by simp]
            exact this
          · exact hB2.setCell (Nat.le_refl _) _
        · have hkt : k = t.size := by omega
          go_wp2_with fail
          refine ⟨⟨i + 1, m, S, by omega, by simp, by omega, ?_, hS, hB⟩, by simp [intOf]; omega⟩
          exact Lib.hid (hM.out.row (by rw [hkt]; exact val_bound HDT.out (Nat.le_refl _)))
    · have hit : i = s.size := by omega
      have hval : Dec.valR S = Dec.val (tl s) * Dec.val (tl t) := hM.out.done (by rw [hit]; exact val_bound HDS.out (Nat.le_refl _))
      have HV := Lib.hid hval
      have hm2 : m ≤ 81000000 := by omega
      have hbnd : ∀ j, S.getD j 0 ≤ 81000000 := fun j => Nat.le_trans (hM.out.bound j) hm2
      have HBN := Lib.hid hbnd
      clear hval hbnd
      obtain ⟨i0, hi0, hz0, hz1, hz2⟩ := info_parts infoByte
      have hL2 : L ≤ 2001 := by have := HL.out; omega
      have hL1 : 0 < L := by have := HL.out; omega
      clear hM
      go_wp2_with (at_make; refine wpList_make_full _ rfl _ _ 92 rfl w.heap.size 5 i0 (.int .u8 0) 1 Tryz.underlying92 hi0 hz0 hz1 _ _ _ _ L rfl rfl rfl rfl (by rw [hz2]; omega) (by unfold maxLen; omega) hB.size ?_)
      intro w2 hown hgrow
      obtain ⟨G, hG⟩ : ∃ G, G = wr.heap.size := ⟨_, rfl⟩
      have hHG : w.heap.size < G := by rw [hG]; exact (World.ownsRow.lt hS.out.2 w.heap.size rfl).2
      rw [← hG] at hown ⊢
      have hB2 : Below w.heap.size w w2 := hB.grown hgrow hB.size (fun k h => by cases h)
      have hS2 : Hid (SumAt w.heap.size L S w2) := Lib.hid ⟨hS.out.1, World.ownsRow.kept hS.out.2 hgrow (by right; simp [Value.ownBlock])⟩
      have hO2 : Hid (OutAt w.heap.size G L ([] ++ List.replicate L 0) w2) := Lib.hid (by
        refine ⟨by simp, ?_⟩
        have e : (madeCells #[Value.int .u8 0] L).toList = numCells ([] ++ List.replicate L 0) := by
          rw [toList_madeCells_one]; simp [numCells]
        rw [← e]; exact hown)
      clear hown hgrow hS hB hG
      go_wp2_with fail
      go_loopw [9, 10] (fun cc ii wr => ∃ (i c : Nat) (D : List Nat), i ≤ L ∧ ii = .int .i64 (i : Int) ∧ cc = .int .i64 (c : Int) ∧ c ≤ 81000000 ∧ Hid (Dec.Carr S i D c) ∧ Hid (SumAt w.heap.size L S wr) ∧ Hid (OutAt w.heap.size G L (D ++ List.replicate (L - i) 0) wr) ∧ Below w.heap.size w wr) (fun _ ii _ => L - (intOf ii).toNat)
      case atStart => exact ⟨0, 0, [], by omega, rfl, rfl, by omega, Lib.hid (Dec.Carr.zero _), hS2, hO2, hB2⟩
      case round =>
        clear hS2 hO2 hB2
        obtain ⟨i, c, D, hi, rfl, rfl, hcm, hC, hS, hO, hB⟩ := hrel
        by_cases hlt : i < L
        · obtain ⟨x, hx⟩ : ∃ x, x = S.getD i 0 := ⟨_, rfl⟩
          have hcell := hS.out.cell i hlt
          rw [← hx] at hcell
          have hfz := hO.out.frozen i
          have hoc := hO.out.cell i hlt
          generalize (D ++ List.replicate (L - i) 0).getD i 0 = z0 at hoc
          have hx81 : x ≤ 81000000 := by rw [hx]; exact HBN.out i
          obtain ⟨d, hd⟩ : ∃ d, d = (x + c) % 10 := ⟨_, rfl⟩
          obtain ⟨e', he⟩ : ∃ e', e' = (x + c) / 10 := ⟨_, rfl⟩
          have hd10 : d < 10 := by rw [hd]; exact Nat.mod_lt _ (by omega)
          have he1 : e' ≤ 81000000 := by omega
          have hA : Hid (Dec.Carr S (i + 1) (D ++ [d]) e') := Lib.hid (by rw [hd, he, hx]; exact hC.out.next (by rw [hS.out.1]; exact hlt))
          have w1 : IntKind.i64.wrap ((x : Int) + (c : Int)) = (x : Int) + (c : Int) := IntWalk.i64_in _ (by omega)
          have r1 : ((x : Int) + (c : Int)).tmod 10 = (d : Int) := by rw [Int.tmod_eq_emod_of_nonneg (by omega)]; omega
          have r2 : ((x : Int) + (c : Int)).tdiv 10 = (e' : Int) := by rw [Int.tdiv_eq_ediv_of_nonneg (by omega)]; omega
          have w3 := u8_in hd10
          have w4 : IntKind.i64.wrap ((i : Int) + 1) = (i : Int) + 1 := IntWalk.i64_in _ (by omega)
          have w5 : IntKind.i64.wrap (d : Int) = (d : Int) := IntWalk.i64_in _ (by omega)
          have w6 : IntKind.i64.wrap (e' : Int) = (e' : Int) := IntWalk.i64_in _ (by omega)
          clear hx hd he
          go_wp2_with fail
          refine ⟨⟨i + 1, e', D ++ [d], by omega, by simp, rfl, he1, hA, ?_, ?_, ?_⟩, by simp [intOf]; omega⟩
          · exact Lib.hid (hS.out.beside hO.out (by omega) i d)
          · refine Lib.hid ?_
            rw [← out_next hC.out.len hlt]
            exact hO.out.store i d
          · exact hB.setCell (Nat.le_of_lt hHG) _
        · obtain rfl : L = i := by omega

          have hDl : D.length = L := hC.out.len
          have hv2 : Dec.valR D = Dec.valR S := Dec.Carr.done (by rw [hS.out.1]; exact hC.out) (by
            rw [HV.out, hS.out.1, HL.out]
            have h1 := val_bound (k := s.size) HDS.out (Nat.le_refl _)
            have h2 := val_bound (k := t.size) HDT.out (Nat.le_refl _)
            have h3 : Dec.val (tl s) * Dec.val (tl t) ≤ 10 ^ s.size * 10 ^ t.size := Nat.mul_le_mul (by omega) (by omega)
            rw [← Nat.pow_add] at h3
            exact Nat.lt_of_le_of_lt h3 (Nat.pow_lt_pow_right (by omega) (by omega)))
          have HW := Lib.hid (hv2.trans HV.out)
          have hOw : OwnN w.heap.size wr (.slice (some ⟨G, 0, none⟩) L L) D := by
            have := hO.out.2
            simp only [Nat.sub_self, List.replicate_zero, List.append_nil] at this
            unfold OwnN
            rw [hDl]; exact this
          have HD0 : Hid (0 < D.length) := Lib.hid (by omega)
          have HDL : Hid (D.length ≤ 1099511627776) := Lib.hid (by omega)
          have HSM := Lib.hid hC.out.small
          clear hv2 hDl hC hO hS
          go_wp2_with fail
          refine (reftext_any _ _ D _ hOw HD0.out HDL.out HSM.out).mono ?_
          rintro e w3 ⟨rfl, hb3⟩
          rw [HW.out]
          go_wp2_with fail
          go_ret
          exact ⟨rfl, hB.trans (hb3.mono hB.size)⟩
end Go.Proofs.YtbcoblpnihdhgaaGreatDoor

/-
  The reference's Mul of layer 3: one contract that says all that it answers.
-/
set_option linter.unusedVariables false
set_option maxRecDepth 100000
namespace Go.Proofs.YtbcoblpnihdhgaaGreatDoor
open Go.RowKit
theorem refMul_bad1 (a b : ByteArray) (w : World) (ha : validB a = false) :
    Calls Tryz.prog 39 #[.string a, .string b] w fun e w' => e = .returned (.tuple #[.string ⟨#[]⟩, .int .i64 1]) ∧ w = w' := by
  have HA := Lib.hid ha
  clear ha
  go_enter Tryz.func39, Tryz.ntmps39
  go_wp2_with fail
  refine (refvalid_any a _).mono ?_
  rintro e w1 ⟨rfl, rfl⟩
  rw [HA.out]
  go_wp2_with fail
  go_ret2
  exact ⟨rfl, rfl⟩
theorem refMul_bad2 (a b : ByteArray) (w : World) (ha : validB a = true) (hb : validB b = false) :
    Calls Tryz.prog 39 #[.string a, .string b] w fun e w' => e = .returned (.tuple #[.string ⟨#[]⟩, .int .i64 1]) ∧ w = w' := by
  have HA := Lib.hid ha
  clear ha
  have HB := Lib.hid hb
  clear hb
  go_enter Tryz.func39, Tryz.ntmps39
  go_wp2_with fail
  refine (refvalid_any a _).mono ?_
  rintro e w1 ⟨rfl, rfl⟩
  rw [HA.out]
  go_wp2_with fail
  refine (refvalid_any b _).mono ?_
  rintro e w1 ⟨rfl, rfl⟩
  rw [HB.out]
  go_wp2_with fail
  go_ret2
  exact ⟨rfl, rfl⟩
set_option maxHeartbeats 1000000 in
theorem refMul_long (a b : ByteArray) (w : World) (ha : validB a = true) (hb : validB b = true) (h : 1000 < (nS (Dec.val (tl a) * Dec.val (tl b))).size) :
    Calls Tryz.prog 39 #[.string a, .string b] w fun e w' => e = .returned (.tuple #[.string ⟨#[]⟩, .int .i64 2]) ∧ Below w.heap.size w w' := by
  have HA := Lib.hid ha
  have HB := Lib.hid hb
  have SA := valid_size ha
  have SB := valid_size hb
  have PA := valid_pos ha
  have PB := valid_pos hb
  have NA := Lib.hid (valid_norm ha)
  have NB := Lib.hid (valid_norm hb)
  clear ha hb
  have H := Lib.hid h
  clear h
  go_enter Tryz.func39, Tryz.ntmps39
  go_wp2_with fail
  refine (refvalid_any a _).mono ?_
  rintro e w1 ⟨rfl, rfl⟩
  rw [HA.out]
  go_wp2_with fail
  refine (refvalid_any b _).mono ?_
  rintro e w1 ⟨rfl, rfl⟩
  rw [HB.out]
  go_wp2_with fail
  refine (refmul_any a b _ PA PB SA SB NA.out.all NB.out.all).mono ?_
  rintro e w2 ⟨rfl, hb2⟩
  go_wp2_with fail
  refine (refwithin_long _ _ H.out).mono ?_
  rintro e w3 ⟨rfl, rfl⟩
  go_wp2_with fail
  go_ret2
  exact ⟨rfl, hb2⟩
set_option maxHeartbeats 1000000 in
theorem refMul_ok (a b : ByteArray) (w : World) (ha : validB a = true) (hb : validB b = true) (h : ¬ 1000 < (nS (Dec.val (tl a) * Dec.val (tl b))).size) :
    Calls Tryz.prog 39 #[.string a, .string b] w fun e w' => e = .returned (.tuple #[.string (nS (Dec.val (tl a) * Dec.val (tl b))), .int .i64 0]) ∧ Below w.heap.size w w' := by
  have HA := Lib.hid ha
  have HB := Lib.hid hb
  have SA := valid_size ha
  have SB := valid_size hb
  have PA := valid_pos ha
  have PB := valid_pos hb
  have NA := Lib.hid (valid_norm ha)
  have NB := Lib.hid (valid_norm hb)
  clear ha hb
  have H := Lib.hid h
  clear h
  go_enter Tryz.func39, Tryz.ntmps39
  go_wp2_with fail
  refine (refvalid_any a _).mono ?_
  rintro e w1 ⟨rfl, rfl⟩
  rw [HA.out]
  go_wp2_with fail
  refine (refvalid_any b _).mono ?_
  rintro e w1 ⟨rfl, rfl⟩
  rw [HB.out]
  go_wp2_with fail
  refine (refmul_any a b _ PA PB SA SB NA.out.all NB.out.all).mono ?_
  rintro e w2 ⟨rfl, hb2⟩
  go_wp2_with fail
  refine (refwithin_ok _ _ H.out).mono ?_
  rintro e w3 ⟨rfl, rfl⟩
  go_wp2_with fail
  go_ret2
  exact ⟨rfl, hb2⟩
theorem refMul_any (a b : ByteArray) (w : World) : Calls Tryz.prog 39 #[.string a, .string b] w (Gives2 (mulR a b) w) := by
  have no : ∀ {Q : Ending → World → Prop}, (∀ e w', (e = .returned (.tuple #[.string ⟨#[]⟩, .int .i64 1]) ∧ w = w') → Q e w') → True := fun _ => trivial
  by_cases ha : validB a = true
  · by_cases hb : validB b = true
    · have e : mulR a b = within (Dec.val (tl a) * Dec.val (tl b)) := by unfold mulR; rw [ha, hb]; rfl
      rw [e]
      by_cases h : 1000 < (nS (Dec.val (tl a) * Dec.val (tl b))).size
      · rw [within, if_neg (by omega)]
        exact refMul_long a b w ha hb h
      · rw [within, if_pos (by omega)]
        exact refMul_ok a b w ha hb h
    · have e : mulR a b = (⟨#[]⟩, 1) := by unfold mulR; rw [two_not (fun h => hb h.2)]; rfl
      rw [e]
      refine (refMul_bad2 a b w ha (by simpa using hb)).mono ?_
      rintro e w' ⟨rfl, rfl⟩
      exact ⟨rfl, Below.refl _ _⟩
  · have e : mulR a b = (⟨#[]⟩, 1) := by unfold mulR; rw [two_not (fun h => ha h.1)]; rfl
    rw [e]
    refine (refMul_bad1 a b w (by simpa using ha)).mono ?_
    rintro e w' ⟨rfl, rfl⟩
    exact ⟨rfl, Below.refl _ _⟩
end Go.Proofs.YtbcoblpnihdhgaaGreatDoor

/-
  The contracts of the check of lengths in the statements of layer 3: for lists that are not empty.
-/
set_option linter.unusedVariables false
set_option maxRecDepth 100000
namespace Go.Proofs.YtbcoblpnihdhgaaGreatDoor
open Go.RowKit
/-- a list of texts, not empty -/
def TxtAt (w : World) (v : Value) (ss : List ByteArray) : Prop :=
  0 < ss.length ∧ ∃ b off cap, v = .slice (some ⟨b, off, none⟩) ss.length cap ∧ ∀ j (hj : j < ss.length), w.cell? ⟨b, off + j, none⟩ = some (.string ss[j])
def few80 (ss : List ByteArray) : Bool := ss.all fun s => decide (s.size ≤ 80)
end Go.Proofs.YtbcoblpnihdhgaaGreatDoor

/-
  The examples of chapter 3 as plain facts: what the functions answer at valid numbers.
-/
set_option linter.unusedVariables false
set_option maxRecDepth 100000
namespace Go.Proofs.YtbcoblpnihdhgaaGreatDoor
open Go.RowKit
theorem nS_val {c : ByteArray} (hc : validB c = true) : nS (Dec.val (tl c)) = c := (nS_of hc).symm
theorem within_is {c : ByteArray} {n : Nat} (hc : validB c = true) (h : Dec.val (tl c) = n) : within n = (c, 0) := by
  subst h
  unfold within
  rw [nS_val hc, if_pos (valid_size hc)]
theorem both_valid {a b : ByteArray} (ha : validB a = true) (hb : validB b = true) : (validB a && validB b) = true := by rw [ha, hb]; rfl
theorem addR_is {a b c : ByteArray} (ha : validB a = true) (hb : validB b = true) (hc : validB c = true) (h : Dec.val (tl c) = Dec.val (tl a) + Dec.val (tl b)) : addR a b = (c, 0) := by
  unfold addR; rw [if_pos (both_valid ha hb), within_is hc h]
theorem mulR_is {a b c : ByteArray} (ha : validB a = true) (hb : validB b = true) (hc : validB c = true) (h : Dec.val (tl c) = Dec.val (tl a) * Dec.val (tl b)) : mulR a b = (c, 0) := by
  unfold mulR; rw [if_pos (both_valid ha hb), within_is hc h]
theorem subR_is {a b c : ByteArray} (ha : validB a = true) (hb : validB b = true) (hc : validB c = true) (hl : Dec.val (tl b) ≤ Dec.val (tl a)) (h : Dec.val (tl c) = Dec.val (tl a) - Dec.val (tl b)) : subR a b = (c, 0) := by
  unfold subR; rw [if_pos (both_valid ha hb), if_neg (by omega), ← h, nS_val hc]
theorem subR_less {a b : ByteArray} (ha : validB a = true) (hb : validB b = true) (h : Dec.val (tl a) < Dec.val (tl b)) : subR a b = (⟨#[]⟩, 9) := by
  unfold subR; rw [if_pos (both_valid ha hb), if_pos h]
theorem gcdR_is {a b c : ByteArray} (ha : validB a = true) (hb : validB b = true) (hc : validB c = true) (h : Dec.val (tl c) = Nat.gcd (Dec.val (tl a)) (Dec.val (tl b))) : gcdR a b = (c, 0) := by
  unfold gcdR; rw [if_pos (both_valid ha hb), ← h, nS_val hc]
theorem divR_zero {a b : ByteArray} (ha : validB a = true) (hb : validB b = true) (h : Dec.val (tl b) = 0) : divR a b = (⟨#[]⟩, ⟨#[]⟩, 14) := by
  unfold divR; rw [if_pos (both_valid ha hb), if_pos h]
theorem divR_is {a b q r : ByteArray} (ha : validB a = true) (hb : validB b = true) (hq : validB q = true) (hr : validB r = true) (h0 : Dec.val (tl b) ≠ 0) (h1 : Dec.val (tl q) = Dec.val (tl a) / Dec.val (tl b)) (h2 : Dec.val (tl r) = Dec.val (tl a) % Dec.val (tl b)) : divR a b = (q, r, 0) := by
  unfold divR; rw [if_pos (both_valid ha hb), if_neg h0, ← h1, ← h2, nS_val hq, nS_val hr]
theorem cmpR_less {a b : ByteArray} (ha : validB a = true) (hb : validB b = true) (h : Dec.val (tl a) < Dec.val (tl b)) : cmpR a b = -1 := by
  unfold cmpR; rw [if_pos (both_valid ha hb), if_pos h]
theorem cmpR_bad {a b : ByteArray} (ha : validB a = false) : cmpR a b = 0 := by
  unfold cmpR; rw [ha, Bool.false_and]; rfl
theorem intR_bad {a : ByteArray} (ha : validB a = false) : intR a = (0, 1) := by
  unfold intR; rw [ha]; rfl
theorem intR_big {a : ByteArray} (ha : validB a = true) (h : 1000000000000 < Dec.val (tl a)) : intR a = (0, 9) := by
  unfold intR; rw [if_pos ha, if_pos h]
theorem ex_add : addR ⟨#[57, 57, 57]⟩ ⟨#[49]⟩ = (⟨#[49, 48, 48, 48]⟩, 0) := addR_is (by decide +kernel) (by decide +kernel) (by decide +kernel) (by decide +kernel)
theorem ex_sub : subR ⟨#[49, 48, 48, 48]⟩ ⟨#[49]⟩ = (⟨#[57, 57, 57]⟩, 0) := subR_is (by decide +kernel) (by decide +kernel) (by decide +kernel) (by decide +kernel) (by decide +kernel)
theorem ex_less : subR ⟨#[49]⟩ ⟨#[50]⟩ = (⟨#[]⟩, 9) := subR_less (by decide +kernel) (by decide +kernel) (by decide +kernel)
theorem ex_mul : mulR ⟨#[49, 50, 51, 52, 53, 54, 55, 56, 57, 48, 49, 50, 51, 52, 53, 54, 55, 56, 57, 48]⟩ ⟨#[49, 48]⟩ = (⟨#[49, 50, 51, 52, 53, 54, 55, 56, 57, 48, 49, 50, 51, 52, 53, 54, 55, 56, 57, 48, 48]⟩, 0) := mulR_is (by decide +kernel) (by decide +kernel) (by decide +kernel) (by decide +kernel)
theorem ex_div : divR ⟨#[49, 48, 48, 48]⟩ ⟨#[55]⟩ = (⟨#[49, 52, 50]⟩, ⟨#[54]⟩, 0) := divR_is (by decide +kernel) (by decide +kernel) (by decide +kernel) (by decide +kernel) (by decide +kernel) (by decide +kernel) (by decide +kernel)
theorem ex_zero : divR ⟨#[55]⟩ ⟨#[48]⟩ = (⟨#[]⟩, ⟨#[]⟩, 14) := divR_zero (by decide +kernel) (by decide +kernel) (by decide +kernel)
theorem ex_gcd : gcdR ⟨#[49, 50]⟩ ⟨#[49, 56]⟩ = (⟨#[54]⟩, 0) := gcdR_is (by decide +kernel) (by decide +kernel) (by decide +kernel) (by decide +kernel)
theorem ex_gcd0 : gcdR ⟨#[48]⟩ ⟨#[53]⟩ = (⟨#[53]⟩, 0) := gcdR_is (by decide +kernel) (by decide +kernel) (by decide +kernel) (by decide +kernel)
theorem ex_of : ofR (-1) = (⟨#[]⟩, 9) := by unfold ofR; rfl
theorem ex_int : intR ⟨#[49, 48, 48, 48, 48, 48, 48, 48, 48, 48, 48, 48, 49]⟩ = (0, 9) := intR_big (by decide +kernel) (by decide +kernel)
theorem ex_int0 : intR ⟨#[48, 48, 55]⟩ = (0, 1) := intR_bad (by decide +kernel)
theorem ex_cmp : cmpR ⟨#[57]⟩ ⟨#[49, 48]⟩ = -1 := cmpR_less (by decide +kernel) (by decide +kernel) (by decide +kernel)
theorem ex_cmp0 : cmpR ⟨#[48, 55]⟩ ⟨#[56]⟩ = 0 := cmpR_bad (by decide +kernel)
end Go.Proofs.YtbcoblpnihdhgaaGreatDoor
