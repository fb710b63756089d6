/-
  The program's subtraction of a multiple of the divisor from a part of the dividend, and the way back.
-/
import Derived.Test.YtbcoblpnihdhgaaDoorLmEst
set_option linter.unusedVariables false
set_option maxRecDepth 100000
namespace Go.Proofs.YtbcoblpnihdhgaaDoor
open Go.RowKit
/-- a world with a carry, a borrow and a row that was there before -/
structure Work2 (w : World) (C c D b H L : Nat) (S : List Nat) (wr : World) : Prop where
  car : CarAt C c wr
  bor : CarAt D b wr
  row : RowAt H L S wr
  bes : Bes H w wr
  hc : w.heap.size ≤ C
  hd : w.heap.size ≤ D
  hh : H < w.heap.size
  ne : C ≠ D
theorem Work2.drew {w : World} {C c D b H L : Nat} {S : List Nat} {wr : World} (h : Work2 w C c D b H L S wr) : Work2 w C c D b H L S wr.drew :=
  ⟨h.car, h.bor, h.row.below (Below.refl _ _).drew, h.bes.trans (Bes.of (Below.refl _ _).drew), h.hc, h.hd, h.hh, h.ne⟩
theorem Bes.put {B : Nat} {w wr : World} (h : Bes B w wr) {C : Nat} (i : Nat) (u : Value) (hC : w.heap.size ≤ C) : Bes B w (wr.setCell ⟨C, i, none⟩ u) :=
  ⟨h.os, h.tape, h.output, by simpa [World.setCell] using h.size, fun k hk hn => (Below.heap_setCell _ _ _ _ (by omega : k ≠ C)).trans (h.block k hk hn)⟩
theorem Bes.putSelf {B : Nat} {w wr : World} (h : Bes B w wr) (i : Nat) (u : Value) : Bes B w (wr.setCell ⟨B, i, none⟩ u) :=
  h.trans (Bes.set _ _ _ _)
theorem Work2.putC {w : World} {C c D b H L : Nat} {S : List Nat} {wr : World} (h : Work2 w C c D b H L S wr) (x : Nat) : Work2 w C x D b H L S (wr.setCell ⟨C, 0, none⟩ (.int .i64 (x : Int))) :=
  ⟨h.car.store x, h.bor.bes (Bes.set _ _ _ _) (Ne.symm h.ne), h.row.bes (Bes.set _ _ _ _) (by have := h.hc; have := h.hh; omega), h.bes.put _ _ h.hc, h.hc, h.hd, h.hh, h.ne⟩
theorem Work2.putD {w : World} {C c D b H L : Nat} {S : List Nat} {wr : World} (h : Work2 w C c D b H L S wr) (x : Nat) : Work2 w C c D x H L S (wr.setCell ⟨D, 0, none⟩ (.int .i64 (x : Int))) :=
  ⟨h.car.bes (Bes.set _ _ _ _) h.ne, h.bor.store x, h.row.bes (Bes.set _ _ _ _) (by have := h.hd; have := h.hh; omega), h.bes.put _ _ h.hd, h.hc, h.hd, h.hh, h.ne⟩
theorem Work2.store {w : World} {C c D b H L : Nat} {S : List Nat} {wr : World} (h : Work2 w C c D b H L S wr) (j x : Nat) : Work2 w C c D b H L (S.set j x) (wr.setCell ⟨H, j, none⟩ (.int .i64 (x : Int))) :=
  ⟨h.car.bes (Bes.set _ _ _ _) (by have := h.hc; have := h.hh; omega), h.bor.bes (Bes.set _ _ _ _) (by have := h.hd; have := h.hh; omega), h.row.store j x, h.bes.putSelf _ _, h.hc, h.hd, h.hh, h.ne⟩
theorem Work2.made {w : World} {H L : Nat} {S : List Nat} (hR : RowAt H L S w) : Work2 w w.heap.size 0 (w.heap.size + 1) 0 H L S ((w.alloc (.cells #[.int .i64 0] 3)).alloc (.cells #[.int .i64 0] 3)) := by
  have hb : Below w.heap.size w ((w.alloc (.cells #[.int .i64 0] 3)).alloc (.cells #[.int .i64 0] 3)) := ((Below.refl _ _).alloc (Nat.le_refl _) _).alloc (by simp) _
  have h2 := heap_lastM (w.alloc (.cells #[.int .i64 0] 3)) (.cells #[.int .i64 0] 3)
  refine ⟨?_, ?_, hR.below hb, Bes.of hb, Nat.le_refl _, Nat.le_succ _, hR.lt, by omega⟩
  · have := (alloc_below (w.alloc (.cells #[.int .i64 0] 3)) (.cells #[.int .i64 0] 3)).block w.heap.size (by simp)
    exact this.trans (heap_lastM w _)
  · unfold CarAt
    simpa using h2
/-- what is subtracted up to a place -/
structure Subts (d f i L : Nat) (S0 : List Nat) (j : Nat) (S : List Nat) (c b : Nat) : Prop where
  lo : Lim.Lo S
  len : S.length = L
  one : b ≤ 1
  car : c = f * (d % Lim.B ^ j) / Lim.B ^ j
  same : ∀ x, i + j ≤ x → S.getD x 0 = S0.getD x 0
  sum : Lim.lv S + f * (d % Lim.B ^ j) * Lim.B ^ i = Lim.lv S0 + c * Lim.B ^ (i + j) + b * Lim.B ^ (i + j)
theorem Subts.start {d f i : Nat} {S0 : List Nat} (h : Lim.Lo S0) : Subts d f i S0.length S0 0 S0 0 0 :=
  ⟨h, rfl, by omega, by simp [Nat.mod_one], fun _ _ => rfl, by simp [Nat.mod_one]⟩
theorem car_lt {f x y : Nat} (hf : f ≤ Lim.B) (hx : x < y) : f * x / y < Lim.B := by
  rw [Nat.div_lt_iff_lt_mul (by omega)]
  rcases Nat.eq_zero_or_pos f with q | q
  · subst q; rw [Nat.zero_mul]; exact Nat.mul_pos Lim.B_pos (by omega)
  · exact Nat.lt_of_lt_of_le (Nat.mul_lt_mul_of_pos_left hx q) (Nat.mul_le_mul_right _ hf)
theorem Subts.small {d f i L j c b : Nat} {S0 S : List Nat} (h : Subts d f i L S0 j S c b) (hf : f ≤ Lim.B) : c < Lim.B := by
  rw [h.car]; exact car_lt hf (Nat.mod_lt _ (Lim.B_pow j))
theorem Subts.next {d f i L j c b : Nat} {S0 S : List Nat} (h : Subts d f i L S0 j S c b) (hf : f ≤ Lim.B) (hi : i + j < L) (x : Nat) (hx : x = S.getD (i + j) 0) (dd : Nat) (hdd : dd = (f * Lim.pl d j + c) % Lim.B) (e' : Nat) (he : e' = (f * Lim.pl d j + c) / Lim.B) :
    Subts d f i L S0 (j + 1) (S.set (i + j) ((Lim.B + x - dd - b) % Lim.B)) e' (1 - (Lim.B + x - dd - b) / Lim.B) := by
  have hxB : x < Lim.B := by rw [hx]; exact h.lo.getD _
  have hdB : dd < Lim.B := by rw [hdd]; exact Nat.mod_lt _ Lim.B_pos
  have h4 := Lim.take_step (S := S) (k := i + j) (x := x) (a := x) (b := dd) (w := b) (by rw [h.len]; exact hi) hx.symm hxB hdB h.one
  refine ⟨h.lo.set _ _ (Nat.mod_lt _ Lim.B_pos), by rw [List.length_set, h.len], h4.2, ?_, fun y hy => ?_, ?_⟩
  · have hmul : f * (d % Lim.B ^ (j + 1)) = f * (d % Lim.B ^ j) + Lim.B ^ j * (f * Lim.pl d j) := by
      rw [Lim.mod_next, Nat.mul_add, ← Nat.mul_assoc, Nat.mul_comm (Lim.B ^ j)]
    rw [he, h.car, hmul, Nat.pow_succ, ← Nat.div_div_eq_div_mul, Nat.add_mul_div_left _ _ (Lim.B_pow j), Nat.add_comm]
  · rw [getD_set_ne _ _ _ _ (by omega)]; exact h.same y (by omega)
  · have h5 := h.sum
    have h6 := h4.1
    have h7 : dd + Lim.B * e' = f * Lim.pl d j + c := by rw [hdd, he]; exact Nat.mod_add_div _ _
    have h8 := congrArg (· * Lim.B ^ (i + j)) h7
    simp only [Nat.add_mul] at h8
    have h9 : Lim.B * e' * Lim.B ^ (i + j) = e' * Lim.B ^ (i + j + 1) := by rw [Nat.pow_succ, Nat.mul_comm Lim.B e', Nat.mul_assoc, Nat.mul_comm Lim.B]
    have h10 : f * (d % Lim.B ^ (j + 1)) * Lim.B ^ i = f * (d % Lim.B ^ j) * Lim.B ^ i + f * Lim.pl d j * Lim.B ^ (i + j) := by
      rw [Lim.mod_next, Nat.mul_add, Nat.add_mul, Nat.pow_add, Nat.mul_comm (Lim.B ^ i), ← Nat.mul_assoc, ← Nat.mul_assoc]
    rw [h9] at h8
    rw [h10, show i + (j + 1) = i + j + 1 by omega]
    omega
/-- the highest limb -/
theorem Subts.top {d f i L k c b : Nat} {S0 S : List Nat} (h : Subts d f i L S0 k S c b) (hf : f ≤ Lim.B) (hd : d < Lim.B ^ k) (hi : i + k < L) (x : Nat) (hx : x = S.getD (i + k) 0) :
    Lim.Lo (S.set (i + k) ((Lim.B + x - c - b) % Lim.B)) ∧ 1 - (Lim.B + x - c - b) / Lim.B ≤ 1 ∧ (∀ y, i + k + 1 ≤ y → (S.set (i + k) ((Lim.B + x - c - b) % Lim.B)).getD y 0 = S0.getD y 0) ∧
    Lim.lv (S.set (i + k) ((Lim.B + x - c - b) % Lim.B)) + f * d * Lim.B ^ i = Lim.lv S0 + (1 - (Lim.B + x - c - b) / Lim.B) * Lim.B ^ (i + k + 1) := by
  have hxB : x < Lim.B := by rw [hx]; exact h.lo.getD _
  have h4 := Lim.take_step (S := S) (k := i + k) (x := x) (a := x) (b := c) (w := b) (by rw [h.len]; exact hi) hx.symm hxB (h.small hf) h.one
  refine ⟨h.lo.set _ _ (Nat.mod_lt _ Lim.B_pos), h4.2, fun y hy => ?_, ?_⟩
  · rw [getD_set_ne _ _ _ _ (by omega)]; exact h.same y (by omega)
  · have h5 := h.sum
    have h6 := h4.1
    rw [Nat.mod_eq_of_lt hd] at h5
    omega
end Go.Proofs.YtbcoblpnihdhgaaDoor
