/-
  The contract of the non-vacuity check of the statements of layer 1: it returns true.
-/
import Derived.Test.YtbkhcmpmhnnhcaaDoorDigRjoin
set_option linter.unusedVariables false
namespace Go.Proofs.YtbkhcmpmhnnhcaaDoor
open Go.RowKit
theorem bytes_ext {s t : ByteArray} (h : s.data.toList = t.data.toList) : s = t := ByteArray.ext (Array.ext' h)
theorem sumB_inj {s t : ByteArray} (h : sumB s = sumB t) : Dig.sumL s.data.toList = Dig.sumL t.data.toList := by
  have := congrArg (fun b : ByteArray => b.data.toList) h
  simpa [sumB] using this
theorem sumB_short {s t : ByteArray} (hs : s.size ≤ 7) (ht : t.size ≤ 7) : sumB s = sumB t ↔ s = t := by
  constructor
  · intro h
    exact bytes_ext ((Dig.short_iff (by simpa using hs) (by simpa using ht)).1 (sumB_inj h))
  · intro h; rw [h]
def kHex : ByteArray := ⟨#[48, 49, 50, 51, 52, 53, 54, 55, 56, 57, 97, 98, 99, 100, 101, 102]⟩
theorem isB_1 : isB ⟨#[48, 49, 50, 51, 52, 53, 54, 55, 56, 57, 97, 98, 99, 100, 101, 102]⟩ = true := by decide +kernel
theorem isB_2 : isB ⟨#[48, 49, 50, 51, 52, 53, 54, 55, 56, 57, 97, 98, 99, 100, 101, 70]⟩ = false := by decide +kernel
theorem isB_3 : isB ⟨#[]⟩ = false := by decide +kernel
theorem join_ab : joinB [⟨#[97]⟩, ⟨#[98, 99]⟩] = ⟨#[49, 58, 97, 50, 58, 98, 99]⟩ := by
  apply bytes_ext
  show joinL _ = _
  have h1 : Lib.decDigits (ByteArray.size ⟨#[97]⟩) = [49] := by rw [show ByteArray.size ⟨#[97]⟩ = 1 from rfl, Lib.decDigits, dif_pos (by omega)]; rfl
  have h2 : Lib.decDigits (ByteArray.size ⟨#[98, 99]⟩) = [50] := by rw [show ByteArray.size ⟨#[98, 99]⟩ = 2 from rfl, Lib.decDigits, dif_pos (by omega)]; rfl
  simp only [joinL, oneL, h1, h2]
  rfl
theorem eq_ab : ((sumB (joinB [⟨#[97]⟩, ⟨#[98, 99]⟩])).toList == (sumB ⟨#[49, 58, 97, 50, 58, 98, 99]⟩).toList) = true := by
  rw [str_beq, join_ab]; simp
theorem ne_0 : ((sumB ⟨#[]⟩).toList == (sumB ⟨#[0]⟩).toList) = false := by
  rw [str_beq]
  exact decide_eq_false (fun h => by
    have := (sumB_short (by decide) (by decide)).1 h
    exact absurd this (by decide))
theorem ne_1 : ((sumB ⟨#[1]⟩).toList == (sumB ⟨#[]⟩).toList) = false := by
  rw [str_beq]
  exact decide_eq_false (fun h => by
    have := (sumB_short (by decide) (by decide)).1 h
    exact absurd this (by decide))
theorem ab_len : (joinL [⟨#[97]⟩, ⟨#[98, 99]⟩]).length ≤ 1099511627776 := by
  have := joinB_size [⟨#[97]⟩, ⟨#[98, 99]⟩]
  rw [← this, join_ab]
  show 7 ≤ 1099511627776
  omega
theorem chain_0 (w : World) : Calls Tryd.prog 16 #[.string ⟨#[120]⟩, .int .i64 0] w fun e w' => e = .returned (.string ⟨#[120]⟩) ∧ Below w.heap.size w w' :=
  chain_any ⟨#[120]⟩ 0 w (by show 1 ≤ 140737488355328; omega) (by omega) (by omega)
theorem chain_2 (w : World) : Calls Tryd.prog 16 #[.string ⟨#[120]⟩, .int .i64 2] w fun e w' => e = .returned (.string (sumB (sumB ⟨#[120]⟩))) ∧ Below w.heap.size w w' :=
  chain_any ⟨#[120]⟩ 2 w (by show 1 ≤ 140737488355328; omega) (by omega) (by omega)
theorem str_self (a : ByteArray) : (a.toList == a.toList) = true := by rw [str_beq]; simp
set_option maxHeartbeats 1000000 in
theorem head_any (w : World) (ht : TabOk w) :
    Calls Tryd.prog 10 #[] w fun e w' => e = .returned (.bool true) ∧ Below w.heap.size w w' := by
  have HT := Lib.hid ht
  clear ht
  have b1 := isB_1; have b2 := isB_2; have b3 := isB_3
  go_enter Tryd.func10, Tryd.ntmps10
  go_wp2_with fail
  refine (is_any _ _ (by decide)).mono ?_
  rintro e w' ⟨rfl, rfl⟩
  go_wp2_with fail
  refine (is_any _ _ (by decide)).mono ?_
  rintro e w' ⟨rfl, rfl⟩
  go_wp2_with fail
  refine (is_any _ _ (by decide)).mono ?_
  rintro e w' ⟨rfl, rfl⟩
  go_wp2_with fail
  have hB0 : Below w.heap.size w (w.alloc (Obj.cells #[Value.string { data := #[97] }, Value.string { data := #[98, 99] }] 9)) := (Below.refl _ _).alloc (Nat.le_refl _) _
  have hS : StrsAt (w.alloc (Obj.cells #[Value.string { data := #[97] }, Value.string { data := #[98, 99] }] 9)) (.slice (some ⟨w.heap.size, 0, none⟩) 2 2) [⟨#[97]⟩, ⟨#[98, 99]⟩] := by
    refine .inr ⟨by decide, w.heap.size, 0, 2, rfl, fun j hj => ?_⟩
    rw [Lib.cell_of_heap (heap_last w _)]
    match j, hj with
    | 0, _ => rfl
    | 1, _ => rfl
  refine (list_any _ _ _ hS (by unfold maxLen; simp) ab_len (HT.out.below (by exact hB0))).mono ?_
  rintro e w1 ⟨rfl, hb1⟩
  have hB1 := hB0.trans (hb1.mono hB0.size)
  clear hB0 hS hb1
  have q1 := eq_ab
  go_wp2_with fail
  refine (sum_any _ _ (by decide)).mono ?_
  rintro e w2 ⟨rfl, hb2⟩
  have hB2 := hB1.trans (hb2.mono hB1.size)
  clear hB1 hb2
  go_wp2_with fail
  refine (chain_0 _).mono ?_
  rintro e w3 ⟨rfl, hb3⟩
  have hB3 := hB2.trans (hb3.mono hB2.size)
  clear hB2 hb3
  go_wp2_with fail
  refine (chain_2 _).mono ?_
  rintro e w4 ⟨rfl, hb4⟩
  have hB4 := hB3.trans (hb4.mono hB3.size)
  clear hB3 hb4
  go_wp2_with fail
  refine (sum_any _ _ (by decide)).mono ?_
  rintro e w5 ⟨rfl, hb5⟩
  have hB5 := hB4.trans (hb5.mono hB4.size)
  clear hB4 hb5
  go_wp2_with fail
  refine (sum_any _ _ (by rw [sumB_size]; decide)).mono ?_
  rintro e w6 ⟨rfl, hb6⟩
  have hB6 := hB5.trans (hb6.mono hB5.size)
  clear hB5 hb6
  have q2 := ne_0
  have q3 := ne_1
  go_wp2_with fail
  refine (sum_any _ _ (by decide)).mono ?_
  rintro e w7 ⟨rfl, hb7⟩
  have hB7 := hB6.trans (hb7.mono hB6.size)
  clear hB6 hb7
  go_wp2_with fail
  refine (sum_any _ _ (by decide)).mono ?_
  rintro e w8 ⟨rfl, hb8⟩
  have hB8 := hB7.trans (hb8.mono hB7.size)
  clear hB7 hb8
  go_wp2_with fail
  refine (sum_any _ _ (by decide)).mono ?_
  rintro e w9 ⟨rfl, hb9⟩
  have hB9 := hB8.trans (hb9.mono hB8.size)
  clear hB8 hb9
  go_wp2_with fail
  refine (sum_any _ _ (by decide)).mono ?_
  rintro e w10 ⟨rfl, hb10⟩
  have hB10 := hB9.trans (hb10.mono hB9.size)
  clear hB9 hb10
  go_wp2_with fail
  go_ret
  exact ⟨rfl, hB10⟩
end Go.Proofs.YtbkhcmpmhnnhcaaDoor
