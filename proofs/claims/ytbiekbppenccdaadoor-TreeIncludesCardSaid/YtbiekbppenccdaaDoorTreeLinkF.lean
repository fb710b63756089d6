import Derived.Test.YtbiekbppenccdaaDoorTreeLink
set_option linter.unusedVariables false
namespace Go.Proofs.YtbiekbppenccdaaDoor
open Go.RowKit
/-- what Link hands back where all is well -/
def linkW (ss : List ByteArray) (m : Nat) : List ByteArray := if m = 0 ∨ m = ss.length then [] else linkB ss m true
theorem refLink_ok (v : Value) (ss : List ByteArray) (m : Nat) (w : World) (h : StrsOk w v ss) (hl : ss.length ≤ 1099511627775) (hd : digsB ss = true) (hm0 : 0 < m) (hm : m < ss.length) :
    Calls Tryd.prog 16 #[v, .int .i64 (m : Int)] w fun e w' => ∃ u, e = .returned (.tuple #[u, .int .i64 0]) ∧ OwnS w.heap.size w' u (linkB ss m true) ∧ Below w.heap.size w w' := by
  have HD := Lib.hid hd
  clear hd
  obtain ⟨a, cap, rfl, hc1, hc2⟩ := h.room
  have H := Lib.hid h
  clear h
  have t1 : decide ((m : Int) < 0) = false := by simp
  have t2 : decide (ss.length < m) = false := by simp; omega
  have t3 : ((m : Int) == 0) = false := beq_eq_false_iff_ne.2 (by omega)
  have t4 : ((m : Int) == ss.length) = false := beq_eq_false_iff_ne.2 (by omega)
  go_enter Tryd.func16, Tryd.ntmps16
  go_wp2_with fail
  refine (digests_any _ ss _ H.out (by unfold maxLen; omega)).mono ?_
  rintro e w1 ⟨rfl, rfl⟩
  rw [HD.out]
  go_wp2_with fail
  refine (reflink_any _ ss _ m true _ rfl hl hm0 (by omega) (digsB_small HD.out) H.out).mono ?_
  rintro e w2 ⟨u, rfl, hu, hb2⟩
  go_wp2_with fail
  go_ret2
  exact ⟨u, rfl, hu, hb2⟩
theorem refLink_zero (v : Value) (ss : List ByteArray) (w : World) (h : StrsOk w v ss) (hl : ss.length ≤ 1099511627775) (hd : digsB ss = true) :
    Calls Tryd.prog 16 #[v, .int .i64 0] w fun e w' => e = .returned (.tuple #[.slice none 0 0, .int .i64 0]) ∧ w = w' := by
  have HD := Lib.hid hd
  clear hd
  obtain ⟨a, cap, rfl, hc1, hc2⟩ := h.room
  have H := Lib.hid h
  clear h
  have t2 : decide ((ss.length : Int) < 0) = false := by simp
  go_enter Tryd.func16, Tryd.ntmps16
  go_wp2_with fail
  refine (digests_any _ ss _ H.out (by unfold maxLen; omega)).mono ?_
  rintro e w1 ⟨rfl, rfl⟩
  rw [HD.out]
  go_wp2_with fail
  go_ret2
  exact ⟨rfl, rfl⟩
theorem refLink_full (v : Value) (ss : List ByteArray) (w : World) (h : StrsOk w v ss) (hl : ss.length ≤ 1099511627775) (hd : digsB ss = true) (h0 : 0 < ss.length) :
    Calls Tryd.prog 16 #[v, .int .i64 (ss.length : Int)] w fun e w' => e = .returned (.tuple #[.slice none 0 0, .int .i64 0]) ∧ w = w' := by
  have HD := Lib.hid hd
  clear hd
  obtain ⟨a, cap, rfl, hc1, hc2⟩ := h.room
  have H := Lib.hid h
  clear h
  have t1 : decide ((ss.length : Int) < 0) = false := by simp
  have t3 : ((ss.length : Int) == 0) = false := beq_eq_false_iff_ne.2 (by omega)
  go_enter Tryd.func16, Tryd.ntmps16
  go_wp2_with fail
  refine (digests_any _ ss _ H.out (by unfold maxLen; omega)).mono ?_
  rintro e w1 ⟨rfl, rfl⟩
  rw [HD.out]
  go_wp2_with fail
  go_ret2
  exact ⟨rfl, rfl⟩
theorem refLink_no (v : Value) (ss : List ByteArray) (m : Int) (w : World) (h : StrsOk w v ss) (hl : ss.length ≤ 1099511627775) (hi : ¬ (digsB ss = true ∧ 0 ≤ m ∧ m ≤ ss.length)) :
    Calls Tryd.prog 16 #[v, .int .i64 m] w fun e w' => e = .returned (.tuple #[.slice none 0 0, .int .i64 1]) ∧ w = w' := by
  obtain ⟨a, cap, rfl, hc1, hc2⟩ := h.room
  have H := Lib.hid h
  clear h
  obtain ⟨D, hD⟩ : ∃ D, D = digsB ss := ⟨_, rfl⟩
  have HD := Lib.hid hD
  rw [← hD] at hi
  clear hD
  cases D with
  | false =>
    go_enter Tryd.func16, Tryd.ntmps16
    go_wp2_with fail
    refine (digests_any _ ss _ H.out (by unfold maxLen; omega)).mono ?_
    rintro e w1 ⟨rfl, rfl⟩
    rw [← HD.out]
    go_wp2_with fail
    go_ret2
    exact ⟨rfl, rfl⟩
  | true =>
    by_cases h0 : m < 0
    · go_enter Tryd.func16, Tryd.ntmps16
      go_wp2_with fail
      refine (digests_any _ ss _ H.out (by unfold maxLen; omega)).mono ?_
      rintro e w1 ⟨rfl, rfl⟩
      rw [← HD.out]
      go_wp2_with fail
      go_ret2
      exact ⟨rfl, rfl⟩
    · have h1 : (ss.length : Int) < m := by
        by_cases h : m ≤ ss.length
        · exact absurd ⟨rfl, by omega, h⟩ hi
        · omega
      clear hi
      go_enter Tryd.func16, Tryd.ntmps16
      go_wp2_with fail
      refine (digests_any _ ss _ H.out (by unfold maxLen; omega)).mono ?_
      rintro e w1 ⟨rfl, rfl⟩
      rw [← HD.out]
      go_wp2_with fail
      go_ret2
      exact ⟨rfl, rfl⟩
end Go.Proofs.YtbiekbppenccdaaDoor
