import Derived.Test.YtbiekbppenccdaaDoorTreeUp
set_option linter.unusedVariables false
namespace Go.Proofs.YtbiekbppenccdaaDoor
open Go.RowKit
theorem refRoot_ok (v : Value) (ss : List ByteArray) (w : World) (h : StrsOk w v ss) (hl : ss.length ≤ 1099511627776) (hd : digsB ss = true) :
    Calls Tryd.prog 12 #[v] w fun e w' => e = .returned (.tuple #[.string (rootB ss), .int .i64 0]) ∧ Below w.heap.size w w' := by
  have HD := Lib.hid hd
  clear hd
  go_enter Tryd.func12, Tryd.ntmps12
  go_wp2_with fail
  refine (digests_any v ss _ h (by unfold maxLen; omega)).mono ?_
  rintro e w1 ⟨rfl, rfl⟩
  rw [HD.out]
  go_wp2_with fail
  refine (refroot_any _ ss v _ rfl hl (digsB_small HD.out) h).mono ?_
  rintro e w2 ⟨rfl, hb2⟩
  go_wp2_with fail
  go_ret2
  exact ⟨rfl, hb2⟩
theorem refRoot_no (v : Value) (ss : List ByteArray) (w : World) (h : StrsOk w v ss) (hl : ss.length ≤ 1099511627776) (hd : digsB ss = false) :
    Calls Tryd.prog 12 #[v] w fun e w' => e = .returned (.tuple #[.string ⟨#[]⟩, .int .i64 1]) ∧ w = w' := by
  have HD := Lib.hid hd
  clear hd
  go_enter Tryd.func12, Tryd.ntmps12
  go_wp2_with fail
  refine (digests_any v ss _ h (by unfold maxLen; omega)).mono ?_
  rintro e w1 ⟨rfl, rfl⟩
  rw [HD.out]
  go_wp2_with fail
  go_ret2
  exact ⟨rfl, rfl⟩
theorem refPath_ok (v : Value) (ss : List ByteArray) (i : Nat) (w : World) (h : StrsOk w v ss) (hl : ss.length ≤ 1099511627776) (hd : digsB ss = true) (hi : i < ss.length) :
    Calls Tryd.prog 14 #[v, .int .i64 (i : Int)] w fun e w' => ∃ u, e = .returned (.tuple #[u, .int .i64 0]) ∧ OwnS w.heap.size w' u (pathB ss i) ∧ Below w.heap.size w w' := by
  have HD := Lib.hid hd
  clear hd
  obtain ⟨a, cap, rfl, hc1, hc2⟩ := h.room
  have H := Lib.hid h
  clear h
  have t1 : decide ((i : Int) < 0) = false := by simp
  have t2 : decide ((ss.length : Int) ≤ (i : Int)) = false := by simp; omega
  go_enter Tryd.func14, Tryd.ntmps14
  go_wp2_with fail
  refine (digests_any _ ss _ H.out (by unfold maxLen; omega)).mono ?_
  rintro e w1 ⟨rfl, rfl⟩
  rw [HD.out]
  go_wp2_with fail
  refine (refpath_any _ ss _ i _ rfl hl hi (digsB_small HD.out) H.out).mono ?_
  rintro e w2 ⟨u, rfl, hu, hb2⟩
  go_wp2_with fail
  go_ret2
  exact ⟨u, rfl, hu, hb2⟩
theorem refPath_no (v : Value) (ss : List ByteArray) (i : Int) (w : World) (h : StrsOk w v ss) (hl : ss.length ≤ 1099511627776) (hi : ¬ (digsB ss = true ∧ 0 ≤ i ∧ i < ss.length)) :
    Calls Tryd.prog 14 #[v, .int .i64 i] w fun e w' => e = .returned (.tuple #[.slice none 0 0, .int .i64 1]) ∧ w = w' := by
  obtain ⟨a, cap, rfl, hc1, hc2⟩ := h.room
  have H := Lib.hid h
  clear h
  obtain ⟨D, hD⟩ : ∃ D, D = digsB ss := ⟨_, rfl⟩
  have HD := Lib.hid hD
  rw [← hD] at hi
  clear hD
  cases D with
  | false =>
    go_enter Tryd.func14, Tryd.ntmps14
    go_wp2_with fail
    refine (digests_any _ ss _ H.out (by unfold maxLen; omega)).mono ?_
    rintro e w1 ⟨rfl, rfl⟩
    rw [← HD.out]
    go_wp2_with fail
    go_ret2
    exact ⟨rfl, rfl⟩
  | true =>
    by_cases h0 : i < 0
    · go_enter Tryd.func14, Tryd.ntmps14
      go_wp2_with fail
      refine (digests_any _ ss _ H.out (by unfold maxLen; omega)).mono ?_
      rintro e w1 ⟨rfl, rfl⟩
      rw [← HD.out]
      go_wp2_with fail
      go_ret2
      exact ⟨rfl, rfl⟩
    · have h1 : (ss.length : Int) ≤ i := by
        by_cases h : i < ss.length
        · exact absurd ⟨rfl, by omega, h⟩ hi
        · omega
      clear hi
      go_enter Tryd.func14, Tryd.ntmps14
      go_wp2_with fail
      refine (digests_any _ ss _ H.out (by unfold maxLen; omega)).mono ?_
      rintro e w1 ⟨rfl, rfl⟩
      rw [← HD.out]
      go_wp2_with fail
      go_ret2
      exact ⟨rfl, rfl⟩
end Go.Proofs.YtbiekbppenccdaaDoor
