/-
  The program's tree package: Root, Path and Link; and, for the program and the reference alike, one contract for each that says all that it answers.
-/
import Derived.Test.YtcdnddjoonecdaaDoorTrH
set_option linter.unusedVariables false
set_option maxRecDepth 100000
namespace Go.Proofs.YtcdnddjoonecdaaDoor
open Go.RowKit
theorem pRoot_ok (v : Value) (ss : List ByteArray) (w : World) (h : StrsOk w v ss) (hl : ss.length ≤ 1099511627776) (hd : digsB ss = true) (ht : TabOk w) :
    Calls Tryd.prog 25 #[v] w fun e w' => e = .returned (.tuple #[.string (rootB ss), .int .i64 0]) ∧ Below w.heap.size w w' := by
  have HD := Lib.hid hd
  clear hd
  go_enter Tryd.func25, Tryd.ntmps25
  go_wp2_with fail
  refine (valid_any v ss _ h (by unfold maxLen; omega)).mono ?_
  rintro e w1 ⟨rfl, rfl⟩
  rw [HD.out]
  go_wp2_with fail
  refine (rootOf_any v ss _ h hl (digsB_small HD.out) ht).mono ?_
  rintro e w2 ⟨rfl, hb2⟩
  go_wp2_with fail
  go_ret2
  exact ⟨rfl, hb2⟩
theorem pRoot_no (v : Value) (ss : List ByteArray) (w : World) (h : StrsOk w v ss) (hl : ss.length ≤ 1099511627776) (hd : digsB ss = false) :
    Calls Tryd.prog 25 #[v] w fun e w' => e = .returned (.tuple #[.string ⟨#[]⟩, .int .i64 1]) ∧ w = w' := by
  have HD := Lib.hid hd
  clear hd
  go_enter Tryd.func25, Tryd.ntmps25
  go_wp2_with fail
  refine (valid_any v ss _ h (by unfold maxLen; omega)).mono ?_
  rintro e w1 ⟨rfl, rfl⟩
  rw [HD.out]
  go_wp2_with fail
  go_ret2
  exact ⟨rfl, rfl⟩
theorem pPath_ok (v : Value) (ss : List ByteArray) (i : Nat) (w : World) (h : StrsOk w v ss) (hl : ss.length ≤ 1099511627776) (hd : digsB ss = true) (hi : i < ss.length) (ht : TabOk w) :
    Calls Tryd.prog 10 #[v, .int .i64 (i : Int)] w fun e w' => ∃ u, e = .returned (.tuple #[u, .int .i64 0]) ∧ OwnS w.heap.size w' u (pathB ss i) ∧ Below w.heap.size w w' := by
  have HT := Lib.hid ht
  clear ht
  have HD := Lib.hid hd
  clear hd
  obtain ⟨a, cap, rfl, hc1, hc2⟩ := h.room
  have H := Lib.hid h
  clear h
  have t1 : decide ((i : Int) < 0) = false := by simp
  have t2 : decide ((ss.length : Int) ≤ (i : Int)) = false := by simp; omega
  go_enter Tryd.func10, Tryd.ntmps10
  go_wp2_with fail
  refine (valid_any _ ss _ H.out (by unfold maxLen; omega)).mono ?_
  rintro e w1 ⟨rfl, rfl⟩
  rw [HD.out]
  go_wp2_with fail
  refine (ppath_any _ ss _ i _ rfl hl hi (digsB_small HD.out) H.out HT.out).mono ?_
  rintro e w2 ⟨u, rfl, hu, hb2⟩
  go_wp2_with fail
  go_ret2
  exact ⟨u, rfl, hu, hb2⟩
theorem pPath_no (v : Value) (ss : List ByteArray) (i : Int) (w : World) (h : StrsOk w v ss) (hl : ss.length ≤ 1099511627776) (hi : ¬ (digsB ss = true ∧ 0 ≤ i ∧ i < ss.length)) :
    Calls Tryd.prog 10 #[v, .int .i64 i] w fun e w' => e = .returned (.tuple #[.slice none 0 0, .int .i64 1]) ∧ w = w' := by
  obtain ⟨a, cap, rfl, hc1, hc2⟩ := h.room
  have H := Lib.hid h
  clear h
  obtain ⟨D, hD⟩ : ∃ D, D = digsB ss := ⟨_, rfl⟩
  have HD := Lib.hid hD
  rw [← hD] at hi
  clear hD
  cases D with
  | false =>
    go_enter Tryd.func10, Tryd.ntmps10
    go_wp2_with fail
    refine (valid_any _ ss _ H.out (by unfold maxLen; omega)).mono ?_
    rintro e w1 ⟨rfl, rfl⟩
    rw [← HD.out]
    go_wp2_with fail
    go_ret2
    exact ⟨rfl, rfl⟩
  | true =>
    by_cases h0 : i < 0
    · go_enter Tryd.func10, Tryd.ntmps10
      go_wp2_with fail
      refine (valid_any _ ss _ H.out (by unfold maxLen; omega)).mono ?_
      rintro e w1 ⟨rfl, rfl⟩
      rw [← HD.out]
      go_wp2_with fail
      go_ret2
      exact ⟨rfl, rfl⟩
    · have h1 : (ss.length : Int) ≤ i := by
        by_cases h : i < ss.length
        · exact absurd ⟨rfl, by omega, h⟩ hi
        · omega
      clear hi
      go_enter Tryd.func10, Tryd.ntmps10
      go_wp2_with fail
      refine (valid_any _ ss _ H.out (by unfold maxLen; omega)).mono ?_
      rintro e w1 ⟨rfl, rfl⟩
      rw [← HD.out]
      go_wp2_with fail
      go_ret2
      exact ⟨rfl, rfl⟩
/-- the error's number -/
def errN (b : Bool) : Int := if b then 0 else 1
/-- what Root answers -/
def rootS (ss : List ByteArray) : ByteArray := if digsB ss then rootB ss else ⟨#[]⟩
def pathOk (ss : List ByteArray) (i : Int) : Bool := digsB ss && (decide (0 ≤ i) && decide (i < ss.length))
def pathS (ss : List ByteArray) (i : Int) : List ByteArray := if pathOk ss i then pathB ss i.toNat else []
def linkOk (ss : List ByteArray) (m : Int) : Bool := digsB ss && (decide (0 ≤ m) && decide (m ≤ ss.length))
def linkS (ss : List ByteArray) (m : Int) : List ByteArray := if linkOk ss m then linkW ss m.toNat else []
theorem pathOk_iff (ss : List ByteArray) (i : Int) : pathOk ss i = true ↔ (digsB ss = true ∧ 0 ≤ i ∧ i < ss.length) := by simp [pathOk]
theorem linkOk_iff (ss : List ByteArray) (m : Int) : linkOk ss m = true ↔ (digsB ss = true ∧ 0 ≤ m ∧ m ≤ ss.length) := by simp [linkOk]
theorem pathS_yes {ss : List ByteArray} {i : Nat} (h : pathOk ss i = true) : pathS ss i = pathB ss i := by rw [pathS, if_pos h]; rfl
theorem pathS_no {ss : List ByteArray} {i : Int} (h : pathOk ss i = false) : pathS ss i = [] := by rw [pathS, h]; rfl
theorem linkS_yes {ss : List ByteArray} {i : Nat} (h : linkOk ss i = true) : linkS ss i = linkW ss i := by rw [linkS, if_pos h]; rfl
theorem linkS_no {ss : List ByteArray} {i : Int} (h : linkOk ss i = false) : linkS ss i = [] := by rw [linkS, h]; rfl
theorem pRoot_any (v : Value) (ss : List ByteArray) (w : World) (h : StrsOk w v ss) (hl : ss.length ≤ 1099511627776) (ht : TabOk w) :
    Calls Tryd.prog 25 #[v] w fun e w' => e = .returned (.tuple #[.string (rootS ss), .int .i64 (errN (digsB ss))]) ∧ Below w.heap.size w w' := by
  by_cases hd : digsB ss = true
  · have := pRoot_ok v ss w h hl hd ht
    unfold rootS errN
    rw [if_pos hd, if_pos hd]; exact this
  · have := pRoot_no v ss w h hl (by simpa using hd)
    unfold rootS errN
    rw [if_neg hd, if_neg hd]
    refine this.mono ?_
    rintro e w' ⟨rfl, rfl⟩
    exact ⟨rfl, Below.refl _ _⟩
/-- how a call ends that hands back a list of its own and an error -/
def GivesE (ss : List ByteArray) (ok : Bool) (w : World) (e : Ending) (w' : World) : Prop := ∃ u, e = .returned (.tuple #[u, .int .i64 (errN ok)]) ∧ OwnS w.heap.size w' u ss ∧ Below w.heap.size w w'
theorem pPath_any (v : Value) (ss : List ByteArray) (i : Int) (w : World) (h : StrsOk w v ss) (hl : ss.length ≤ 1099511627776) (ht : TabOk w) :
    Calls Tryd.prog 10 #[v, .int .i64 i] w (GivesE (pathS ss i) (pathOk ss i) w) := by
  by_cases hd : pathOk ss i = true
  · obtain ⟨h1, h2, h3⟩ := (pathOk_iff ss i).1 hd
    obtain ⟨k, rfl⟩ : ∃ k : Nat, i = k := ⟨i.toNat, by omega⟩
    rw [pathS_yes hd, hd]
    exact pPath_ok v ss k w h hl h1 (by omega) ht
  · have hd' : pathOk ss i = false := by simpa using hd
    rw [pathS_no hd', hd']
    refine (pPath_no v ss i w h hl (fun e => hd ((pathOk_iff ss i).2 e))).mono ?_
    rintro e w' ⟨rfl, rfl⟩
    exact ⟨_, rfl, OwnS.nil _ _, Below.refl _ _⟩
end Go.Proofs.YtcdnddjoonecdaaDoor
