/-
  The program's tree package: Root, Path and Link; and, for the program and the reference alike, one contract for each that says all that it answers.
-/
import Derived.Test.YtcdnddjoonecdaaGreatDoorTrH
set_option linter.unusedVariables false
set_option maxRecDepth 100000
namespace Go.Proofs.YtcdnddjoonecdaaGreatDoor
open Go.RowKit
theorem pRoot_ok (v : Value) (ss : List ByteArray) (w : World) (h : StrsOk w v ss) (hl : ss.length ≤ 1099511627776) (hd : digsB ss = true) (ht : TabOk w) :
    Calls Tryz.prog 26 #[v] w fun e w' => e = .returned (.tuple #[.string (rootB ss), .int .i64 0]) ∧ Below w.heap.size w w' := by
  have HD := Lib.hid hd
  clear hd
  go_enter Tryz.func26, Tryz.ntmps26
  go_wp2_with fail
  refine (valid_any v ss _ h (by unfold maxLen; omega)).mono ?_
  rintro e w1 ⟨rfl, rfl⟩
  rw [HD.out]
  go_wp2_with fail
  refine (rootOf_any v ss _ h hl (digsB_small HD.out) ht).mono ?_
  rintro e w2 ⟨rfl, hb2⟩
  go_wp2_with fail
  go_ret2
  exact ⟨rfl, hb2⟩
theorem pRoot_no (v : Value) (ss : List ByteArray) (w : World) (h : StrsOk w v ss) (hl : ss.length ≤ 1099511627776) (hd : digsB ss = false) :
    Calls Tryz.prog 26 #[v] w fun e w' => e = .returned (.tuple #[.string ⟨#[]⟩, .int .i64 1]) ∧ w = w' := by
  have HD := Lib.hid hd
  clear hd
  go_enter Tryz.func26, Tryz.ntmps26
  go_wp2_with fail
  refine (valid_any v ss _ h (by unfold maxLen; omega)).mono ?_
  rintro e w1 ⟨rfl, rfl⟩
  rw [HD.out]
  go_wp2_with fail
  go_ret2
  exact ⟨rfl, rfl⟩
/-- the error's number -/
def errN (b : Bool) : Int := if b then 0 else 1
/-- what Root answers -/
def rootS (ss : List ByteArray) : ByteArray := if digsB ss then rootB ss else ⟨#[]⟩
def pathOk (ss : List ByteArray) (i : Int) : Bool := digsB ss && (decide (0 ≤ i) && decide (i < ss.length))
def pathS (ss : List ByteArray) (i : Int) : List ByteArray := if pathOk ss i then pathB ss i.toNat else []
def linkOk (ss : List ByteArray) (m : Int) : Bool := digsB ss && (decide (0 ≤ m) && decide (m ≤ ss.length))
def linkS (ss : List ByteArray) (m : Int) : List ByteArray := if linkOk ss m then linkW ss m.toNat else []
theorem pathOk_iff (ss : List ByteArray) (i : Int) : pathOk ss i = true ↔ (digsB ss = true ∧ 0 ≤ i ∧ i < ss.length) := by simp [pathOk]
theorem linkOk_iff (ss : List ByteArray) (m : Int) : linkOk ss m = true ↔ (digsB ss = true ∧ 0 ≤ m ∧ m ≤ ss.length) := by simp [linkOk]
theorem pathS_yes {ss : List ByteArray} {i : Nat} (h : pathOk ss i = true) : pathS ss i = pathB ss i := by rw [pathS, if_pos h]; rfl
theorem pathS_no {ss : List ByteArray} {i : Int} (h : pathOk ss i = false) : pathS ss i = [] := by rw [pathS, h]; rfl
theorem linkS_yes {ss : List ByteArray} {i : Nat} (h : linkOk ss i = true) : linkS ss i = linkW ss i := by rw [linkS, if_pos h]; rfl
theorem linkS_no {ss : List ByteArray} {i : Int} (h : linkOk ss i = false) : linkS ss i = [] := by rw [linkS, h]; rfl
theorem pRoot_any (v : Value) (ss : List ByteArray) (w : World) (h : StrsOk w v ss) (hl : ss.length ≤ 1099511627776) (ht : TabOk w) :
    Calls Tryz.prog 26 #[v] w fun e w' => e = .returned (.tuple #[.string (rootS ss), .int .i64 (errN (digsB ss))]) ∧ Below w.heap.size w w' := by
  by_cases hd : digsB ss = true
  · have := pRoot_ok v ss w h hl hd ht
    unfold rootS errN
    rw [if_pos hd, if_pos hd]; exact this
  · have := pRoot_no v ss w h hl (by simpa using hd)
    unfold rootS errN
    rw [if_neg hd, if_neg hd]
    refine this.mono ?_
    rintro e w' ⟨rfl, rfl⟩
    exact ⟨rfl, Below.refl _ _⟩
theorem rRoot_any (v : Value) (ss : List ByteArray) (w : World) (h : StrsOk w v ss) (hl : ss.length ≤ 1099511627776) :
    Calls Tryz.prog 27 #[v] w fun e w' => e = .returned (.tuple #[.string (rootS ss), .int .i64 (errN (digsB ss))]) ∧ Below w.heap.size w w' := by
  by_cases hd : digsB ss = true
  · have := refRoot_ok v ss w h hl hd
    unfold rootS errN
    rw [if_pos hd, if_pos hd]; exact this
  · have := refRoot_no v ss w h hl (by simpa using hd)
    unfold rootS errN
    rw [if_neg hd, if_neg hd]
    refine this.mono ?_
    rintro e w' ⟨rfl, rfl⟩
    exact ⟨rfl, Below.refl _ _⟩
/-- how a call ends that hands back a list of its own and an error -/
def GivesE (ss : List ByteArray) (ok : Bool) (w : World) (e : Ending) (w' : World) : Prop := ∃ u, e = .returned (.tuple #[u, .int .i64 (errN ok)]) ∧ OwnS w.heap.size w' u ss ∧ Below w.heap.size w w'
end Go.Proofs.YtcdnddjoonecdaaGreatDoor
