/-
  The document's own answers of layer 7: Element, Valid, Split.
-/
import Derived.Test.YtcdnddjoonecdaaDoorShA
import Derived.Test.YtcdnddjoonecdaaDoorFdC
set_option linter.unusedVariables false
set_option maxRecDepth 100000
namespace Go.Proofs.YtcdnddjoonecdaaDoor
open Go.RowKit
open Fdp
theorem refel_any (x : Int) (w : World) : Calls Tryd.prog 51 #[.int .i64 x] w fun e w' => e = .returned (.bool (okE x)) ∧ w = w' := by
  by_cases h1 : x < 0
  · have hb : Hid (okE x = false) := Lib.hid (okE_no.2 (.inl h1))
    have e1 : ¬ 0 ≤ x := by omega
    go_enter Tryd.func51, Tryd.ntmps51
    go_wp2_with fail
    go_ret
    exact ⟨by rw [hb.out]; rfl, rfl⟩
  · have e1 : 0 ≤ x := by omega
    by_cases h2 : x < 2147483647
    · have hb : Hid (okE x = true) := Lib.hid (okE_iff.2 ⟨e1, by omega⟩)
      go_enter Tryd.func51, Tryd.ntmps51
      go_wp2_with fail
      go_ret
      exact ⟨by rw [hb.out]; rfl, rfl⟩
    · have hb : Hid (okE x = false) := Lib.hid (okE_no.2 (.inr (by omega)))
      have e2 : 2147483647 ≤ x := by omega
      go_enter Tryd.func51, Tryd.ntmps51
      go_wp2_with fail
      go_ret
      exact ⟨by rw [hb.out]; rfl, rfl⟩
theorem refel_yes (x : Int) (w : World) (h : okE x = true) : Calls Tryd.prog 51 #[.int .i64 x] w fun e w' => e = .returned (.bool true) ∧ w = w' := by
  rw [← h]; exact refel_any x w
theorem refel_no (x : Int) (w : World) (h : okE x = false) : Calls Tryd.prog 51 #[.int .i64 x] w fun e w' => e = .returned (.bool false) ∧ w = w' := by
  rw [← h]; exact refel_any x w
theorem refvalidS_any (x y : Int) (w : World) : Calls Tryd.prog 32 #[.agg #[.int .i64 x, .int .i64 y]] w fun e w' => e = .returned (.bool (validS (x, y))) ∧ Below w.heap.size w w' := by
  by_cases h1 : x < 1
  · have hb : Hid (validS (x, y) = false) := Lib.hid (by unfold validS; simp; omega)
    have e1 : ¬ 1 ≤ x := by omega
    go_enter Tryd.func32, Tryd.ntmps32
    go_wp2_with fail
    go_ret
    exact ⟨by rw [hb.out]; rfl, (Below.refl _ _).alloc (Nat.le_refl _) _⟩
  · have e1 : 1 ≤ x := by omega
    by_cases h2 : 16 < x
    · have hb : Hid (validS (x, y) = false) := Lib.hid (by unfold validS; simp; omega)
      have e2 : ¬ x ≤ 16 := by omega
      go_enter Tryd.func32, Tryd.ntmps32
      go_wp2_with fail
      go_ret
      exact ⟨by rw [hb.out]; rfl, (Below.refl _ _).alloc (Nat.le_refl _) _⟩
    · have e2 : x ≤ 16 := by omega
      have hb : Hid (validS (x, y) = okE y) := Lib.hid (by unfold validS; simp [e1, e2])
      go_enter Tryd.func32, Tryd.ntmps32
      go_wp2_with fail
      refine (refel_any _ _).mono ?_
      rintro e w' ⟨rfl, rfl⟩
      go_wp2_with fail
      go_ret
      exact ⟨by rw [hb.out]; rfl, (Below.refl _ _).alloc (Nat.le_refl _) _⟩
theorem splitE_total {s n t : Int} {r : List Int} (h : ¬ (1 ≤ t ∧ t ≤ 16)) : splitE s n t r = ([], 1) := by
  unfold splitE argsS; rw [decide_eq_false h, if_neg (by simp)]
theorem splitE_need {s n t : Int} {r : List Int} (h : ¬ (1 ≤ n ∧ n ≤ t)) : splitE s n t r = ([], 1) := by
  unfold splitE argsS; rw [decide_eq_false h, if_neg (by simp)]
theorem splitE_len {s n t : Int} {r : List Int} (h : ¬ ((r.length : Int) = n - 1)) : splitE s n t r = ([], 1) := by
  unfold splitE argsS; rw [decide_eq_false h, if_neg (by simp)]
theorem splitE_no {s n t : Int} {r : List Int} (h : argsS s n t r = false) : splitE s n t r = ([], 1) := by unfold splitE; rw [h, if_neg (by simp)]
/-- the shares with the X up to k -/
theorem sharesL_next (c : List Int) (k : Nat) : sharesL c (k + 1) = sharesL c k ++ [((k : Int) + 1, evF ((k : Int) + 1) c)] := by
  unfold sharesL; rw [List.range_succ, List.map_append]; rfl
/-- the call answers with a list of shares and an error -/
def GivesSh (r : List (Int × Int) × Int) (w : World) (e : Ending) (w' : World) : Prop := ∃ v, e = .returned (.tuple #[v, .int .i64 r.2]) ∧ PtsOk w' v r.1 ∧ Below w.heap.size w w'
theorem pts_none (w : World) : PtsOk w (.slice none 0 0) [] := ⟨none, 0, rfl, Nat.le_refl _, by unfold maxLen; omega, fun _ => rfl, pts_nil w⟩
theorem OwnSh.ok {B : Nat} {w : World} {v : Value} {l : List (Int × Int)} (h : OwnSh B w v l) : PtsOk w v l := by
  rcases h.2 with ⟨rfl, h0⟩ | ⟨g, cap, cur, rfl, h1, h2, h3, h4, h5, h6⟩
  · obtain rfl : l = [] := List.eq_nil_of_length_eq_zero h0
    exact pts_none w
  · obtain ⟨a', c', e, k1, k2, k3⟩ := h.at
    cases e
    exact ⟨_, _, rfl, k1, k2, (fun e => by cases e), k3⟩
end Go.Proofs.YtcdnddjoonecdaaDoor
