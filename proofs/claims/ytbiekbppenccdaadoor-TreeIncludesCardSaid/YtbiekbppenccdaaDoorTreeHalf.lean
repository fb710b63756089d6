import Derived.Test.YtbiekbppenccdaaDoorTreePure
import Derived.Deep.RegionHeld3
import Derived.WalkLawsBesides
set_option linter.unusedVariables false
namespace Go.Proofs.YtbiekbppenccdaaDoor
open Go.RowKit
set_option maxHeartbeats 400000 in
theorem half_any (n : Nat) (w : World) (h2 : 2 ≤ n) (hn : n ≤ 1099511627776) :
    Calls Tryd.prog 54 #[.int .i64 (n : Int)] w fun e w' => e = .returned (.int .i64 (half n : Nat)) ∧ w = w' := by
  go_enter Tryd.func54, Tryd.ntmps54
  go_wp2_with fail
  go_loop [3] (fun i => ∃ f k : Nat, i = .int .i64 k ∧ 1 ≤ k ∧ k < n ∧ n ≤ f + k ∧ halfGo f k n = half n) (fun i => n - (intOf i).toNat)
  case atStart => exact ⟨n, 1, rfl, by omega, by omega, by omega, rfl⟩
  case round =>
    obtain ⟨f, k, rfl, h1, h3, h4, h5⟩ := hrel
    have H5 := Lib.hid h5
    clear h5
    by_cases hlt : 2 * k < n
    · go_wp2_with fail
      go_round
      case rel =>
        obtain ⟨g, rfl⟩ : ∃ g, f = g + 1 := ⟨f - 1, by omega⟩
        refine ⟨g, 2 * k, by go_num, by omega, hlt, by omega, ?_⟩
        have := H5.out
        rwa [halfGo, if_pos hlt] at this
      case measure => simp [intOf]; omega
    · have hk : half n = k := by rw [← H5.out, halfGo_end _ _ _ hlt]
      have HK := Lib.hid hk
      clear hk
      go_wp2_with fail
      go_ret
      exact ⟨by rw [HK.out]; rfl, rfl⟩
/-- the joined text is no longer than what is asked for it -/
theorem join_le_cap {ss : List ByteArray} (h : ∀ s ∈ ss, s.size ≤ 1099511627776) : (joinL ss).length ≤ capN ss := by
  induction ss with
  | nil => simp [joinL]
  | cons s r ih =>
    have h1 := h s (List.mem_cons_self ..)
    have h2 := ih (fun x hx => h x (List.mem_cons_of_mem _ hx))
    have h3 : (decB s.size).size ≤ 20 := decB_size _ (by omega)
    have h4 : (decB s.size).size = (Lib.decDigits s.size).length := by show (Lib.decDigits s.size).toArray.size = _; simp
    have h5 : s.data.toList.length = s.size := by simp
    simp only [joinL, oneL, capN, List.length_append, List.length_cons]
    omega
/-- a literal list of three, two, one -/
theorem lit3_at (w : World) (a b c : ByteArray) : StrsAt (w.alloc (Obj.cells #[Value.string a, Value.string b, Value.string c] 9)) (.slice (some ⟨w.heap.size, 0, none⟩) 3 3) [a, b, c] := by
  refine .inr ⟨by simp, w.heap.size, 0, 3, rfl, fun j hj => ?_⟩
  rw [Lib.cell_of_heap (heap_last w _)]
  match j, hj with
  | 0, _ => rfl
  | 1, _ => rfl
  | 2, _ => rfl
theorem lit2_at (w : World) (a b : ByteArray) : StrsAt (w.alloc (Obj.cells #[Value.string a, Value.string b] 9)) (.slice (some ⟨w.heap.size, 0, none⟩) 2 2) [a, b] := by
  refine .inr ⟨by simp, w.heap.size, 0, 2, rfl, fun j hj => ?_⟩
  rw [Lib.cell_of_heap (heap_last w _)]
  match j, hj with
  | 0, _ => rfl
  | 1, _ => rfl
/-- the reference's List of a short literal -/
theorem reflit_any (v : Value) (ss : List ByteArray) (w : World) (h : StrsAt w v ss) (hl : ss.length ≤ 10) (hs : ∀ s ∈ ss, s.size ≤ 2147483648) :
    Calls Tryd.prog 40 #[v] w fun e w' => e = .returned (.string (sumB (joinB ss))) ∧ Below w.heap.size w w' := by
  have hc : ∀ l : List ByteArray, (∀ s ∈ l, s.size ≤ 2147483648) → capN l ≤ 2147483669 * l.length := by
    intro l
    induction l with
    | nil => intro _; simp [capN]
    | cons s r ih =>
      intro h
      have h1 := h s (List.mem_cons_self ..)
      have h2 := ih (fun x hx => h x (List.mem_cons_of_mem _ hx))
      simp only [capN, List.length_cons]; omega
  have c1 := hc ss hs
  have c2 := join_le_cap (ss := ss) (fun s h => by have := hs s h; omega)
  exact reflist_any v ss w h (by unfold maxLen; omega) (by omega) (by omega)
theorem refnode_any (a b : ByteArray) (w : World) (ha : a.size ≤ 2147483648) (hb : b.size ≤ 2147483648) :
    Calls Tryd.prog 60 #[.string a, .string b] w fun e w' => e = .returned (.string (nodeB a b)) ∧ Below w.heap.size w w' := by
  go_enter Tryd.func60, Tryd.ntmps60
  go_wp2_with fail
  refine (reflit_any _ _ _ (lit3_at w kNode a b) (by simp) (by
    intro s h; simp only [List.mem_cons, List.not_mem_nil, or_false] at h
    rcases h with rfl | rfl | rfl
    · decide
    · exact ha
    · exact hb)).mono ?_
  rintro e w1 ⟨rfl, hb1⟩
  go_wp2_with fail
  go_ret
  exact ⟨rfl, ((Below.refl _ _).alloc (Nat.le_refl _) _).trans (hb1.mono (by simp))⟩
theorem refleaf_any (a : ByteArray) (w : World) (ha : a.size ≤ 2147483648) :
    Calls Tryd.prog 18 #[.string a] w fun e w' => e = .returned (.string (leafB a)) ∧ Below w.heap.size w w' := by
  go_enter Tryd.func18, Tryd.ntmps18
  go_wp2_with fail
  refine (reflit_any _ _ _ (lit2_at w kLeaf a) (by simp) (by
    intro s h; simp only [List.mem_cons, List.not_mem_nil, or_false] at h
    rcases h with rfl | rfl
    · decide
    · exact ha)).mono ?_
  rintro e w1 ⟨rfl, hb1⟩
  go_wp2_with fail
  go_ret
  exact ⟨rfl, ((Below.refl _ _).alloc (Nat.le_refl _) _).trans (hb1.mono (by simp))⟩
theorem refempty_any (w : World) :
    Calls Tryd.prog 49 #[] w fun e w' => e = .returned (.string emptyB) ∧ Below w.heap.size w w' := by
  go_enter Tryd.func49, Tryd.ntmps49
  go_wp2_with fail
  refine (reflit_any _ _ _ (one_at w kEmpty) (by simp) (by
    intro s h; simp only [List.mem_cons, List.not_mem_nil, or_false] at h
    subst h; decide)).mono ?_
  rintro e w1 ⟨rfl, hb1⟩
  go_wp2_with fail
  go_ret
  exact ⟨rfl, ((Below.refl _ _).alloc (Nat.le_refl _) _).trans (hb1.mono (by simp))⟩
end Go.Proofs.YtbiekbppenccdaaDoor
