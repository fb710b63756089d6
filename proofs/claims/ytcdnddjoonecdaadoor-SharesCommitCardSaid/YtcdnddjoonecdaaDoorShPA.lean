/-
  The program's helpers of layer 7: within, valid, repeats.
-/
import Derived.Test.YtcdnddjoonecdaaDoorShSame
import Derived.Laws.Rows
set_option linter.unusedVariables false
set_option maxRecDepth 100000
namespace Go.Proofs.YtcdnddjoonecdaaDoor
open Go.RowKit
open Fdp
theorem within_yes (n a b : Int) (w : World) (h1 : a ≤ n) (h2 : n ≤ b) : Calls Tryd.prog 21 #[.int .i64 n, .int .i64 a, .int .i64 b] w fun e w' => e = .returned (.bool true) ∧ w = w' := by
  go_enter Tryd.func21, Tryd.ntmps21
  go_wp2_with fail
  go_ret
  exact ⟨rfl, rfl⟩
theorem within_no (n a b : Int) (w : World) (h : ¬ (a ≤ n ∧ n ≤ b)) : Calls Tryd.prog 21 #[.int .i64 n, .int .i64 a, .int .i64 b] w fun e w' => e = .returned (.bool false) ∧ w = w' := by
  by_cases h1 : a ≤ n
  · have h2 : ¬ n ≤ b := fun h' => h ⟨h1, h'⟩
    clear h
    go_enter Tryd.func21, Tryd.ntmps21
    go_wp2_with fail
    go_ret
    exact ⟨rfl, rfl⟩
  · clear h
    go_enter Tryd.func21, Tryd.ntmps21
    go_wp2_with fail
    go_ret
    exact ⟨rfl, rfl⟩
theorem pvalids_next {l : List (Int × Int)} {k : Nat} (h : k < l.length) (h1 : validsS (l.take k) = true) (h2 : validS l[k] = true) : validsS (l.take (k + 1)) = true := by
  unfold validsS at h1 ⊢
  rw [List.take_succ_eq_append_getElem h, List.all_append, h1]; simp [h2]
theorem pvalids_no {l : List (Int × Int)} {k : Nat} (h : k < l.length) (h2 : validS l[k] = false) : validsS l = false := by
  cases e : validsS l with
  | false => rfl
  | true =>
    unfold validsS at e
    rw [List.all_eq_true.1 e _ (List.getElem_mem h)] at h2; cases h2
set_option maxHeartbeats 1000000 in
theorem valid_shares (a : Option Addr) (n cap : Nat) (l : List (Int × Int)) (w : World) (h : PtsAt w a n l) (hn : n ≤ 1000000) :
    Calls Tryd.prog 23 #[.slice a n cap] w fun e w' => e = .returned (.bool (validsS l)) ∧ Below w.heap.size w w' := by
  have HH := Lib.hid h
  have HL := Lib.hid h.len
  clear h
  have D0 : Hid (Below w.heap.size w w) := Lib.hid (Below.refl _ _)
  have hv0 : Hid (validsS (l.take 0) = true) := Lib.hid (by simp [validsS])
  go_enter Tryd.func23, Tryd.ntmps23
  go_wp2_with fail
  go_loopw [7] (fun ii wr => ∃ k : Nat, k ≤ n ∧ ii = .int .i64 (k : Int) ∧ Hid (validsS (l.take k) = true) ∧ Hid (Below w.heap.size w wr)) (fun ii _ => n - (intOf ii).toNat)
  case atStart => exact ⟨0, by omega, rfl, hv0, D0⟩
  case round =>
    clear hv0 D0
    obtain ⟨k, hk, rfl, hv, hD⟩ := hrel
    by_cases hkn : k < n
    · have hkl : k < l.length := by rw [← HL.out]; exact hkn
      obtain ⟨b, off, rfl, -⟩ := HH.out.cells (by omega)
      obtain ⟨hc1, hc2⟩ := (HH.out.bel hD.out).cell hkl
      obtain ⟨x, hx⟩ : ∃ x, x = l[k].1 := ⟨_, rfl⟩
      obtain ⟨y, hy⟩ : ∃ y, y = l[k].2 := ⟨_, rfl⟩
      have HLK : Hid (l[k] = (x, y)) := Lib.hid (Prod.ext hx.symm hy.symm)
      rw [← hx] at hc1
      rw [← hy] at hc2
      have b1 : (0 : Int) ≤ (k : Int) := by omega
      have b2 : (k : Int) < (n : Int) := by omega
      have D1 := Lib.hid (hD.out.alloc hD.out.size (Obj.cells #[Value.int .i64 x, Value.int .i64 y] 24))
      clear hx hy
      by_cases hX : 1 ≤ x ∧ x ≤ 16
      · by_cases hY : 0 ≤ y ∧ y ≤ 2147483646
        · have hv2 := Lib.hid (pvalids_next hkl hv.out (by rw [HLK.out]; exact validS_iff.2 ⟨hX, by unfold El; omega⟩))
          have HX := Lib.hid hX
          have HY := Lib.hid hY
          clear hX hY
          go_wp2_with fail
          refine (within_yes x _ _ _ HX.out.1 HX.out.2).mono ?_
          rintro e w' ⟨rfl, rfl⟩
          go_wp2_with fail
          refine (within_yes y _ _ _ HY.out.1 HY.out.2).mono ?_
          rintro e w' ⟨rfl, rfl⟩
          go_wp2_with fail
          go_roundw
          case rel => exact ⟨k + 1, by omega, by go_num, hv2, D1⟩
          case measure => simp [intOf]; omega
        · have hr : Hid (validsS l = false) := Lib.hid (pvalids_no hkl (by rw [HLK.out]; cases e : validS (x, y) with | false => rfl | true => exact absurd (validS_iff.1 e).2 (by simp only [El]; omega)))
          have HX := Lib.hid hX
          have HY := Lib.hid hY
          clear hX hY
          go_wp2_with fail
          refine (within_yes x _ _ _ HX.out.1 HX.out.2).mono ?_
          rintro e w' ⟨rfl, rfl⟩
          go_wp2_with fail
          refine (within_no y _ _ _ HY.out).mono ?_
          rintro e w' ⟨rfl, rfl⟩
          go_wp2_with fail
          go_ret
          exact ⟨by rw [hr.out]; rfl, D1.out⟩
      · have hr : Hid (validsS l = false) := Lib.hid (pvalids_no hkl (by rw [HLK.out]; cases e : validS (x, y) with | false => rfl | true => exact absurd (validS_iff.1 e).1 (by simpa using hX)))
        have HX := Lib.hid hX
        clear hX
        go_wp2_with fail
        refine (within_no x _ _ _ HX.out).mono ?_
        rintro e w' ⟨rfl, rfl⟩
        go_wp2_with fail
        go_ret
        exact ⟨by rw [hr.out]; rfl, D1.out⟩
    · obtain rfl : k = n := by omega
      have hvl : Hid (validsS l = true) := Lib.hid (by have := hv.out; rwa [List.take_of_length_le (by rw [← HL.out]; exact Nat.le_refl _)] at this)
      go_wp2_with fail
      go_ret
      exact ⟨by rw [hvl.out]; rfl, hD.out⟩
/-- which X came already, as the array holds it -/
def seenRow (S : Nat → Bool) : Array Value := ((List.range 17).map fun j => Value.bool (S j)).toArray
theorem seen_get (S : Nat → Bool) {j : Nat} (h : j < 17) : (seenRow S)[j]? = some (.bool (S j)) := by simp [seenRow, h]
theorem seen_set (S : Nat → Bool) (x : Nat) (h : x < 17) : (seenRow S).setIfInBounds x (.bool true) = seenRow (fun j => S j || decide (j = x)) := by
  apply Array.ext'
  simp only [seenRow, List.setIfInBounds_toArray]
  apply List.ext_getElem
  · simp
  · intro i h1 h2
    simp only [List.getElem_set, List.getElem_map, List.getElem_range]
    by_cases e : x = i
    · simp [e]
    · have e2 : ¬ i = x := fun h => e h.symm
      simp [e, e2]
structure SeenAt (w0 w : World) (B : Nat) (S : Nat → Bool) : Prop where
  row : w.heap[B]? = some (.cells (seenRow S) 79 (0, 0))
  below : Below w0.heap.size w0 w
  base : w0.heap.size ≤ B
theorem SeenAt.alloc {w0 w : World} {B : Nat} {S : Nat → Bool} (h : SeenAt w0 w B S) (o : Obj) : SeenAt w0 (w.alloc o) B S :=
  ⟨(Below.heap_alloc w o _ (by
    rcases Nat.lt_or_ge B w.heap.size with h' | h'
    · exact h'
    · have := h.row; simp [Array.getElem?_eq_none h'] at this)).trans h.row, h.below.alloc h.below.size o, h.base⟩
theorem SeenAt.store {w0 w : World} {B : Nat} {S : Nat → Bool} (h : SeenAt w0 w B S) {x : Nat} (hx : x < 17) : SeenAt w0 (w.setCell ⟨B, x, none⟩ (.bool true)) B (fun j => S j || decide (j = x)) :=
  ⟨by rw [heap_setCell_same _ _ x _ _ _ h.row, seen_set S x hx], h.below.setCell h.base _, h.base⟩
theorem SeenAt.cell {w0 w : World} {B : Nat} {S : Nat → Bool} (h : SeenAt w0 w B S) {x : Nat} (hx : x < 17) : w.cell? ⟨B, x, none⟩ = some (.bool (S x)) := by rw [Lib.cell_of_heap h.row, seen_get S hx]
theorem SeenAt.frozen {w0 w : World} {B : Nat} {S : Nat → Bool} (h : SeenAt w0 w B S) (x : Nat) : w.frozen? ⟨B, x, none⟩ = false := Lib.frozen_of_heap h.row x
/-- those seen are the X of the first k -/
def SeenX (l : List (Int × Int)) (k : Nat) (S : Nat → Bool) : Prop := diffX (Xs (l.take k)) = true ∧ ∀ x : Nat, S x = decide ((x : Int) ∈ Xs (l.take k))
theorem SeenX.start (l : List (Int × Int)) : SeenX l 0 (fun _ => false) := ⟨by simp [diffX, Xs], fun x => by simp [Xs]⟩
theorem SeenX.next {l : List (Int × Int)} {k : Nat} {S : Nat → Bool} (h : SeenX l k S) (hk : k < l.length) {x : Nat} (hx : l[k].1 = x) (hs : S x = false) : SeenX l (k + 1) (fun j => S j || decide (j = x)) := by
  have e : Xs (l.take (k + 1)) = Xs (l.take k) ++ [(x : Int)] := by unfold Xs; rw [List.take_succ_eq_append_getElem hk, List.map_append]; simp [hx]
  refine ⟨?_, fun j => ?_⟩
  · rw [e]
    have hnot : ¬ (x : Int) ∈ Xs (l.take k) := by
      have := h.2 x
      rw [hs] at this
      simpa using this.symm
    have h1 := h.1
    unfold diffX at h1 ⊢
    rw [decide_eq_true_iff] at h1 ⊢
    rw [List.pairwise_append]
    refine ⟨h1, by simp, ?_⟩
    intro a ha b hb
    simp only [List.mem_singleton] at hb
    subst hb
    rintro rfl
    exact hnot ha
  · show (S j || decide (j = x)) = _
    rw [e, h.2 j]
    by_cases e2 : j = x
    · simp [e2]
    · have e3 : ¬ (j : Int) = (x : Int) := by omega
      simp [e2, e3]
theorem SeenX.twice {l : List (Int × Int)} {k : Nat} {S : Nat → Bool} (h : SeenX l k S) (hk : k < l.length) {x : Nat} (hx : l[k].1 = x) (hs : S x = true) : diffX (Xs l) = false := by
  have := h.2 x
  rw [hs] at this
  have hm : (x : Int) ∈ Xs (l.take k) := by simpa using this.symm
  unfold Xs at hm
  obtain ⟨q, hq, hqx⟩ := List.mem_map.1 hm
  obtain ⟨i, hi, rfl⟩ := List.getElem_of_mem hq
  have hik : i < k := by rw [List.length_take] at hi; omega
  rw [List.getElem_take] at hqx
  unfold diffX
  rw [decide_eq_false_iff_not, List.pairwise_iff_getElem]
  intro H
  exact H i k (by simp [Xs]; omega) (by simp [Xs]; omega) hik (by simp [Xs]; rw [hqx, hx])
theorem seen_zero : (#[Value.bool false, .bool false, .bool false, .bool false, .bool false, .bool false, .bool false, .bool false, .bool false, .bool false, .bool false, .bool false, .bool false, .bool false, .bool false, .bool false, .bool false] : Array Value) = seenRow (fun _ => false) := rfl
set_option maxHeartbeats 1000000 in
theorem repeats_shares (a : Option Addr) (n cap : Nat) (l : List (Int × Int)) (w : World) (h : PtsAt w a n l) (hn : n ≤ 1000000) (hv : validsS l = true) :
    Calls Tryd.prog 37 #[.slice a n cap] w fun e w' => e = .returned (.bool (!diffX (Xs l))) ∧ Below w.heap.size w w' := by
  have HH := Lib.hid h
  have HL := Lib.hid h.len
  have HV := Lib.hid (validsS_iff.1 hv)
  clear h hv
  go_enter Tryd.func37, Tryd.ntmps37
  go_wp2_with fail
  have hS0 : Hid (SeenAt w (w.alloc (Obj.cells #[Value.bool false, .bool false, .bool false, .bool false, .bool false, .bool false, .bool false, .bool false, .bool false, .bool false, .bool false, .bool false, .bool false, .bool false, .bool false, .bool false, .bool false] 79)) w.heap.size (fun _ => false)) := Lib.hid
    ⟨by rw [seen_zero]; exact heap_lastF _ _, (Below.refl _ _).alloc (Nat.le_refl _) _, Nat.le_refl _⟩
  go_loopw [8] (fun ii wr => ∃ (k : Nat) (S : Nat → Bool), k ≤ n ∧ ii = .int .i64 (k : Int) ∧ Hid (SeenX l k S) ∧ Hid (SeenAt w wr w.heap.size S)) (fun ii _ => n - (intOf ii).toNat)
  case atStart => exact ⟨0, _, by omega, rfl, Lib.hid (SeenX.start l), hS0⟩
  case round =>
    clear hS0
    obtain ⟨k, S, hk, rfl, hX, hS⟩ := hrel
    by_cases hkn : k < n
    · have hkl : k < l.length := by rw [← HL.out]; exact hkn
      obtain ⟨b, off, rfl, -⟩ := HH.out.cells (by omega)
      obtain ⟨hc1, hc2⟩ := (HH.out.bel hS.out.below).cell hkl
      have hvk := HV.out _ (List.getElem_mem hkl)
      obtain ⟨x, hx⟩ : ∃ x : Nat, l[k].1 = x := ⟨l[k].1.toNat, by omega⟩
      obtain ⟨y, hy⟩ : ∃ y, y = l[k].2 := ⟨_, rfl⟩
      have hx17 : x < 17 := by omega
      have HXX := Lib.hid hx
      rw [hx] at hc1
      rw [← hy] at hc2
      have b1 : (0 : Int) ≤ (k : Int) := by omega
      have b2 : (k : Int) < (n : Int) := by omega
      have b3 : (0 : Int) ≤ (x : Int) := by omega
      have b4 : (x : Int) < 17 := by omega
      have hS1 := Lib.hid (hS.out.alloc (Obj.cells #[Value.int .i64 (x : Int), Value.int .i64 y] 24))
      have hcs := hS1.out.cell hx17
      have hfz := hS1.out.frozen x
      clear hx hy hvk
      cases hsx : S x with
      | true =>
        rw [hsx] at hcs
        have hr : Hid (diffX (Xs l) = false) := Lib.hid (hX.out.twice hkl HXX.out hsx)
        clear hsx
        go_wp2_with fail
        go_ret
        exact ⟨by rw [hr.out]; rfl, hS1.out.below⟩
      | false =>
        rw [hsx] at hcs
        have hX2 := Lib.hid (hX.out.next hkl HXX.out hsx)
        have hS2 := Lib.hid (hS1.out.store hx17)
        clear hsx
        go_wp2_with fail
        go_roundw
        case rel => exact ⟨k + 1, _, by omega, by go_num, hX2, hS2⟩
        case measure => simp [intOf]; omega
    · obtain rfl : k = n := by omega
      have hr : Hid (diffX (Xs l) = true) := Lib.hid (by have := hX.out.1; rwa [List.take_of_length_le (by rw [← HL.out]; exact Nat.le_refl _)] at this)
      go_wp2_with fail
      go_ret
      exact ⟨by rw [hr.out]; rfl, hS.out.below⟩
end Go.Proofs.YtcdnddjoonecdaaDoor
