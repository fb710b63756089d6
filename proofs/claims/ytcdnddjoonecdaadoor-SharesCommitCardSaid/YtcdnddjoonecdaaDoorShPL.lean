/-
  The program's leaf of a share (layer 7).
-/
import Derived.Test.YtcdnddjoonecdaaDoorShText
import Derived.Test.YtcdnddjoonecdaaDoorShPA
import Derived.Test.YtcdnddjoonecdaaDoorTrI
import Derived.Test.YtcdnddjoonecdaaDoorDgC
set_option linter.unusedVariables false
set_option maxRecDepth 100000
namespace Go.Proofs.YtcdnddjoonecdaaDoor
open Go.RowKit
open Fdp
theorem below_then {a b c : World} (h : Below a.heap.size a b) (k : Below b.heap.size b c) : Below a.heap.size a c := h.trans (k.mono h.size)
theorem pitoa_nat (n : Nat) (w : World) (h : n < 2147483647) (ht : TabOk w) : Calls Tryd.prog 42 #[.int .i64 (n : Int)] w fun e w' => e = .returned (.string (decB n)) ∧ Below w.heap.size w w' := by
  refine (Tryd.strconv_Itoa n (by omega) (by omega) _ ht).mono ?_
  rintro e w1 ⟨rfl, q, os, hw1⟩
  have hit : Lib.itoa (n : Int) = Lib.decDigits n := by unfold Lib.itoa; rw [if_neg (by omega)]; rfl
  exact ⟨by rw [hit]; rfl, by rw [hw1]; exact Lib.below_grow _ _ (Nat.le_refl _) _ _⟩
set_option maxHeartbeats 1000000 in
theorem pleafS_any (x y : Nat) (w : World) (hx : x ≤ 16) (hy : y < 2147483647) (ht : TabOk w) :
    Calls Tryd.prog 24 #[.agg #[.int .i64 (x : Int), .int .i64 (y : Int)]] w fun e w' => e = .returned (.string (leafB (textS (x, y)))) ∧ Below w.heap.size w w' := by
  obtain ⟨A, hA⟩ : ∃ A, A = decB x := ⟨_, rfl⟩
  obtain ⟨B, hB⟩ : ∃ B, B = decB y := ⟨_, rfl⟩
  have sA : A.size ≤ 20 := by rw [hA]; exact decB_size x (by omega)
  have sB : B.size ≤ 20 := by rw [hB]; exact decB_size y (by omega)
  have cA : Hid (∀ w : World, TabOk w → Calls Tryd.prog 42 #[.int .i64 (x : Int)] w fun e w' => e = .returned (.string A) ∧ Below w.heap.size w w') := Lib.hid (fun w h => by rw [hA]; exact pitoa_nat x w (by omega) h)
  have cB : Hid (∀ w : World, TabOk w → Calls Tryd.prog 42 #[.int .i64 (y : Int)] w fun e w' => e = .returned (.string B) ∧ Below w.heap.size w w') := Lib.hid (fun w h => by rw [hB]; exact pitoa_nat y w hy h)
  obtain ⟨F, hF⟩ : ∃ F, F = leafB (textS ((x : Int), (y : Int))) := ⟨_, rfl⟩
  have hT : textS ((x : Int), (y : Int)) = (A ++ ⟨#[32]⟩) ++ B := by rw [hA, hB]; rfl
  have hts : (textS ((x : Int), (y : Int))).size ≤ 2147483648 := by have := textS_size hx hy; omega
  have cF : Hid (∀ w : World, TabOk w → Calls Tryd.prog 41 #[.string ((A ++ ⟨#[32]⟩) ++ B)] w fun e w' => e = .returned (.string F) ∧ Below w.heap.size w w') := Lib.hid (fun w h => by rw [hF, ← hT]; exact pleaf_any _ w hts h)
  rw [← hF]
  have s1 : ¬ (9223372036854775807 < A.size + (⟨#[32]⟩ : ByteArray).size) := by
    have h3 : (⟨#[32]⟩ : ByteArray).size = 1 := rfl
    omega
  have s3 : ¬ (9223372036854775807 < (A ++ (⟨#[32]⟩ : ByteArray)).size + B.size) := by
    have h3 : (⟨#[32]⟩ : ByteArray).size = 1 := rfl
    rw [ByteArray.size_append]; omega
  have s4 : ¬ (9223372036854775807 < A.size + 1) := by omega
  have s5 : ¬ (9223372036854775807 < A.size + 1 + B.size) := by omega
  have HT := Lib.hid ht
  clear hA hB sA sB hF hT hts hx hy ht
  have D1 := Lib.hid (((Below.refl w.heap.size w).alloc (Nat.le_refl _) (Obj.cells #[Value.int .i64 (x : Int), Value.int .i64 (y : Int)] 24)).drew)
  have T1 : Hid (TabOk (w.alloc (Obj.cells #[Value.int .i64 (x : Int), Value.int .i64 (y : Int)] 24)).drew) := Lib.hid (TabOk.below HT.out D1.out)
  have hx1 : Hid ((w.alloc (Obj.cells #[Value.int .i64 (x : Int), Value.int .i64 (y : Int)] 24)).drew.cell? ⟨w.heap.size, 0, none⟩ = some (.int .i64 (x : Int))) := Lib.hid (by
    show (w.alloc (Obj.cells #[Value.int .i64 (x : Int), Value.int .i64 (y : Int)] 24)).cell? ⟨w.heap.size, 0, none⟩ = _
    rw [Lib.cell_of_heap (heap_lastF _ _)]; rfl)
  have hy1 : Hid ((w.alloc (Obj.cells #[Value.int .i64 (x : Int), Value.int .i64 (y : Int)] 24)).drew.cell? ⟨w.heap.size, 1, none⟩ = some (.int .i64 (y : Int))) := Lib.hid (by
    show (w.alloc (Obj.cells #[Value.int .i64 (x : Int), Value.int .i64 (y : Int)] 24)).cell? ⟨w.heap.size, 1, none⟩ = _
    rw [Lib.cell_of_heap (heap_lastF _ _)]; rfl)
  go_enter Tryd.func24, Tryd.ntmps24
  go_wp2_with fail
  go_region_law (first
    | (go_simp; go_at_call 42; refine Calls.mono (by first | with_reducible exact cA.out _ T1.out | with_reducible exact cB.out _ T1.out | with_reducible exact cA.out _ T5.out | with_reducible exact cB.out _ T5.out) ?_; rintro e w5 ⟨rfl, hb5⟩; have T5 := Lib.hid (TabOk.below (by first | exact T5.out | exact T1.out) hb5); have D5 := Lib.hid (below_then (by first | exact D5.out | exact D1.out) hb5); have hx5 := (hb5.cell (p := ⟨w.heap.size, 0, none⟩) (cell_ltF (by first | exact hx5 | exact hx1.out))).trans (by first | exact hx5 | exact hx1.out); have hy5 := (hb5.cell (p := ⟨w.heap.size, 1, none⟩) (cell_ltF (by first | exact hy5 | exact hy1.out))).trans (by first | exact hy5 | exact hy1.out); clear hb5)
    | (go_simp; go_at_call 41; refine (cF.out _ T5.out).mono ?_; rintro e w6 ⟨rfl, hb6⟩; have D6 := Lib.hid (below_then D5.out hb6); clear hb6)
    | fail "no arm")
  all_goals
    go_wp2_with fail
    go_ret
    exact ⟨rfl, D6.out⟩
end Go.Proofs.YtcdnddjoonecdaaDoor
