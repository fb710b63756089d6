/-
  The document's own Check of a share (layer 7).
-/
import Derived.Test.YtcdnddjoonecdaaDoorShPCk
set_option linter.unusedVariables false
set_option maxRecDepth 100000
namespace Go.Proofs.YtcdnddjoonecdaaDoor
open Go.RowKit
open Fdp
set_option maxHeartbeats 2000000 in
theorem refcheckS_any (root : ByteArray) (total x y : Int) (v : Value) (p : List ByteArray) (w : World) (h : StrsOk w v p) :
    Calls Tryd.prog 15 #[.string root, .int .i64 total, .agg #[.int .i64 x, .int .i64 y], v] w fun e w' => e = .returned (.bool (checkS root total (x, y) p)) ∧ Below w.heap.size w w' := by
  have HV := Lib.hid h
  obtain ⟨pa, pc, rfl, -, -⟩ := h.room
  clear h
  have D1 := Lib.hid ((Below.refl w.heap.size w).alloc (Nat.le_refl _) (Obj.cells #[Value.int .i64 x, Value.int .i64 y] 24))
  by_cases h1 : total < 1
  · rw [checkS_total (by omega)]
    go_enter Tryd.func15, Tryd.ntmps15
    go_wp2_with fail
    go_ret
    exact ⟨rfl, D1.out⟩
  · by_cases h2 : 16 < total
    · rw [checkS_total (by omega)]
      go_enter Tryd.func15, Tryd.ntmps15
      go_wp2_with fail
      go_ret
      exact ⟨rfl, D1.out⟩
    · have H12 : Hid (1 ≤ total ∧ total ≤ 16) := Lib.hid (by omega)
      cases hv : validS (x, y) with
      | false =>
        rw [checkS_valid hv]
        have HW := Lib.hid hv
        clear hv
        go_enter Tryd.func15, Tryd.ntmps15
        go_wp2_with fail
        refine (refvalidS_any x y _).mono ?_
        rintro e w3 ⟨rfl, hb⟩
        rw [HW.out]
        have D3 := Lib.hid (below_then D1.out hb)
        clear hb
        go_wp2_with fail
        go_ret
        exact ⟨rfl, D3.out⟩
      | true =>
        have hx0 := (validS_iff.1 hv).1
        simp only at hx0
        have hy0 := (validS_iff.1 hv).2
        simp only at hy0
        have HW := Lib.hid hv
        by_cases h3 : total < x
        · rw [checkS_past h3]
          clear hv hx0 hy0
          go_enter Tryd.func15, Tryd.ntmps15
          go_wp2_with fail
          refine (refvalidS_any x y _).mono ?_
          rintro e w3 ⟨rfl, hb⟩
          rw [HW.out]
          have D3 := Lib.hid (below_then D1.out hb)
          have hc0 : w3.cell? ⟨w.heap.size, 0, none⟩ = some (.int .i64 x) := (hb.cell (p := ⟨w.heap.size, 0, none⟩) (by simp)).trans (by rw [Lib.cell_of_heap (heap_lastF _ _)]; rfl)
          clear hb
          go_wp2_with fail
          go_ret
          exact ⟨rfl, D3.out⟩
        · obtain ⟨r, hr⟩ : ∃ r, r = checkS root total (x, y) p := ⟨_, rfl⟩
          rw [← hr]
          obtain ⟨X, rfl⟩ : ∃ X : Nat, x = X := ⟨x.toNat, by omega⟩
          obtain ⟨Y, rfl⟩ : ∃ Y : Nat, y = Y := ⟨y.toNat, by have := hy0.1; omega⟩
          have hX16 : X ≤ 16 := by omega
          have hYP : Y < 2147483647 := by have := hy0.2; omega
          obtain ⟨T, hT⟩ : ∃ T, T = textS ((X : Int), (Y : Int)) := ⟨_, rfl⟩
          have hts : T.size ≤ 2147483648 := by rw [hT]; have := textS_size hX16 hYP; omega
          have cT : Hid (∀ w : World, Calls Tryd.prog 13 #[.agg #[.int .i64 (X : Int), .int .i64 (Y : Int)]] w fun e w' => e = .returned (.string T) ∧ Below w.heap.size w w') := Lib.hid (fun w => by rw [hT]; exact reftextS_any X Y w hX16 hYP)
          obtain ⟨F, hF⟩ : ∃ F, F = leafB T := ⟨_, rfl⟩
          have cF : Hid (∀ w : World, Calls Tryd.prog 17 #[.string T] w fun e w' => e = .returned (.string F) ∧ Below w.heap.size w w') := Lib.hid (fun w => by rw [hF]; exact refleaf_any T w hts)
          have hFs : F.size ≤ maxLen := by rw [hF, show (leafB T).size = 16 from sumB_size _]; unfold maxLen; omega
          have cC : Hid (∀ w : World, StrsOk w (.slice pa p.length pc) p → Calls Tryd.prog 33 #[.string root, .int .i64 total, .int .i64 ((X : Int) - 1), .string F, .slice pa p.length pc] w fun e w' => e = .returned (.bool r) ∧ Below w.heap.size w w') := Lib.hid (fun w h => by
            rw [hr, checkS_all H12.out hv h3, ← hT, ← hF]; exact refcheck_any _ p root F total _ w h hFs)
          have e1 : IntKind.i64.wrap ((X : Int) - 1) = (X : Int) - 1 := IntWalk.i64_in _ (by omega)
          have t2 : decide (total < (X : Int)) = false := decide_eq_false h3
          clear hv hr hF hFs hx0 hy0 hYP hT hts
          go_enter Tryd.func15, Tryd.ntmps15
          go_wp2_with fail
          refine (refvalidS_any (X : Int) (Y : Int) _).mono ?_
          rintro e w3 ⟨rfl, hb⟩
          rw [HW.out]
          have D3 := Lib.hid (below_then D1.out hb)
          have hc0 : w3.cell? ⟨w.heap.size, 0, none⟩ = some (.int .i64 (X : Int)) := (hb.cell (p := ⟨w.heap.size, 0, none⟩) (by simp)).trans (by rw [Lib.cell_of_heap (heap_lastF _ _)]; rfl)
          have hc1 : w3.cell? ⟨w.heap.size, 1, none⟩ = some (.int .i64 (Y : Int)) := (hb.cell (p := ⟨w.heap.size, 1, none⟩) (by simp)).trans (by rw [Lib.cell_of_heap (heap_lastF _ _)]; rfl)
          have HC0 := Lib.hid hc0
          clear hb
          go_wp2_with fail
          go_region_law (first
            | (go_simp; go_at_call 13; refine (cT.out _).mono ?_; rintro e w5 ⟨rfl, hb5⟩; have D5 := Lib.hid (below_then D3.out.drew hb5); have hc05 := (hb5.cell (p := ⟨w.heap.size, 0, none⟩) (cell_ltF HC0.out)).trans HC0.out; have HC5 := Lib.hid hc05; clear hb5)
            | (go_simp; go_at_call 17; refine (cF.out _).mono ?_; rintro e w6 ⟨rfl, hb6⟩; have D6 := Lib.hid (below_then D5.out hb6); have hc06 := (hb6.cell (p := ⟨w.heap.size, 0, none⟩) (cell_ltF HC5.out)).trans HC5.out; clear hb6)
            | (go_simp; go_at_call 33; refine (cC.out _ (HV.out.below D6.out)).mono ?_; rintro e w7 ⟨rfl, hb7⟩; have D7 := Lib.hid (below_then D6.out hb7); clear hb7)
            | fail "no arm")
          all_goals
            go_wp2_with fail
            go_ret
            exact ⟨rfl, D7.out⟩
end Go.Proofs.YtcdnddjoonecdaaDoor
