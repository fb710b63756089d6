/-
  The program's Check of a share (layer 7).
-/
import Derived.Test.YtcdnddjoonecdaaDoorShPL
import Derived.Test.YtcdnddjoonecdaaDoorShRoot
import Derived.Test.YtcdnddjoonecdaaDoorTrD
set_option linter.unusedVariables false
set_option maxRecDepth 100000
namespace Go.Proofs.YtcdnddjoonecdaaDoor
open Go.RowKit
open Fdp
/-- is a share accepted? -/
def checkS (root : ByteArray) (total : Int) (q : Int × Int) (p : List ByteArray) : Bool :=
  decide (1 ≤ total ∧ total ≤ 16) && (validS q && (decide (q.1 ≤ total) && checkB root total (q.1 - 1) (leafB (textS q)) p))
theorem checkS_total {root : ByteArray} {total : Int} {q : Int × Int} {p : List ByteArray} (h : ¬ (1 ≤ total ∧ total ≤ 16)) : checkS root total q p = false := by unfold checkS; rw [decide_eq_false h]; rfl
theorem checkS_valid {root : ByteArray} {total : Int} {q : Int × Int} {p : List ByteArray} (h : validS q = false) : checkS root total q p = false := by unfold checkS; rw [h]; simp
theorem checkS_past {root : ByteArray} {total : Int} {q : Int × Int} {p : List ByteArray} (h : total < q.1) : checkS root total q p = false := by unfold checkS; rw [decide_eq_false (show ¬ q.1 ≤ total by omega)]; simp
theorem checkS_all {root : ByteArray} {total : Int} {q : Int × Int} {p : List ByteArray} (h : 1 ≤ total ∧ total ≤ 16) (hv : validS q = true) (hx : ¬ total < q.1) : checkS root total q p = checkB root total (q.1 - 1) (leafB (textS q)) p := by
  unfold checkS; rw [decide_eq_true h, hv, decide_eq_true (show q.1 ≤ total by omega)]; rfl
theorem valids_one (q : Int × Int) : validsS [q] = validS q := by simp [validsS]
theorem sh_one2 (w0 : World) (o : Obj) (a b : Int) : PtsAt ((w0.alloc o).alloc (Obj.cells #[Value.int .i64 a, Value.int .i64 b] 24)) (some ⟨w0.heap.size + 1, 0, none⟩) 1 [(a, b)] := sh_one _ _ _ (by simp)
set_option maxHeartbeats 2000000 in
theorem pcheckS_any (root : ByteArray) (total x y : Int) (v : Value) (p : List ByteArray) (w : World) (h : StrsOk w v p) (ht : TabOk w) :
    Calls Tryd.prog 11 #[.string root, .int .i64 total, .agg #[.int .i64 x, .int .i64 y], v] w fun e w' => e = .returned (.bool (checkS root total (x, y) p)) ∧ Below w.heap.size w w' := by
  have HV := Lib.hid h
  have HT := Lib.hid ht
  obtain ⟨pa, pc, rfl, -, -⟩ := h.room
  clear h ht
  have D1 := Lib.hid ((Below.refl w.heap.size w).alloc (Nat.le_refl _) (Obj.cells #[Value.int .i64 x, Value.int .i64 y] 24))
  have D2 := Lib.hid (D1.out.alloc D1.out.size (Obj.cells #[Value.int .i64 x, Value.int .i64 y] 24))
  by_cases h1 : 1 ≤ total ∧ total ≤ 16
  · have H1 := Lib.hid h1
    cases hv : validS (x, y) with
    | false =>
      rw [checkS_valid hv]
      have HW := Lib.hid hv
      clear h1 hv
      go_enter Tryd.func11, Tryd.ntmps11
      go_wp2_with fail
      refine (within_yes _ _ _ _ H1.out.1 H1.out.2).mono ?_
      rintro e w' ⟨rfl, rfl⟩
      go_wp2_with fail
      refine (valid_shares _ 1 1 [(x, y)] _ (sh_one _ _ _ (by simp)) (by decide)).mono ?_
      rintro e w3 ⟨rfl, hb⟩
      rw [valids_one, HW.out]
      have D3 := Lib.hid (below_then D2.out hb)
      clear hb
      go_wp2_with fail
      go_ret
      exact ⟨rfl, D3.out⟩
    | true =>
      have hx0 := (validS_iff.1 hv).1
      simp only at hx0
      have hy0 := (validS_iff.1 hv).2
      simp only at hy0
      have HW := Lib.hid hv
      by_cases h2 : total < x
      · rw [checkS_past h2]
        clear h1 hv hx0 hy0
        go_enter Tryd.func11, Tryd.ntmps11
        go_wp2_with fail
        refine (within_yes _ _ _ _ H1.out.1 H1.out.2).mono ?_
        rintro e w' ⟨rfl, rfl⟩
        go_wp2_with fail
        refine (valid_shares _ 1 1 [(x, y)] _ (sh_one _ _ _ (by simp)) (by decide)).mono ?_
        rintro e w3 ⟨rfl, hb⟩
        rw [valids_one, HW.out]
        have D3 := Lib.hid (below_then D2.out hb)
        have hc0 : w3.cell? ⟨w.heap.size, 0, none⟩ = some (.int .i64 x) := (hb.cell (p := ⟨w.heap.size, 0, none⟩) (by simp; omega)).trans (by rw [Lib.cell_of_heap ((Below.heap_alloc _ _ _ (by simp)).trans (heap_lastF _ _))]; rfl)
        clear hb
        go_wp2_with fail
        go_ret
        exact ⟨rfl, D3.out⟩
      · obtain ⟨r, hr⟩ : ∃ r, r = checkS root total (x, y) p := ⟨_, rfl⟩
        rw [← hr]
        obtain ⟨X, rfl⟩ : ∃ X : Nat, x = X := ⟨x.toNat, by omega⟩
        obtain ⟨Y, rfl⟩ : ∃ Y : Nat, y = Y := ⟨y.toNat, by have := hy0.1; omega⟩
        have hX16 : X ≤ 16 := by omega
        have hYP : Y < 2147483647 := by have := hy0.2; omega
        obtain ⟨F, hF⟩ : ∃ F, F = leafB (textS ((X : Int), (Y : Int))) := ⟨_, rfl⟩
        have cF : Hid (∀ w : World, TabOk w → Calls Tryd.prog 24 #[.agg #[.int .i64 (X : Int), .int .i64 (Y : Int)]] w fun e w' => e = .returned (.string F) ∧ Below w.heap.size w w') := Lib.hid (fun w h => by rw [hF]; exact pleafS_any X Y w hX16 hYP h)
        have hFs : F.size ≤ maxLen := by rw [hF, show (leafB (textS ((X : Int), (Y : Int)))).size = 16 from sumB_size _]; unfold maxLen; omega
        have cC : Hid (∀ w : World, StrsOk w (.slice pa p.length pc) p → TabOk w → Calls Tryd.prog 28 #[.string root, .int .i64 total, .int .i64 ((X : Int) - 1), .string F, .slice pa p.length pc] w fun e w' => e = .returned (.bool r) ∧ Below w.heap.size w w') := Lib.hid (fun w h ht => by
          rw [hr, checkS_all h1 hv h2, ← hF]; exact pcheck_any _ p root F total _ w h hFs ht)
        have e1 : IntKind.i64.wrap ((X : Int) - 1) = (X : Int) - 1 := IntWalk.i64_in _ (by omega)
        have t2 : decide (total < (X : Int)) = false := decide_eq_false h2
        clear h1 hv hr hF hFs hx0 hy0 hYP
        go_enter Tryd.func11, Tryd.ntmps11
        go_wp2_with fail
        refine (within_yes _ _ _ _ H1.out.1 H1.out.2).mono ?_
        rintro e w' ⟨rfl, rfl⟩
        go_wp2_with fail
        refine (valid_shares _ 1 1 [((X : Int), (Y : Int))] _ (sh_one _ _ _ (by simp)) (by decide)).mono ?_
        rintro e w3 ⟨rfl, hb⟩
        rw [valids_one, HW.out]
        have D3 := Lib.hid (below_then D2.out hb)
        have hc0 : w3.cell? ⟨w.heap.size, 0, none⟩ = some (.int .i64 (X : Int)) := (hb.cell (p := ⟨w.heap.size, 0, none⟩) (by simp; omega)).trans (by rw [Lib.cell_of_heap ((Below.heap_alloc _ _ _ (by simp)).trans (heap_lastF _ _))]; rfl)
        have hc1 : w3.cell? ⟨w.heap.size, 1, none⟩ = some (.int .i64 (Y : Int)) := (hb.cell (p := ⟨w.heap.size, 1, none⟩) (by simp; omega)).trans (by rw [Lib.cell_of_heap ((Below.heap_alloc _ _ _ (by simp)).trans (heap_lastF _ _))]; rfl)
        have T3 := Lib.hid (TabOk.below HT.out D3.out)
        have V3 := Lib.hid (HV.out.below D3.out)
        have HC0 := Lib.hid hc0
        clear hb
        go_wp2_with fail
        go_region_law (first
          | (go_simp; go_at_call 24; refine (cF.out _ T3.out.drew).mono ?_; rintro e w5 ⟨rfl, hb5⟩; have D5 := Lib.hid (below_then D3.out.drew hb5); have hc05 := (hb5.cell (p := ⟨w.heap.size, 0, none⟩) (cell_ltF HC0.out)).trans HC0.out; clear hb5)
          | (go_simp; go_at_call 28; refine (cC.out _ (HV.out.below D5.out) (TabOk.below HT.out D5.out)).mono ?_; rintro e w6 ⟨rfl, hb6⟩; have D6 := Lib.hid (below_then D5.out hb6); clear hb6)
          | fail "no arm")
        all_goals
          go_wp2_with fail
          go_ret
          exact ⟨rfl, D6.out⟩
  · rw [checkS_total h1]
    have H1 := Lib.hid h1
    clear h1
    go_enter Tryd.func11, Tryd.ntmps11
    go_wp2_with fail
    refine (within_no _ _ _ _ H1.out).mono ?_
    rintro e w' ⟨rfl, rfl⟩
    go_wp2_with fail
    go_ret
    exact ⟨rfl, D1.out⟩
end Go.Proofs.YtcdnddjoonecdaaDoor
