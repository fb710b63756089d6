/-
  The statement's function repeated: a text of equal bytes.
-/
import Derived.Test.YthpghjklnkdmfaaDoorRmQ
import Derived.Test.YthpghjklnkdmfaaDoorRmVX
import Derived.Test.YthpghjklnkdmfaaDoorNatA
set_option linter.unusedVariables false
set_option maxRecDepth 100000
namespace Go.Proofs.YthpghjklnkdmfaaDoor
open Go.RowKit
open Rt
/-- a row of bytes while it is filled -/
def repL (d : UInt8) (N k : Nat) : List UInt8 := List.replicate k d ++ List.replicate (N - k) 0
theorem repL_length (d : UInt8) {N k : Nat} (h : k ≤ N) : (repL d N k).length = N := by simp [repL]; omega
theorem repL_set (d : UInt8) {N k : Nat} (h : k < N) : (repL d N k).set k d = repL d N (k + 1) := by
  unfold repL
  rw [List.set_append_right _ _ (by simp), List.length_replicate, Nat.sub_self, show N - k = (N - (k + 1)) + 1 by omega, List.replicate_succ, List.set_cons_zero, List.replicate_succ', List.append_assoc]
  rfl
theorem repL_done (d : UInt8) (N : Nat) : repL d N N = List.replicate N d := by simp [repL]
def byteV (l : List UInt8) : List Value := l.map fun c : UInt8 => Value.int .u8 (c.toNat : Int)
theorem repL_zero (d : UInt8) (N : Nat) : byteV (repL d N 0) = List.replicate N (.int .u8 0) := by simp [repL, byteV]
set_option maxHeartbeats 1000000 in
theorem prep_any (d : UInt8) (N : Nat) (w : World) (hN : N ≤ 1000) :
    Calls Tryd.prog 23 #[.int .u8 (d.toNat : Int), .int .i64 (N : Int)] w fun e w' => e = .returned (.string (repB d N)) ∧ Below w.heap.size w w' := by
  obtain ⟨i0, hi, hz0, hz1, hz2⟩ := info_parts infoByte
  obtain ⟨x, hx⟩ : ∃ x, x = (d.toNat : Int) := ⟨_, rfl⟩
  have HX := Lib.hid hx
  rw [← hx]
  clear hx
  go_enter Tryd.func23, Tryd.ntmps23
  go_wp2_with (at_make; refine wpList_make_full _ rfl _ _ 66 rfl w.heap.size 5 i0 (.int .u8 0) 1 Tryd.underlying66 hi hz0 hz1 _ _ _ _ N rfl rfl rfl rfl (by rw [hz2]; omega) (by unfold maxLen; omega) (Nat.le_refl _) ?_)
  intro w1 hown hgrow
  have hB1 : Below w.heap.size w w1 := (Below.refl _ _).grown hgrow (Nat.le_refl _) (fun k h => by cases h)
  have hO1 : w1.ownsRow w.heap.size 5 1 (.slice (some ⟨w.heap.size, 0, none⟩) N N) N (byteV (repL d N 0)) := by
    have e : (madeCells #[Value.int .u8 0] N).toList = byteV (repL d N 0) := by
      rw [toList_madeCells_one, repL_zero]
    rw [← e]; exact hown
  have HO := Lib.hid hO1
  clear hown hgrow hO1
  go_wp2_with fail
  go_loopw [6] (fun i wr => ∃ k : Nat, k ≤ N ∧ i = .int .i64 k ∧ Hid (wr.ownsRow w.heap.size 5 1 (.slice (some ⟨w.heap.size, 0, none⟩) N N) N (byteV (repL d N k))) ∧ Below w.heap.size w wr) (fun i _ => N - (intOf i).toNat)
  case atStart => exact ⟨0, by omega, rfl, HO, hB1⟩
  case round =>
    obtain ⟨k, hk, rfl, hI, hB⟩ := hrel
    clear HO hB1
    by_cases hlt : k < N
    · have hcell : wr.cell? ⟨w.heap.size, k, none⟩ = some (.int .u8 (((repL d N k).getD k 0).toNat : Int)) := by
        rw [World.ownsRow.cellAt hI.out k (by omega)]
        have hlen : k < (repL d N k).length := by rw [repL_length d (by omega)]; omega
        simp [byteV, List.getD, hlen]
      have hfz := World.ownsRow.frozenAt hI.out k
      have hst := World.ownsRow.stored hI.out k (.int .u8 x)
      have HST := Lib.hid hst
      clear hst
      go_wp2_with fail
      go_roundw
      case rel =>
        refine ⟨k + 1, by omega, by go_num, Lib.hid ?_, hB.setCell (p := ⟨w.heap.size, k, none⟩) (Nat.le_refl _) _⟩
        have e : (byteV (repL d N k)).set k (.int .u8 x) = byteV (repL d N (k + 1)) := by
          rw [← repL_set d hlt, byteV, byteV, List.map_set, HX.out]
        rw [← e]
        exact HST.out.1
      case measure => simp [intOf]; omega
    · obtain rfl : k = N := by omega
      have hI2 := hI.out
      rw [repL_done] at hI2
      have hconv := numConvN (List.replicate k d) w.heap.size 0 k k (by simp) wr (fun j hj => by
        have hj' : j < k := by simpa using hj
        rw [Nat.zero_add, World.ownsRow.cellAt hI2 j (by omega)]
        simp [byteV, hj'])
      clear hI2 hI
      go_wp2_with fail
      go_ret
      exact ⟨rfl, hB⟩
end Go.Proofs.YthpghjklnkdmfaaDoor
