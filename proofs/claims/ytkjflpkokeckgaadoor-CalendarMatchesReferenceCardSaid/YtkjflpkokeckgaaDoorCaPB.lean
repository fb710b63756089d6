/-
  The program's calendar (layer 9): the moments from one on, as they are ranged over, and Next.
-/
import Derived.RangeFuncNested
import Derived.RangeFuncBound
import Derived.RangeFuncCalls
import Derived.RangeFuncLeaves
import Derived.RangeFuncBox
import Derived.Shelf.Abstract
import Derived.Shelf.RegionOpen
import Derived.WalkKit
import Derived.OwnWalkIn
import Derived.TacticsInMore
import Derived.LoopNIn
import Derived.LoopIn
import Derived.Maps.AppendAt
import Derived.Laws.EntriesVeiled
import Derived.Test.YtkjflpkokeckgaaDoorCaPA
set_option linter.unusedVariables false
set_option maxRecDepth 100000
namespace Go.Proofs.YtkjflpkokeckgaaDoor
open Go.RowKit Go.Shelf
open Ca
attribute [local go_sem] Oper.semAt_some
/-- the moments from m on -/
def fullM (m : Nat) : List Nat := (List.range (38400 - m)).map (m + ·)
theorem fullM_len (m : Nat) : (fullM m).length = 38400 - m := by simp [fullM]
theorem fullM_get {m i : Nat} (h : m + i < 38400) : (fullM m)[i]? = some (m + i) := by
  rw [fullM, List.getElem?_map, List.getElem?_range (by omega)]; rfl
theorem fullM_take {m i : Nat} (h : m + i < 38400) : (fullM m).take i ++ [m + i] = (fullM m).take (i + 1) := by
  obtain ⟨h1, h2⟩ := List.getElem?_eq_some_iff.1 (fullM_get h)
  rw [List.take_succ_eq_append_getElem h1, h2]
theorem fullM_mem {m y : Nat} (h1 : m ≤ y) (h2 : y < 38400) : y ∈ fullM m := by
  simp only [fullM, List.mem_map, List.mem_range]
  exact ⟨y - m, by omega, by omega⟩
theorem fullM_lt {m y : Nat} (h : y ∈ fullM m) : m ≤ y ∧ y < 38400 := by
  simp only [fullM, List.mem_map, List.mem_range] at h
  obtain ⟨i, h1, h2⟩ := h
  omega
/-- the last of a first part of the moments, and those before it -/
theorem fullM_pre {m x : Nat} {pre : List Nat} (h : pre ++ [x] <+: fullM m) : m ≤ x ∧ x < 38400 ∧ ∀ y, m ≤ y → y < x → y ∈ pre := by
  have hx : x ∈ fullM m := h.subset (by simp)
  obtain ⟨h1, h2⟩ := fullM_lt hx
  refine ⟨h1, h2, fun y hy1 hy2 => ?_⟩
  obtain ⟨t, ht⟩ := h
  have e1 : (fullM m)[pre.length]? = some x := by rw [← ht]; simp
  have hl : m + pre.length < 38400 := by
    have := (List.getElem?_eq_some_iff.1 e1).1
    rw [fullM_len] at this; omega
  rw [fullM_get hl] at e1
  have e1 : m + pre.length = x := by simpa using e1
  have e2 : (fullM m)[y - m]? = some y := by rw [fullM_get (by omega)]; congr 1; omega
  rw [← ht, List.append_assoc, List.getElem?_append_left (by omega)] at e2
  exact List.mem_of_getElem? e2
def mo (x : Nat) : Nat := x % 38400
theorem mo_lt (x : Nat) : mo x < 38400 := Nat.mod_lt _ (by decide)
theorem mo_id {x : Nat} (h : x < 38400) : mo x = x := Nat.mod_eq_of_lt h
theorem pfrom_any (m : Int) (w : World) : Calls Tryd.prog 29 #[.int .i64 m] w fun e w' =>
    e = .returned (.func (.func 35) #[] #[.pointer (some ⟨w.heap.size, 0, none⟩)]) ∧ w' = w.alloc (.cells #[.int .i64 m] 3) := by
  have hmf : ∀ (fn : Fn) (first cap : Array Value) (w : World), (Instr.makeFunc fn first cap).run Tryd.prog w = .ok (.func fn first cap) w := fun _ _ _ _ => rfl
  go_enter Tryd.func29, Tryd.ntmps29
  go_wp2_with fail
  go_ret
  exact ⟨rfl, rfl⟩
set_option maxHeartbeats 4000000 in
theorem pfrom1_in (n : Nat) (hn : 1 ≤ n) (l Bm n₀ : Nat) (m : Nat) (hm : m < 38400) (J Jx : List Nat → World → Prop)
    (hY : ∀ pre x W, J pre W → pre.length < 38400 → YieldAt Fence.wide (n - 1) Tryd.prog l #[.int .i64 ((mo x : Nat) : Int)] W fun e W' =>
      (e = .returned (.bool true) ∧ J (pre ++ [x]) W' ∧ Below n₀ W W') ∨ (e = .returned (.bool false) ∧ Jx (pre ++ [x]) W'))
    (W : World) (hB : W.cell? ⟨Bm, 0, none⟩ = some (.int .i64 (m : Int))) (h0 : J [] W) :
    CallsIn Fence.wide n Tryd.prog 35 #[.func (.yield l) #[] #[], .pointer (some ⟨Bm, 0, none⟩)] W fun e W' => (∃ v, e = .returned v) ∧
      ((∃ ys, ys = fullM m ∧ J ys W') ∨ (∃ pre, pre <+: fullM m ∧ Jx pre W')) := by
  have HY := Lib.hid hY
  have H0 := Lib.hid h0
  clear hY h0
  refine callsIn_of_wp Tryd.func35 rfl trivial ?_ rfl
  simp only [Tryd.ntmps35, List.size_toArray, List.length_cons, List.length_nil, Nat.reduceAdd, Nat.reduceSub, Array.replicate_succ, Array.replicate_zero, List.push_toArray, List.append_toArray, List.nil_append, List.cons_append]
  gi_wp2_with fail
  clear hB
  gi_loopw [3] (fun i wr => ∃ k : Nat, m + k ≤ 38400 ∧ i = .int .i64 ((m + k : Nat) : Int) ∧ Hid (J ((fullM m).take k) wr)) (fun i _ => 38400 - (intOf i).toNat)
  case atStart => exact ⟨0, by omega, rfl, H0⟩
  case round =>
    obtain ⟨k, hk, rfl, hJs⟩ := hrel
    by_cases hlt : m + k < 38400
    · obtain ⟨fn, tmps, assign, body, hy, hR⟩ := HY.out _ (m + k) wr hJs.out (by rw [List.length_take]; omega)
      rw [fullM_take hlt] at hR
      rw [mo_id hlt] at hy
      obtain ⟨x, hx⟩ : ∃ x : Nat, x = m + k := ⟨_, rfl⟩
      rw [← hx] at hy hlt ⊢
      have t1 : decide ((x : Int) ≤ 38399) = true := decide_eq_true (by omega)
      have e1 : IntKind.i64.wrap ((x : Int) + 1) = (x : Int) + 1 := IntWalk.i64_in _ (by omega)
      have HX := Lib.hid hx
      have HR := Lib.hid hR
      clear hR hx hk hJs
      gi_wp2_with fail
      refine HR.out.mono ?_
      rintro e W3 (⟨rfl, hJ3, hk3⟩ | ⟨rfl, hJx3⟩)
      · have HJ3 := Lib.hid hJ3
        clear hJ3 hk3
        gi_wp2_with fail
        go_roundw
        case rel => exact ⟨k + 1, by have := HX.out; omega, by have := HX.out; congr 1; omega, HJ3⟩
        case measure => simp [intOf]; omega
      · have HJX := Lib.hid hJx3
        clear hJx3
        gi_wp2_with fail
        refine bodyPost_ret (results_none rfl _ _ _) rfl ?_
        exact ⟨⟨_, rfl⟩, .inr ⟨_, List.take_prefix _ _, HJX.out⟩⟩
    · obtain ⟨x, hx⟩ : ∃ x : Nat, x = m + k := ⟨_, rfl⟩
      rw [← hx] at hk hlt ⊢
      have t1 : decide ((x : Int) ≤ 38399) = false := decide_eq_false (by omega)
      have hf : (fullM m).take k = fullM m := List.take_of_length_le (by rw [fullM_len]; omega)
      rw [hf] at hJs
      clear hf
      gi_wp2_with fail
      go_end0
      exact ⟨⟨_, rfl⟩, .inl ⟨_, rfl, hJs.out⟩⟩
/-- the function that yields the moments, as the loop asks it -/
theorem pfrom_stops (n : Nat) (hn : 1 ≤ n) (Bm n₀ : Nat) (m : Nat) (hm : m < 38400) (w : World) (hB : Bm < w.heap.size) (hc : w.cell? ⟨Bm, 0, none⟩ = some (.int .i64 (m : Int))) :
    SeqStopsK Fence.wide n Tryd.prog 35 #[.pointer (some ⟨Bm, 0, none⟩)] (fun x : Nat => #[Value.int .i64 ((mo x : Nat) : Int)]) (Below n₀) (fun ys => ys = fullM m) (fun pre => pre <+: fullM m) 38400 w := fun l J Jx W hW _ _ hY h0 =>
  pfrom1_in n hn l Bm n₀ m hm J Jx hY W ((hW.cell (p := ⟨Bm, 0, none⟩) hB).trans hc) h0
end Go.Proofs.YtkjflpkokeckgaaDoor
