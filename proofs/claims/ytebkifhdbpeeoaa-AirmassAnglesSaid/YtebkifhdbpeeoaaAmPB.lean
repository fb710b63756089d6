/-
  The program's airmass (layer 11): the slots of a night as they are ranged over; the closure that keeps a window until it ends.
-/
import Derived.RangeFuncNested
import Derived.RangeFuncBound
import Derived.RangeFuncCalls
import Derived.RangeFuncLeaves
import Derived.RangeFuncBox
import Derived.Shelf.Abstract
import Derived.Shelf.RegionOpen
import Derived.WalkKit
import Derived.OwnWalkIn
import Derived.TacticsInMore
import Derived.LoopNIn
import Derived.LoopIn
import Derived.Laws.EntriesVeiled
import Derived.Test.YtebkifhdbpeeoaaAmPA
import Derived.Test.YtebkifhdbpeeoaaAmStp
set_option linter.unusedVariables false
set_option maxRecDepth 100000
namespace Go.Proofs.Ytebkifhdbpeeoaa.Am
open Go.RowKit Go.Shelf
open Ca (sid sid_lt)
attribute [local go_sem] Oper.semAt_some
theorem boxed_bel {W W' : World} {b : Nat} {t : TypeId} {v : Value} (h : Boxed W b t v) (hb : Below W.heap.size W W') : Boxed W' b t v := (hb.block _ h.lt).trans h
theorem grown_bel {A B : World} (h : Below A.heap.size A B) : A.grownBy B none := ⟨h.os, h.tape, h.output, h.size, fun k hk _ => h.block k hk⟩
theorem pslots_any (n : Int) (w : World) : Calls Try.prog 36 #[.int .i64 n] w fun e w' =>
    e = .returned (.func (.func 43) #[] #[.pointer (some ⟨w.heap.size, 0, none⟩)]) ∧ w' = w.alloc (.cells #[.int .i64 n] 3) := by
  have hmf : ∀ (fn : Fn) (first cap : Array Value) (w : World), (Instr.makeFunc fn first cap).run Try.prog w = .ok (.func fn first cap) w := fun _ _ _ _ => rfl
  go_enter Try.func36, Try.ntmps36
  go_wp2_with fail
  go_ret
  exact ⟨rfl, rfl⟩
/-- what a round keeps: the block of the night -/
def KpN (Bn : Nat) (W W' : World) : Prop := W'.heap[Bn]? = W.heap[Bn]?
theorem KpN.box {Bn : Nat} {t : TypeId} {v : Value} {W W' : World} (h : Boxed W Bn t v) (hk : KpN Bn W W') : Boxed W' Bn t v := hk.trans h
set_option maxHeartbeats 4000000 in
theorem pslot1_in (n : Nat) (hn : 1 ≤ n) (l Bn : Nat) (q : Nat) (hq : q < 400) (J Jx : List Nat → World → Prop)
    (hJ : ∀ s X Y, J s X → Below X.heap.size X Y → J s Y)
    (hY : ∀ pre x W, J pre W → pre.length < 96 → YieldAt Fence.wide (n - 1) Try.prog l #[.int .i64 ((sl x : Nat) : Int), .int .i64 ((96 * q + sl x : Nat) : Int)] W fun e W' =>
      (e = .returned (.bool true) ∧ J (pre ++ [x]) W' ∧ KpN Bn W W') ∨ (e = .returned (.bool false) ∧ Jx (pre ++ [x]) W'))
    (W : World) (hB : Boxed W Bn 3 (.int .i64 (q : Int))) (h0 : J [] W) :
    CallsIn Fence.wide n Try.prog 43 #[.func (.yield l) #[] #[], .pointer (some ⟨Bn, 0, none⟩)] W fun e W' => (∃ v, e = .returned v) ∧
      ((∃ ys, ys = List.range 96 ∧ J ys W') ∨ (∃ pre, pre <+: List.range 96 ∧ Jx pre W')) := by
  have HY := Lib.hid hY
  have HJ := Lib.hid hJ
  have H0 := Lib.hid h0
  have HB := Lib.hid hB
  clear hY h0 hB hJ
  refine callsIn_of_wp Try.func43 rfl trivial ?_ rfl
  simp only [Try.ntmps43, List.size_toArray, List.length_cons, List.length_nil, Nat.reduceAdd, Nat.reduceSub, Array.replicate_succ, Array.replicate_zero, List.push_toArray, List.append_toArray, List.nil_append, List.cons_append]
  gi_wp2_with fail
  gi_loopw [6] (fun i wr => ∃ k : Nat, k ≤ 96 ∧ i = .int .i64 (k : Int) ∧ Hid (J (List.range k) wr) ∧ Hid (Boxed wr Bn 3 (.int .i64 (q : Int)))) (fun i _ => 96 - (intOf i).toNat)
  case atStart => exact ⟨0, by omega, rfl, H0, HB⟩
  case round =>
    obtain ⟨k, hk, rfl, hJs, hBs⟩ := hrel
    by_cases hlt : k < 96
    · have t1 : decide ((k : Int) < 96) = true := decide_eq_true (by omega)
      have e1 : IntKind.i64.wrap ((k : Int) + 1) = (k : Int) + 1 := IntWalk.i64_in _ (by omega)
      have cM := Lib.hid (fun w => pMoment_any (q : Int) (k : Int) (by unfold I64; omega) (by unfold I64; omega) w)
      rw [momA_ok hq hlt] at cM
      have HY' : Hid (∀ W, J (List.range k) W → YieldAt Fence.wide (n - 1) Try.prog l #[.int .i64 (k : Int), .int .i64 ((96 * q + k : Nat) : Int)] W fun e W' =>
          (e = .returned (.bool true) ∧ J (List.range (k + 1)) W' ∧ KpN Bn W W') ∨ (e = .returned (.bool false) ∧ Jx (List.range (k + 1)) W')) := Lib.hid (fun W hW => by
        have := HY.out _ k W hW (by rw [List.length_range]; omega)
        rw [← List.range_succ, sl_id hlt] at this
        exact this)
      generalize ((96 * q + k : Nat) : Int) = M at cM HY'
      have bc := hBs.out.cell
      gi_wp2_with fail
      refine ⟨trivial, ?_⟩
      refine (callsIn_wide.2 (cM.out wr)).mono ?_
      rintro e W1 ⟨rfl, hb⟩
      have HJ1 := Lib.hid (HJ.out _ _ _ hJs.out hb)
      have HB1 := Lib.hid (boxed_bel hBs.out hb)
      clear hb bc cM hJs hBs
      obtain ⟨fn, tmps, assign, body, hy, hR⟩ := HY'.out W1 HJ1.out
      have HR := Lib.hid hR
      clear hR
      gi_wp2_with fail
      refine HR.out.mono ?_
      rintro e W3 (⟨rfl, hJ3, hk3⟩ | ⟨rfl, hJx3⟩)
      · have HJ3 := Lib.hid hJ3
        have HB3 := Lib.hid (hk3.box HB1.out)
        clear hJ3 hk3
        gi_wp2_with fail
        go_roundw
        case rel => exact ⟨k + 1, by omega, by go_num, HJ3, HB3⟩
        case measure => simp [intOf]; omega
      · have HJX := Lib.hid hJx3
        clear hJx3
        gi_wp2_with fail
        refine bodyPost_ret (results_none rfl _ _ _) rfl ?_
        exact ⟨⟨_, rfl⟩, .inr ⟨_, by
          have : List.range 96 = (List.range (k + 1)) ++ (List.range (96 - (k + 1))).map (fun x => k + 1 + x) := by
            rw [← List.range_add]; congr 1; omega
          rw [this]; exact List.prefix_append _ _, HJX.out⟩⟩
    · have t1 : decide ((k : Int) < 96) = false := decide_eq_false (by omega)
      have hk6 : k = 96 := by omega
      rw [hk6] at hJs
      clear hk6
      gi_wp2_with fail
      go_end0
      exact ⟨⟨_, rfl⟩, .inl ⟨_, rfl, hJs.out⟩⟩
/-- the function that yields the slots, as the loop asks it -/
theorem pslots_stops (n : Nat) (hn : 1 ≤ n) (Bn : Nat) (q : Nat) (hq : q < 400) (w : World) (hB : Boxed w Bn 3 (.int .i64 (q : Int))) :
    SeqStopsK Fence.wide n Try.prog 43 #[.pointer (some ⟨Bn, 0, none⟩)] (fun x : Nat => #[Value.int .i64 ((sl x : Nat) : Int), Value.int .i64 ((96 * q + sl x : Nat) : Int)]) (KpN Bn) (fun ys => ys = List.range 96) (fun pre => pre <+: List.range 96) 96 w := fun l J Jx W hW hJ _ hY h0 =>
  pslot1_in n hn l Bn q hq J Jx (fun s X Y hs hb => hJ s X Y none hs (grown_bel hb) (fun r e => by cases e)) hY W (boxed_bel hB hW) h0
end Go.Proofs.Ytebkifhdbpeeoaa.Am
