/-
  The program's tree package: the root that a path leads to, and Check.
-/
import Derived.Test.YtcdnddjoonecdaaDoorTrB
set_option linter.unusedVariables false
set_option maxRecDepth 100000
namespace Go.Proofs.YtcdnddjoonecdaaDoor
open Go.RowKit
/-- how the computation of a root from a path ends -/
def RootEnd (W0 w : World) (p : List ByteArray) (sh : Bool) (n i : Nat) (leaf : ByteArray) (e : Ending) (w' : World) : Prop :=
  ∃ s p' sh' v', e = .returned (.string s) ∧ s.size ≤ 2147483648 ∧ RestAt W0 v' sh' w' ∧ StrsOk W0 v' p' ∧ Left W0 p sh (lenB n i) p' sh' (fun q => upB n i leaf q = s) ∧ Bes W0.heap.size w w'
set_option maxHeartbeats 1000000 in
theorem proot_lo (W0 : World) (n i : Nat) (leaf : ByteArray) (p : List ByteArray) (v : Value) (sh : Bool) (w : World) (h2 : 2 ≤ n) (hn : n ≤ 1099511627776) (hi : i < half n) (hR : RestAt W0 v sh w) (hp : StrsOk W0 v p) (hS : Small p) (ht : TabOk W0)
    (hlo : ∀ w1 v1 p1 sh1, RestAt W0 v1 sh1 w1 → StrsOk W0 v1 p1 → Small p1 → Calls Tryd.prog 46 #[.pointer (some ⟨W0.heap.size, 0, none⟩), .int .i64 (half n : Nat), .int .i64 (i : Int), .string leaf] w1 (RootEnd W0 w1 p1 sh1 (half n) i leaf)) :
    Calls Tryd.prog 46 #[.pointer (some ⟨W0.heap.size, 0, none⟩), .int .i64 (n : Int), .int .i64 (i : Int), .string leaf] w (RootEnd W0 w p sh n i leaf) := by
  have HLO := Lib.hid hlo
  have HR := Lib.hid hR
  have HP := Lib.hid hp
  have HT := Lib.hid ht
  have HS := Lib.hid hS
  have t1 : ((n : Int) == 1) = false := beq_eq_false_iff_ne.2 (by omega)
  clear hlo hR hp ht hS
  go_enter Tryd.func46, Tryd.ntmps46
  go_wp2_with fail
  refine (split_any _ _ h2 hn).mono ?_
  rintro e w1 ⟨rfl, rfl⟩
  go_wp2_with fail
  refine (take_any W0 v p sh w HR.out HP.out HS.out).mono ?_
  rintro e w1 ⟨x, q, sh1, v1, rfl, hr1, hp1, hT1, hb1⟩
  go_wp2_with fail
  refine (HLO.out _ v1 q sh1 hr1 hp1 hT1.small).mono ?_
  rintro e w2 ⟨s, p2, sh2, v2, rfl, hs, hr2, hp2, hL, hb2⟩
  have HSS := Lib.hid hs
  clear hs
  go_wp2_with fail
  refine (pnode_any s x _ HSS.out hT1.size (HT.out.below hr2.below)).mono ?_
  rintro e w3 ⟨rfl, hb3⟩
  go_wp2_with fail
  go_ret
  refine ⟨_, p2, sh2, v2, rfl, by rw [nodeB_size]; omega, hr2.bel hb3, hp2, ?_, (hb1.trans hb2).trans (Bes.of hb3)⟩
  rw [lenB_big h2, if_pos hi]
  exact hL.next hT1 (fun q hq hg => by rw [upB_lo h2 i hi, hg])
set_option maxHeartbeats 1000000 in
theorem proot_hi (W0 : World) (n i : Nat) (leaf : ByteArray) (p : List ByteArray) (v : Value) (sh : Bool) (w : World) (h2 : 2 ≤ n) (hn : n ≤ 1099511627776) (hi : ¬ i < half n) (hin : i < n) (hR : RestAt W0 v sh w) (hp : StrsOk W0 v p) (hS : Small p) (ht : TabOk W0)
    (hlo : ∀ w1 v1 p1 sh1, RestAt W0 v1 sh1 w1 → StrsOk W0 v1 p1 → Small p1 → Calls Tryd.prog 46 #[.pointer (some ⟨W0.heap.size, 0, none⟩), .int .i64 ((n : Int) - (half n : Nat)), .int .i64 ((i : Int) - (half n : Nat)), .string leaf] w1 (RootEnd W0 w1 p1 sh1 (n - half n) (i - half n) leaf)) :
    Calls Tryd.prog 46 #[.pointer (some ⟨W0.heap.size, 0, none⟩), .int .i64 (n : Int), .int .i64 (i : Int), .string leaf] w (RootEnd W0 w p sh n i leaf) := by
  have k1 := half_pos h2
  have k2 := half_lt h2
  have HLO := Lib.hid hlo
  have HR := Lib.hid hR
  have HP := Lib.hid hp
  have HT := Lib.hid ht
  have HS := Lib.hid hS
  have t1 : ((n : Int) == 1) = false := beq_eq_false_iff_ne.2 (by omega)
  have t2 : decide (i < half n) = false := decide_eq_false hi
  have i4 : IntKind.i64.wrap ((n : Int) - (half n : Int)) = (n : Int) - (half n : Int) := IntWalk.i64_in _ (by omega)
  have i5 : IntKind.i64.wrap ((i : Int) - (half n : Int)) = (i : Int) - (half n : Int) := IntWalk.i64_in _ (by omega)
  clear hlo hR hp ht hS
  go_enter Tryd.func46, Tryd.ntmps46
  go_wp2_with fail
  refine (split_any _ _ h2 hn).mono ?_
  rintro e w1 ⟨rfl, rfl⟩
  go_wp2_with fail
  refine (take_any W0 v p sh w HR.out HP.out HS.out).mono ?_
  rintro e w1 ⟨x, q, sh1, v1, rfl, hr1, hp1, hT1, hb1⟩
  go_wp2_with fail
  refine (HLO.out _ v1 q sh1 hr1 hp1 hT1.small).mono ?_
  rintro e w2 ⟨s, p2, sh2, v2, rfl, hs, hr2, hp2, hL, hb2⟩
  have HSS := Lib.hid hs
  clear hs
  go_wp2_with fail
  refine (pnode_any x s _ hT1.size HSS.out (HT.out.below hr2.below)).mono ?_
  rintro e w3 ⟨rfl, hb3⟩
  go_wp2_with fail
  go_ret
  refine ⟨_, p2, sh2, v2, rfl, by rw [nodeB_size]; omega, hr2.bel hb3, hp2, ?_, (hb1.trans hb2).trans (Bes.of hb3)⟩
  rw [lenB_big h2, if_neg hi]
  exact hL.next hT1 (fun q hq hg => by rw [upB_hi h2 i hi, hg])
set_option maxHeartbeats 400000 in
theorem proot_one (W0 : World) (i : Nat) (leaf : ByteArray) (p : List ByteArray) (v : Value) (sh : Bool) (w : World) (hl : leaf.size ≤ 2147483648) (hR : RestAt W0 v sh w) (hp : StrsOk W0 v p) (hS : Small p) :
    Calls Tryd.prog 46 #[.pointer (some ⟨W0.heap.size, 0, none⟩), .int .i64 1, .int .i64 (i : Int), .string leaf] w (RootEnd W0 w p sh 1 i leaf) := by
  have HR := Lib.hid hR
  have HP := Lib.hid hp
  have HS := Lib.hid hS
  have HL := Lib.hid hl
  clear hR hp hS hl
  go_enter Tryd.func46, Tryd.ntmps46
  go_wp2_with fail
  go_ret
  exact ⟨_, p, sh, v, rfl, HL.out, HR.out, HP.out, ⟨HS.out, .inl ⟨[], by simp, by rw [lenB_small (by omega)]; rfl, rfl, by rw [upB_small (by omega)]⟩⟩, Bes.refl _ _⟩
theorem proot_any (W0 : World) (ht : TabOk W0) (leaf : ByteArray) (hl : leaf.size ≤ 2147483648) : ∀ (n i : Nat) (p : List ByteArray) (v : Value) (sh : Bool) (w : World), n ≤ 1099511627776 → i < n → RestAt W0 v sh w → StrsOk W0 v p → Small p →
    Calls Tryd.prog 46 #[.pointer (some ⟨W0.heap.size, 0, none⟩), .int .i64 (n : Int), .int .i64 (i : Int), .string leaf] w (RootEnd W0 w p sh n i leaf) := by
  intro n
  induction n using Nat.strongRecOn with
  | _ n ih =>
    intro i p v sh w hn hi hR hp hS
    by_cases h2 : 2 ≤ n
    · have k1 := half_pos h2
      have k2 := half_lt h2
      by_cases hlt : i < half n
      · exact proot_lo W0 n i leaf p v sh w h2 hn hlt hR hp hS ht (fun w1 v1 p1 sh1 a b c => ih (half n) k2 i p1 v1 sh1 w1 (by omega) hlt a b c)
      · refine proot_hi W0 n i leaf p v sh w h2 hn hlt hi hR hp hS ht (fun w1 v1 p1 sh1 a b c => ?_)
        have e1 : (n : Int) - (half n : Int) = ((n - half n : Nat) : Int) := by omega
        have e2 : (i : Int) - (half n : Int) = ((i - half n : Nat) : Int) := by omega
        rw [e1, e2]
        exact ih (n - half n) (by omega) (i - half n) p1 v1 sh1 w1 (by omega) (by omega) a b c
    · obtain rfl : n = 1 := by omega
      exact proot_one W0 i leaf p v sh w hl hR hp hS
end Go.Proofs.YtcdnddjoonecdaaDoor
