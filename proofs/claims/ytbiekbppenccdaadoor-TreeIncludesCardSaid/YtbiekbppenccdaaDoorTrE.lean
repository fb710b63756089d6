/-
  The program's tree package: the two roots that a link leads to.
-/
import Derived.Test.YtbiekbppenccdaaDoorTrC
import Derived.Test.YtbiekbppenccdaaDoorTreeBoth
import Derived.BigQuiet
import Derived.Laws.EntriesVeiled
set_option linter.unusedVariables false
namespace Go.Proofs.YtbiekbppenccdaaDoor
open Go.RowKit
/-- the variables that the closure captures -/
structure Capt (B Bo Br Bp : Nat) (old : ByteArray) (w : World) : Prop where
  no : Bo ≠ B
  nr : Br ≠ B
  np : Bp ≠ B
  o : w.heap[Bo]? = some (.cells #[.string old] 9 (0, 0))
  r : w.heap[Br]? = some (.cells #[.pointer (some ⟨B, 0, none⟩)] 61 (0, 0))
  p : w.heap[Bp]? = some (.cells #[.func (.func 64) #[] #[.pointer (some ⟨Bo, 0, none⟩), .pointer (some ⟨Br, 0, none⟩), .pointer (some ⟨Bp, 0, none⟩)]] 63 (0, 0))
theorem lt_of_block' {w : World} {b : Nat} {o : Obj} (h : w.heap[b]? = some o) : b < w.heap.size := by
  rcases Nat.lt_or_ge b w.heap.size with h' | h'
  · exact h'
  · simp [Array.getElem?_eq_none h'] at h
theorem Capt.bes {B Bo Br Bp : Nat} {old : ByteArray} {w w' : World} (h : Capt B Bo Br Bp old w) (hb : Bes B w w') : Capt B Bo Br Bp old w' :=
  ⟨h.no, h.nr, h.np, (hb.block _ (lt_of_block' h.o) h.no).trans h.o, (hb.block _ (lt_of_block' h.r) h.nr).trans h.r, (hb.block _ (lt_of_block' h.p) h.np).trans h.p⟩
/-- how the computation of the two roots ends -/
def RootsEnd (W0 w : World) (p : List ByteArray) (sh : Bool) (n m : Nat) (wh : Bool) (old : ByteArray) (e : Ending) (w' : World) : Prop :=
  ∃ s1 s2 p' sh' v', e = .returned (.tuple #[.string s1, .string s2]) ∧ s1.size ≤ 2147483648 ∧ s2.size ≤ 2147483648 ∧ RestAt W0 v' sh' w' ∧ StrsOk W0 v' p' ∧ Left W0 p sh (longB n m wh) p' sh' (fun q => bothB n m wh old q = (s1, s2)) ∧ Bes W0.heap.size w w'
set_option maxHeartbeats 400000 in
theorem proots_whole (W0 : World) (Bo Br Bp : Nat) (n : Nat) (old : ByteArray) (p : List ByteArray) (v : Value) (sh : Bool) (w : World) (ho : old.size ≤ 2147483648) (hC : Capt W0.heap.size Bo Br Bp old w) (hR : RestAt W0 v sh w) (hp : StrsOk W0 v p) (hS : Small p) :
    Calls Tryd.prog 64 #[.int .i64 (n : Int), .int .i64 (n : Int), .bool true, .pointer (some ⟨Bo, 0, none⟩), .pointer (some ⟨Br, 0, none⟩), .pointer (some ⟨Bp, 0, none⟩)] w (RootsEnd W0 w p sh n n true old) := by
  have c0 := cell_of_one hC.o
  have HR := Lib.hid hR
  have HP := Lib.hid hp
  have HS := Lib.hid hS
  have HO := Lib.hid ho
  clear hC hR hp hS ho
  go_enter Tryd.func64, Tryd.ntmps64
  go_wp2_with fail
  go_quiet (fail)
  go_wp2_with fail
  go_ret2
  have hb := below_dn w 1
  refine ⟨old, old, p, sh, v, rfl, HO.out, HO.out, HR.out.bel ?_, HP.out, ⟨HS.out, .inl ⟨[], by simp, by rw [longB_end]; rfl, rfl, by rw [bothB_end]; rfl⟩⟩, Bes.of ?_⟩
  all_goals first | exact below_drewN (Below.refl _ _) _ | exact Below.drew (Below.refl _ _) | exact Below.refl _ _
set_option maxHeartbeats 400000 in
theorem proots_part (W0 : World) (Bo Br Bp : Nat) (n : Nat) (old : ByteArray) (p : List ByteArray) (v : Value) (sh : Bool) (w : World) (ho : old.size ≤ 2147483648) (hC : Capt W0.heap.size Bo Br Bp old w) (hR : RestAt W0 v sh w) (hp : StrsOk W0 v p) (hS : Small p) :
    Calls Tryd.prog 64 #[.int .i64 (n : Int), .int .i64 (n : Int), .bool false, .pointer (some ⟨Bo, 0, none⟩), .pointer (some ⟨Br, 0, none⟩), .pointer (some ⟨Bp, 0, none⟩)] w (RootsEnd W0 w p sh n n false old) := by
  have c0 := cell_of_one hC.r
  have HR := Lib.hid hR
  have HP := Lib.hid hp
  have HS := Lib.hid hS
  clear hC hR hp hS
  go_enter Tryd.func64, Tryd.ntmps64
  go_wp2_with fail
  refine (take_any W0 v p sh w HR.out HP.out HS.out).mono ?_
  rintro e w1 ⟨x, q, sh1, v1, rfl, hr1, hp1, hT1, hb1⟩
  go_wp2_with fail
  go_ret2
  refine ⟨x, x, q, sh1, v1, rfl, hT1.size, hT1.size, hr1, hp1, ⟨hT1.small, ?_⟩, hb1⟩
  rw [longB_end, if_neg (by simp)]
  rcases hT1.cases with ⟨e1, e2⟩ | ⟨e1, e2, e3⟩
  · exact .inl ⟨[x], e1, rfl, e2, by rw [bothB_end]; rfl⟩
  · exact .inr ⟨by rw [e1]; simp, e3⟩
set_option maxHeartbeats 1000000 in
theorem proots_lo (W0 : World) (Bo Br Bp : Nat) (n m : Nat) (wh : Bool) (old : ByteArray) (p : List ByteArray) (v : Value) (sh : Bool) (w : World) (h2 : 2 ≤ n) (hn : n ≤ 1099511627776) (hm : m < n) (hi : m ≤ half n) (hC : Capt W0.heap.size Bo Br Bp old w) (hR : RestAt W0 v sh w) (hp : StrsOk W0 v p) (hS : Small p) (ht : TabOk W0)
    (hlo : ∀ w1 v1 p1 sh1, Capt W0.heap.size Bo Br Bp old w1 → RestAt W0 v1 sh1 w1 → StrsOk W0 v1 p1 → Small p1 → Calls Tryd.prog 64 #[.int .i64 (m : Int), .int .i64 (half n : Nat), .bool wh, .pointer (some ⟨Bo, 0, none⟩), .pointer (some ⟨Br, 0, none⟩), .pointer (some ⟨Bp, 0, none⟩)] w1 (RootsEnd W0 w1 p1 sh1 (half n) m wh old)) :
    Calls Tryd.prog 64 #[.int .i64 (m : Int), .int .i64 (n : Int), .bool wh, .pointer (some ⟨Bo, 0, none⟩), .pointer (some ⟨Br, 0, none⟩), .pointer (some ⟨Bp, 0, none⟩)] w (RootsEnd W0 w p sh n m wh old) := by
  have c0 := cell_of_one hC.r
  have HLO := Lib.hid hlo
  have HC := Lib.hid hC
  have HR := Lib.hid hR
  have HP := Lib.hid hp
  have HT := Lib.hid ht
  have HS := Lib.hid hS
  have t1 : ((m : Int) == (n : Int)) = false := beq_eq_false_iff_ne.2 (by omega)
  clear hlo hC hR hp ht hS
  go_enter Tryd.func64, Tryd.ntmps64
  go_wp2_with fail
  refine (take_any W0 v p sh w HR.out HP.out HS.out).mono ?_
  rintro e w1 ⟨x, q, sh1, v1, rfl, hr1, hp1, hT1, hb1⟩
  have hC1 := HC.out.bes hb1
  have c1 := cell_of_one hC1.p
  have HC1 := Lib.hid hC1
  clear hC1
  go_wp2_with fail
  refine (split_any _ _ h2 hn).mono ?_
  rintro e w9 ⟨rfl, rfl⟩
  go_wp2_with fail
  refine (HLO.out _ v1 q sh1 HC1.out hr1 hp1 hT1.small).mono ?_
  rintro e w2 ⟨s1, s2, p2, sh2, v2, rfl, hs1, hs2, hr2, hp2, hL, hb2⟩
  have HS1 := Lib.hid hs1
  have HS2 := Lib.hid hs2
  clear hs1 hs2
  go_wp2_with fail
  refine (pnode_any s2 x _ HS2.out hT1.size (HT.out.below hr2.below)).mono ?_
  rintro e w3 ⟨rfl, hb3⟩
  go_wp2_with fail
  go_ret2
  refine ⟨s1, _, p2, sh2, v2, rfl, HS1.out, by rw [nodeB_size]; omega, hr2.bel hb3, hp2, ?_, (hb1.trans hb2).trans (Bes.of hb3)⟩
  rw [longB_big wh h2 (by omega), if_pos hi]
  exact hL.next hT1 (fun q hq hg => by rw [bothB_lo wh h2 (by omega) hi, hg])
set_option maxHeartbeats 1000000 in
theorem proots_hi (W0 : World) (Bo Br Bp : Nat) (n m : Nat) (wh : Bool) (old : ByteArray) (p : List ByteArray) (v : Value) (sh : Bool) (w : World) (h2 : 2 ≤ n) (hn : n ≤ 1099511627776) (hm : m < n) (hi : ¬ m ≤ half n) (hC : Capt W0.heap.size Bo Br Bp old w) (hR : RestAt W0 v sh w) (hp : StrsOk W0 v p) (hS : Small p) (ht : TabOk W0)
    (hlo : ∀ w1 v1 p1 sh1, Capt W0.heap.size Bo Br Bp old w1 → RestAt W0 v1 sh1 w1 → StrsOk W0 v1 p1 → Small p1 → Calls Tryd.prog 64 #[.int .i64 ((m : Int) - (half n : Nat)), .int .i64 ((n : Int) - (half n : Nat)), .bool false, .pointer (some ⟨Bo, 0, none⟩), .pointer (some ⟨Br, 0, none⟩), .pointer (some ⟨Bp, 0, none⟩)] w1 (RootsEnd W0 w1 p1 sh1 (n - half n) (m - half n) false old)) :
    Calls Tryd.prog 64 #[.int .i64 (m : Int), .int .i64 (n : Int), .bool wh, .pointer (some ⟨Bo, 0, none⟩), .pointer (some ⟨Br, 0, none⟩), .pointer (some ⟨Bp, 0, none⟩)] w (RootsEnd W0 w p sh n m wh old) := by
  have k1 := half_pos h2
  have k2 := half_lt h2
  have c0 := cell_of_one hC.r
  have HLO := Lib.hid hlo
  have HC := Lib.hid hC
  have HR := Lib.hid hR
  have HP := Lib.hid hp
  have HT := Lib.hid ht
  have HS := Lib.hid hS
  have t1 : ((m : Int) == (n : Int)) = false := beq_eq_false_iff_ne.2 (by omega)
  have t2 : decide (m ≤ half n) = false := decide_eq_false hi
  have i4 : IntKind.i64.wrap ((n : Int) - (half n : Int)) = (n : Int) - (half n : Int) := IntWalk.i64_in _ (by omega)
  have i5 : IntKind.i64.wrap ((m : Int) - (half n : Int)) = (m : Int) - (half n : Int) := IntWalk.i64_in _ (by omega)
  clear hlo hC hR hp ht hS
  go_enter Tryd.func64, Tryd.ntmps64
  go_wp2_with fail
  refine (take_any W0 v p sh w HR.out HP.out HS.out).mono ?_
  rintro e w1 ⟨x, q, sh1, v1, rfl, hr1, hp1, hT1, hb1⟩
  have hC1 := HC.out.bes hb1
  have c1 := cell_of_one hC1.p
  have HC1 := Lib.hid hC1
  clear hC1
  go_wp2_with fail
  refine (split_any _ _ h2 hn).mono ?_
  rintro e w9 ⟨rfl, rfl⟩
  go_wp2_with fail
  refine (HLO.out _ v1 q sh1 HC1.out hr1 hp1 hT1.small).mono ?_
  rintro e w2 ⟨s1, s2, p2, sh2, v2, rfl, hs1, hs2, hr2, hp2, hL, hb2⟩
  have HS1 := Lib.hid hs1
  have HS2 := Lib.hid hs2
  clear hs1 hs2
  go_wp2_with fail
  refine (pnode_any x s1 _ hT1.size HS1.out (HT.out.below hr2.below)).mono ?_
  rintro e w3 ⟨rfl, hb3⟩
  have hr3 := hr2.bel hb3
  go_wp2_with fail
  refine (pnode_any x s2 _ hT1.size HS2.out (HT.out.below hr3.below)).mono ?_
  rintro e w4 ⟨rfl, hb4⟩
  go_wp2_with fail
  go_ret2
  refine ⟨_, _, p2, sh2, v2, rfl, by rw [nodeB_size]; omega, by rw [nodeB_size]; omega, hr3.bel hb4, hp2, ?_, ((hb1.trans hb2).trans (Bes.of hb3)).trans (Bes.of hb4)⟩
  rw [longB_big wh h2 (by omega), if_neg hi]
  exact hL.next hT1 (fun q hq hg => by rw [bothB_hi wh h2 (by omega) hi, hg])
theorem proots_any (W0 : World) (ht : TabOk W0) (Bo Br Bp : Nat) (old : ByteArray) (ho : old.size ≤ 2147483648) : ∀ (n m : Nat) (wh : Bool) (p : List ByteArray) (v : Value) (sh : Bool) (w : World), n ≤ 1099511627776 → 0 < m → m ≤ n → Capt W0.heap.size Bo Br Bp old w → RestAt W0 v sh w → StrsOk W0 v p → Small p →
    Calls Tryd.prog 64 #[.int .i64 (m : Int), .int .i64 (n : Int), .bool wh, .pointer (some ⟨Bo, 0, none⟩), .pointer (some ⟨Br, 0, none⟩), .pointer (some ⟨Bp, 0, none⟩)] w (RootsEnd W0 w p sh n m wh old) := by
  intro n
  induction n using Nat.strongRecOn with
  | _ n ih =>
    intro m wh p v sh w hn hm0 hm hC hR hp hS
    by_cases e : m = n
    · subst e
      cases wh with
      | true => exact proots_whole W0 Bo Br Bp m old p v sh w ho hC hR hp hS
      | false => exact proots_part W0 Bo Br Bp m old p v sh w ho hC hR hp hS
    · have h2 : 2 ≤ n := by omega
      have k1 := half_pos h2
      have k2 := half_lt h2
      by_cases hi : m ≤ half n
      · exact proots_lo W0 Bo Br Bp n m wh old p v sh w h2 hn (by omega) hi hC hR hp hS ht (fun w1 v1 p1 sh1 a b c d => ih (half n) k2 m wh p1 v1 sh1 w1 (by omega) hm0 hi a b c d)
      · refine proots_hi W0 Bo Br Bp n m wh old p v sh w h2 hn (by omega) hi hC hR hp hS ht (fun w1 v1 p1 sh1 a b c d => ?_)
        have e1 : (n : Int) - (half n : Int) = ((n - half n : Nat) : Int) := by omega
        have e2 : (m : Int) - (half n : Int) = ((m - half n : Nat) : Int) := by omega
        rw [e1, e2]
        exact ih (n - half n) (by omega) (m - half n) false p1 v1 sh1 w1 (by omega) (by omega) (by omega) a b c d
/-- the closure -/
def clF (w : World) : Value := .func (.func 64) #[] #[.pointer (some ⟨w.heap.size + 1, 0, none⟩), .pointer (some ⟨w.heap.size, 0, none⟩), .pointer (some ⟨w.heap.size + 1 + 1, 0, none⟩)]
/-- the world in which the closure has been laid -/
def clW (B : Nat) (old : ByteArray) (w : World) : World :=
  ((w.alloc (Obj.cells #[Value.pointer (some ⟨B, 0, none⟩)] 61)).alloc (Obj.cells #[Value.string old] 9)).alloc (Obj.cells #[clF w] 63)
theorem clW_p (B : Nat) (old : ByteArray) (w : World) : (clW B old w).heap[w.heap.size + 1 + 1]? = some (.cells #[clF w] 63 (0, 0)) := by
  unfold clW
  generalize hW : (w.alloc (Obj.cells #[Value.pointer (some ⟨B, 0, none⟩)] 61)).alloc (Obj.cells #[Value.string old] 9) = W
  have : w.heap.size + 1 + 1 = W.heap.size := by rw [← hW]; simp
  rw [this]; exact heap_last W _
theorem clW_o (B : Nat) (old : ByteArray) (w : World) : (clW B old w).heap[w.heap.size + 1]? = some (.cells #[Value.string old] 9 (0, 0)) := by
  unfold clW
  generalize hW : w.alloc (Obj.cells #[Value.pointer (some ⟨B, 0, none⟩)] 61) = W
  have : w.heap.size + 1 = W.heap.size := by rw [← hW]; simp
  rw [this, Lib.alloc_old _ _ _ (by simp)]
  exact heap_last W _
theorem clW_r (B : Nat) (old : ByteArray) (w : World) : (clW B old w).heap[w.heap.size]? = some (.cells #[Value.pointer (some ⟨B, 0, none⟩)] 61 (0, 0)) := by
  unfold clW
  rw [Lib.alloc_old _ _ _ (by simp; omega), Lib.alloc_old _ _ _ (by simp)]
  exact heap_last w _
theorem clW_below (B : Nat) (old : ByteArray) (w : World) : Below w.heap.size w (clW B old w) := by
  unfold clW
  exact (((Below.refl _ _).alloc (Nat.le_refl _) _).alloc (by simp) _).alloc (by simp; omega) _
theorem clW_capt (B : Nat) (old : ByteArray) (w : World) (hB : B < w.heap.size) : Capt B (w.heap.size + 1) w.heap.size (w.heap.size + 1 + 1) old (clW B old w) :=
  ⟨by omega, by omega, by omega, clW_o B old w, clW_r B old w, clW_p B old w⟩
set_option maxHeartbeats 400000 in
/-- roots itself: the closure is made and called -/
theorem roots_any (W0 : World) (ht : TabOk W0) (n m : Nat) (old : ByteArray) (p : List ByteArray) (v : Value) (sh : Bool) (w : World) (ho : old.size ≤ 2147483648) (hn : n ≤ 1099511627776) (hm0 : 0 < m) (hm : m ≤ n) (hR : RestAt W0 v sh w) (hp : StrsOk W0 v p) (hS : Small p) :
    Calls Tryd.prog 48 #[.pointer (some ⟨W0.heap.size, 0, none⟩), .string old, .int .i64 (m : Int), .int .i64 (n : Int)] w (RootsEnd W0 w p sh n m true old) := by
  have hmf : ∀ (fn : Fn) (first cap : Array Value) (w : World), (Instr.makeFunc fn first cap).run Tryd.prog w = .ok (.func fn first cap) w := fun _ _ _ _ => rfl
  have hC := clW_capt W0.heap.size old w hR.lt
  have hB := clW_below W0.heap.size old w
  have c1 := cell_of_one hC.p
  have HC := Lib.hid hC
  have HB := Lib.hid hB
  have HR := Lib.hid hR
  have HP := Lib.hid hp
  have HT := Lib.hid ht
  have HS := Lib.hid hS
  have HO := Lib.hid ho
  clear hR hp ht hS ho hC hB
  unfold clW clF at c1
  go_enter Tryd.func48, Tryd.ntmps48
  go_wp2_with fail
  refine (proots_any W0 HT.out _ _ _ old HO.out n m true p v sh _ hn hm0 hm HC.out (HR.out.bel HB.out) HP.out HS.out).mono ?_
  rintro e w2 ⟨s1, s2, p2, sh2, v2, rfl, hs1, hs2, hr2, hp2, hL, hb2⟩
  have HS1 := Lib.hid hs1
  have HS2 := Lib.hid hs2
  clear hs1 hs2
  go_wp2_with fail
  go_ret2
  exact ⟨s1, s2, p2, sh2, v2, rfl, HS1.out, HS2.out, hr2, hp2, hL, (Bes.of HB.out).trans hb2⟩
end Go.Proofs.YtbiekbppenccdaaDoor
