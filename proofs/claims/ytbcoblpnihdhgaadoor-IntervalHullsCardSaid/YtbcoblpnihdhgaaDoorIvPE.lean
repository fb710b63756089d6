/-
  The program's interval package: the four products, as they are ranged over.
-/
import Derived.RangeFuncNested
import Derived.RangeFuncBound
import Derived.RangeFuncCalls
import Derived.RangeFuncLeaves
import Derived.Shelf.Abstract
import Derived.Shelf.RegionOpen
import Derived.WalkKit
import Derived.OwnWalkIn
import Derived.TacticsInMore
import Derived.LoopNIn
import Derived.LoopIn
import Derived.Maps.AppendAt
import Derived.Laws.EntriesVeiled
import Derived.Test.YtbcoblpnihdhgaaDoorIvPD
set_option linter.unusedVariables false
set_option maxRecDepth 100000
namespace Go.Proofs.YtbcoblpnihdhgaaDoor
open Go.RowKit Go.Shelf
open Rt
attribute [local go_sem] Oper.semAt_some
/-- block k is the row of the slice that lies in the box Bf -/
def Owned (Bf : Nat) (W : World) (k : Nat) : Prop := ∃ v, W.cell? ⟨Bf, 0, none⟩ = some v ∧ v.ownBlock = some k
/-- what a round of the loop over the products keeps: numbers and intervals in blocks of their own -/
structure KpF (Bf : Nat) (W W' : World) : Prop where
  size : W.heap.size ≤ W'.heap.size
  kept : ∀ k c T, W.heap[k]? = some (.cells c T (0, 0)) → (T = 24 ∧ c.size = 3 ∨ T = 26) → ¬ Owned Bf W k → W'.heap[k]? = W.heap[k]? ∧ ¬ Owned Bf W' k
  valid : (∀ k, Owned Bf W k → k < W.heap.size) → ∀ k, Owned Bf W' k → k < W'.heap.size
theorem KpF.trans {Bf : Nat} {X Y Z : World} (h : KpF Bf X Y) (k : KpF Bf Y Z) : KpF Bf X Z :=
  ⟨Nat.le_trans h.size k.size, fun i c T hi ht ho => by
    obtain ⟨e1, n1⟩ := h.kept i c T hi ht ho
    obtain ⟨e2, n2⟩ := k.kept i c T (e1.trans hi) ht n1
    exact ⟨e2.trans e1, n2⟩, fun hv => k.valid (h.valid hv)⟩
theorem owned_put {Bf : Nat} {W : World} {l : Nat} {o' : Obj} (hne : Bf ≠ l) {k : Nat} (h : Owned Bf (W.putObj l o') k) : Owned Bf W k := by
  obtain ⟨v, hv, hk⟩ := h
  refine ⟨v, ?_, hk⟩
  rw [← hv]
  exact (World.cell?_of_block (a := ⟨Bf, 0, none⟩) (World.putObj_heap_other (by first | exact hne | exact hne.symm))).symm
theorem KpF.put {Bf : Nat} {w : World} (hBf : Bf < w.heap.size) (W : World) (l : Nat) (o o' : Obj) (hl : w.heap.size ≤ l) (h : W.heap[l]? = some o) (hc : o.isCells = false) (_ : o.isWalk = false) : KpF Bf W (W.putObj l o') := by
  have hs : (W.putObj l o').heap.size = W.heap.size := by simp [World.putObj]
  refine ⟨by rw [hs]; exact Nat.le_refl _, fun k c T hk ht ho => ⟨?_, fun h' => ho (owned_put (by omega) h')⟩, fun hv k hk => by rw [hs]; exact hv k (owned_put (by omega) hk)⟩
  refine World.putObj_heap_other (fun e => ?_)
  subst e
  rw [h] at hk
  cases hk; cases hc
/-- what the function that yields the products knows of the world -/
structure ItAt (Bf Ba Bb : Nat) (a b : Iv) (W : World) : Prop where
  lt : Bf < W.heap.size
  valid : ∀ k, Owned Bf W k → k < W.heap.size
  at1 : IvAt Ba a W
  no1 : ¬ Owned Bf W Ba
  at2 : IvAt Bb b W
  no2 : ¬ Owned Bf W Bb
theorem owned_bel {Bf : Nat} {W W' : World} (hlt : Bf < W.heap.size) (hb : Below W.heap.size W W') {k : Nat} (h : Owned Bf W' k) : Owned Bf W k := by
  obtain ⟨v, hv, hk⟩ := h
  exact ⟨v, (hb.cell (p := ⟨Bf, 0, none⟩) hlt).symm.trans hv, hk⟩
theorem ItAt.bel {Bf Ba Bb : Nat} {a b : Iv} {W W' : World} (h : ItAt Bf Ba Bb a b W) (hb : Below W.heap.size W W') : ItAt Bf Ba Bb a b W' :=
  ⟨Nat.lt_of_lt_of_le h.lt hb.size, fun k hk => Nat.lt_of_lt_of_le (h.valid k (owned_bel h.lt hb hk)) hb.size, h.at1.bel hb, fun hk => h.no1 (owned_bel h.lt hb hk), h.at2.bel hb, fun hk => h.no2 (owned_bel h.lt hb hk)⟩
theorem ItAt.kp {Bf Ba Bb : Nat} {a b : Iv} {W W' : World} (h : ItAt Bf Ba Bb a b W) (hb : KpF Bf W W') : ItAt Bf Ba Bb a b W' := by
  obtain ⟨e1, n1⟩ := hb.kept _ _ _ h.at1.cells (.inr rfl) h.no1
  obtain ⟨e2, n2⟩ := hb.kept _ _ _ h.at2.cells (.inr rfl) h.no2
  exact ⟨Nat.lt_of_lt_of_le h.lt hb.size, hb.valid h.valid, ⟨e1.trans h.at1.cells⟩, n1, ⟨e2.trans h.at2.cells⟩, n2⟩
/-- a number in a block that no round turns -/
structure XAt (Bf X : Nat) (x : Raw) (W : World) : Prop where
  at1 : RatAt X x W
  no1 : ¬ Owned Bf W X
theorem XAt.bel {Bf X : Nat} {x : Raw} {W W' : World} (h : XAt Bf X x W) (hlt : Bf < W.heap.size) (hb : Below W.heap.size W W') : XAt Bf X x W' := ⟨h.at1.bel hb, fun hk => h.no1 (owned_bel hlt hb hk)⟩
theorem XAt.kp {Bf X : Nat} {x : Raw} {W W' : World} (h : XAt Bf X x W) (hb : KpF Bf W W') : XAt Bf X x W' := by
  obtain ⟨e1, n1⟩ := hb.kept _ _ _ h.at1.cells (.inl ⟨rfl, rfl⟩) h.no1
  exact ⟨⟨e1.trans h.at1.cells⟩, n1⟩
theorem XAt.new {Bf Ba Bb : Nat} {a b : Iv} {W : World} (h : ItAt Bf Ba Bb a b W) (x : Raw) : XAt Bf W.heap.size x (W.alloc (Obj.cells #[Value.bool x.neg, Value.string x.num, Value.string x.den] 24)) :=
  ⟨⟨heap_lastM _ _⟩, fun hk => by
    have := h.valid _ (owned_bel h.lt ((Below.refl _ _).alloc (Nat.le_refl _) _) hk)
    omega⟩
theorem grown_bel {A B : World} (h : Below A.heap.size A B) : A.grownBy B none := ⟨h.os, h.tape, h.output, h.size, fun k hk _ => h.block k hk⟩
theorem prods_take (a b : Iv) (k m : Nat) (x : Raw × Int) (hx : (prods a b)[2 * k + m]? = some x) : (prods a b).take (2 * k + m) ++ [x] = (prods a b).take (2 * k + (m + 1)) := by
  obtain ⟨h, e⟩ := List.getElem?_eq_some_iff.1 hx
  rw [show 2 * k + (m + 1) = 2 * k + m + 1 by omega, List.take_succ_eq_append_getElem h, e]
set_option maxHeartbeats 2000000 in
theorem pproducts_any (a b : Iv) (w : World) : Calls Tryd.prog 23 #[.agg #[.bool a.low.neg, .string a.low.num, .string a.low.den, .bool a.high.neg, .string a.high.num, .string a.high.den], .agg #[.bool b.low.neg, .string b.low.num, .string b.low.den, .bool b.high.neg, .string b.high.num, .string b.high.den]] w fun e w' =>
    e = .returned (.func (.func 37) #[] #[.pointer (some ⟨w.heap.size, 0, none⟩), .pointer (some ⟨w.heap.size + 1, 0, none⟩)]) ∧ Below w.heap.size w w' ∧ IvAt w.heap.size a w' ∧ IvAt (w.heap.size + 1) b w' := by
  have hmf : ∀ (fn : Fn) (first cap : Array Value) (w : World), (Instr.makeFunc fn first cap).run Tryd.prog w = .ok (.func fn first cap) w := fun _ _ _ _ => rfl
  have D0 := Lib.hid (Below.refl w.heap.size w)
  go_enter Tryd.func23, Tryd.ntmps23
  go_wp2_with fail
  go_ret
  have h1 : IvAt w.heap.size a (w.alloc (Obj.cells #[Value.bool a.low.neg, Value.string a.low.num, Value.string a.low.den, Value.bool a.high.neg, Value.string a.high.num, Value.string a.high.den] 26)) := ⟨heap_lastM _ _⟩
  have h2 : IvAt (w.heap.size + 1) b ((w.alloc (Obj.cells #[Value.bool a.low.neg, Value.string a.low.num, Value.string a.low.den, Value.bool a.high.neg, Value.string a.high.num, Value.string a.high.den] 26)).alloc (Obj.cells #[Value.bool b.low.neg, Value.string b.low.num, Value.string b.low.den, Value.bool b.high.neg, Value.string b.high.num, Value.string b.high.den] 26)) := by
    have := (⟨heap_lastM _ _⟩ : IvAt (w.alloc (Obj.cells #[Value.bool a.low.neg, Value.string a.low.num, Value.string a.low.den, Value.bool a.high.neg, Value.string a.high.num, Value.string a.high.den] 26)).heap.size b ((w.alloc (Obj.cells #[Value.bool a.low.neg, Value.string a.low.num, Value.string a.low.den, Value.bool a.high.neg, Value.string a.high.num, Value.string a.high.den] 26)).alloc (Obj.cells #[Value.bool b.low.neg, Value.string b.low.num, Value.string b.low.den, Value.bool b.high.neg, Value.string b.high.num, Value.string b.high.den] 26)))
    rwa [World.size_alloc] at this
  exact ⟨rfl, ((Below.refl _ _).alloc (Nat.le_refl _) _).alloc (by simp) _, h1.bel ((Below.refl _ _).alloc (Nat.le_refl _) _), h2⟩
def Idx (k : Nat) (i : Value) : Prop := (k = 0 ∧ i = .int .i64 0) ∨ (k = 1 ∧ i = .int .i64 1) ∨ (k = 2 ∧ i = .int .i64 2)
theorem run_ix0 (i : Iv) (w : World) : (Instr.index 65 (.agg #[.bool i.low.neg, .string i.low.num, .string i.low.den, .bool i.high.neg, .string i.high.num, .string i.high.den]) (.int .i64 0)).run Tryd.prog w = .ok (.agg #[.bool i.low.neg, .string i.low.num, .string i.low.den]) w := by
  first | kernel_rfl | rfl
theorem run_ix1 (i : Iv) (w : World) : (Instr.index 65 (.agg #[.bool i.low.neg, .string i.low.num, .string i.low.den, .bool i.high.neg, .string i.high.num, .string i.high.den]) (.int .i64 1)).run Tryd.prog w = .ok (.agg #[.bool i.high.neg, .string i.high.num, .string i.high.den]) w := by
  first | kernel_rfl | rfl
set_option maxHeartbeats 8000000 in
theorem pprod1_in (n : Nat) (hn : 1 ≤ n) (l Bf Ba Bb : Nat) (a b : Iv) (J Jx : List (Raw × Int) → World → Prop)
    (hJ : ∀ s X Y, J s X → Below X.heap.size X Y → J s Y)
    (hY : ∀ pre x W, J pre W → pre.length < 4 → YieldAt Fence.wide (n - 1) Tryd.prog l #[.agg #[.bool x.1.neg, .string x.1.num, .string x.1.den], .int .i64 x.2] W fun e W' =>
      (e = .returned (.bool true) ∧ J (pre ++ [x]) W' ∧ KpF Bf W W') ∨ (e = .returned (.bool false) ∧ Jx (pre ++ [x]) W'))
    (W : World) (hI : ItAt Bf Ba Bb a b W) (h0 : J [] W) :
    CallsIn Fence.wide n Tryd.prog 37 #[.func (.yield l) #[] #[], .pointer (some ⟨Ba, 0, none⟩), .pointer (some ⟨Bb, 0, none⟩)] W fun e W' => (∃ v, e = .returned v) ∧
      ((∃ ys, ys = prods a b ∧ J ys W') ∨ (∃ pre, pre <+: prods a b ∧ Jx pre W')) := by
  have HY := Lib.hid hY
  have HJ := Lib.hid hJ
  have HI := Lib.hid hI
  have H0 := Lib.hid h0
  clear hY hJ h0
  have hc0 := hI.at1.c0
  have hc1 := hI.at1.c1
  have hc2 := hI.at1.c2
  have hc3 := hI.at1.c3
  have hc4 := hI.at1.c4
  have hc5 := hI.at1.c5
  clear hI
  refine callsIn_of_wp Tryd.func37 rfl trivial ?_ rfl
  simp only [Tryd.ntmps37, List.size_toArray, List.length_cons, List.length_nil, Nat.reduceAdd, Nat.reduceSub, Array.replicate_succ, Array.replicate_zero, List.push_toArray, List.append_toArray, List.nil_append, List.cons_append]
  gi_wp2_with fail
  clear hc0 hc1 hc2 hc3 hc4 hc5
  gi_loopw [13] (fun i wr => ∃ k : Nat, Idx k i ∧ Hid (J ((prods a b).take (2 * k)) wr) ∧ Hid (ItAt Bf Ba Bb a b wr)) (fun i _ => 2 - (intOf i).toNat)
  case atStart => exact ⟨0, .inl ⟨rfl, rfl⟩, H0, HI⟩
  case round =>
    obtain ⟨k, hk, hJs, hIt⟩ := hrel
    rcases hk with ⟨rfl, rfl⟩ | ⟨rfl, rfl⟩ | ⟨rfl, rfl⟩
    ·
      have bl := blk_lt hIt.out.at2.cells
      have bc0 := hIt.out.at2.c0
      have bc1 := hIt.out.at2.c1
      have bc2 := hIt.out.at2.c2
      have bc3 := hIt.out.at2.c3
      have bc4 := hIt.out.at2.c4
      have bc5 := hIt.out.at2.c5
      have ixa := run_ix0 a
      gi_wp2_with fail
      clear ixa
      have hb : Below wr.heap.size wr (wr.alloc (Obj.cells #[Value.bool a.low.neg, Value.string a.low.num, Value.string a.low.den] 24)) := (Below.refl _ _).alloc (Nat.le_refl _) _
      have HX := Lib.hid (XAt.new hIt.out a.low)
      have HI2 := Lib.hid (hIt.out.bel hb); have HJ2 := Lib.hid (HJ.out _ _ _ hJs.out hb)
      obtain ⟨W1, hW1⟩ : ∃ W1, W1 = wr.alloc (Obj.cells #[Value.bool a.low.neg, Value.string a.low.num, Value.string a.low.den] 24) := ⟨_, rfl⟩
      obtain ⟨X, hX⟩ : ∃ X, X = wr.heap.size := ⟨_, rfl⟩
      rw [← hW1, ← hX] at HX; rw [← hW1] at HI2 HJ2
      rw [← hW1]; simp only [← hX]
      clear hb hW1 hX bl bc0 bc1 bc2 bc3 bc4 bc5 hJs hIt
      gi_loopw [21] (fun i wi => ∃ m : Nat, Idx m i ∧ Hid (J ((prods a b).take (2 * 0 + m)) wi) ∧ Hid (ItAt Bf Ba Bb a b wi) ∧ Hid (XAt Bf X a.low wi)) (fun i _ => 2 - (intOf i).toNat)
      case atStart => exact ⟨0, .inl ⟨rfl, rfl⟩, HJ2, HI2, HX⟩
      case round =>
        obtain ⟨m, hm, hJi, hIi, hXi⟩ := hrel
        clear HJ2 HI2 HX
        rcases hm with ⟨rfl, rfl⟩ | ⟨rfl, rfl⟩ | ⟨rfl, rfl⟩
        ·
          have xc0 := hXi.out.at1.c0
          have xc1 := hXi.out.at1.c1
          have xc2 := hXi.out.at1.c2
          have xl := blk_lt hXi.out.at1.cells
          have ixb := run_ix0 b
          gi_wp2_with fail
          clear ixb
          have hb : Below wr.heap.size wr (wr.alloc (Obj.cells #[Value.bool b.low.neg, Value.string b.low.num, Value.string b.low.den] 24)) := (Below.refl _ _).alloc (Nat.le_refl _) _
          have HX3 := Lib.hid (hXi.out.bel hIi.out.lt hb); have HI3 := Lib.hid (hIi.out.bel hb); have HJ3 := Lib.hid (HJ.out _ _ _ hJi.out hb)
          obtain ⟨W3, hW3⟩ : ∃ W3, W3 = wr.alloc (Obj.cells #[Value.bool b.low.neg, Value.string b.low.num, Value.string b.low.den] 24) := ⟨_, rfl⟩
          rw [← hW3] at HX3 HI3 HJ3 ⊢
          clear hb hW3 xl xc0 xc1 xc2 hJi hIi hXi
          refine ⟨trivial, ?_⟩
          refine (callsIn_wide.2 (pratmul_any a.low b.low W3)).mono ?_
          rintro e W4 ⟨rfl, hb⟩
          have HX4 := Lib.hid (HX3.out.bel HI3.out.lt hb); have HI4 := Lib.hid (HI3.out.bel hb); have HJ4 := Lib.hid (HJ.out _ _ _ HJ3.out hb)
          clear hb HX3 HI3 HJ3
          obtain ⟨p, hp⟩ : ∃ p, p = mulE a.low b.low := ⟨_, rfl⟩
          rw [← hp]
          have hpr : (prods a b)[2 * 0 + 0]? = some p := by rw [hp]; rfl
          have HPR := Lib.hid hpr; clear hpr hp
          obtain ⟨fn, tmps, assign, body, hy, hR⟩ := HY.out _ p W4 HJ4.out (by simp [prods])
          rw [prods_take a b 0 0 p HPR.out] at hR
          have HR := Lib.hid hR; clear hR
          gi_wp2_with fail
          refine HR.out.mono ?_
          rintro e W5 (⟨rfl, hJ5, hk5⟩ | ⟨rfl, hJx5⟩)
          · have HX5 := Lib.hid (HX4.out.kp hk5); have HI5 := Lib.hid (HI4.out.kp hk5); have HJ5 := Lib.hid hJ5
            clear hk5 hJ5 HX4 HI4 HJ4 HR
            gi_wp2_with fail
            go_roundw
            case rel => exact ⟨0 + 1, .inr (.inl ⟨rfl, rfl⟩), HJ5, HI5, HX5⟩
            case measure => simp [intOf]
          · have HJX := Lib.hid hJx5; clear hJx5 HX4 HI4 HJ4 HR
            gi_wp2_with fail
            refine bodyPost_ret (results_none rfl _ _ _) rfl ?_
            exact ⟨⟨_, rfl⟩, .inr ⟨_, List.take_prefix _ _, HJX.out⟩⟩
        ·
          have xc0 := hXi.out.at1.c0
          have xc1 := hXi.out.at1.c1
          have xc2 := hXi.out.at1.c2
          have xl := blk_lt hXi.out.at1.cells
          have ixb := run_ix1 b
          gi_wp2_with fail
          clear ixb
          have hb : Below wr.heap.size wr (wr.alloc (Obj.cells #[Value.bool b.high.neg, Value.string b.high.num, Value.string b.high.den] 24)) := (Below.refl _ _).alloc (Nat.le_refl _) _
          have HX3 := Lib.hid (hXi.out.bel hIi.out.lt hb); have HI3 := Lib.hid (hIi.out.bel hb); have HJ3 := Lib.hid (HJ.out _ _ _ hJi.out hb)
          obtain ⟨W3, hW3⟩ : ∃ W3, W3 = wr.alloc (Obj.cells #[Value.bool b.high.neg, Value.string b.high.num, Value.string b.high.den] 24) := ⟨_, rfl⟩
          rw [← hW3] at HX3 HI3 HJ3 ⊢
          clear hb hW3 xl xc0 xc1 xc2 hJi hIi hXi
          refine ⟨trivial, ?_⟩
          refine (callsIn_wide.2 (pratmul_any a.low b.high W3)).mono ?_
          rintro e W4 ⟨rfl, hb⟩
          have HX4 := Lib.hid (HX3.out.bel HI3.out.lt hb); have HI4 := Lib.hid (HI3.out.bel hb); have HJ4 := Lib.hid (HJ.out _ _ _ HJ3.out hb)
          clear hb HX3 HI3 HJ3
          obtain ⟨p, hp⟩ : ∃ p, p = mulE a.low b.high := ⟨_, rfl⟩
          rw [← hp]
          have hpr : (prods a b)[2 * 0 + 1]? = some p := by rw [hp]; rfl
          have HPR := Lib.hid hpr; clear hpr hp
          obtain ⟨fn, tmps, assign, body, hy, hR⟩ := HY.out _ p W4 HJ4.out (by simp [prods])
          rw [prods_take a b 0 1 p HPR.out] at hR
          have HR := Lib.hid hR; clear hR
          gi_wp2_with fail
          refine HR.out.mono ?_
          rintro e W5 (⟨rfl, hJ5, hk5⟩ | ⟨rfl, hJx5⟩)
          · have HX5 := Lib.hid (HX4.out.kp hk5); have HI5 := Lib.hid (HI4.out.kp hk5); have HJ5 := Lib.hid hJ5
            clear hk5 hJ5 HX4 HI4 HJ4 HR
            gi_wp2_with fail
            go_roundw
            case rel => exact ⟨1 + 1, .inr (.inr ⟨rfl, rfl⟩), HJ5, HI5, HX5⟩
            case measure => simp [intOf]
          · have HJX := Lib.hid hJx5; clear hJx5 HX4 HI4 HJ4 HR
            gi_wp2_with fail
            refine bodyPost_ret (results_none rfl _ _ _) rfl ?_
            exact ⟨⟨_, rfl⟩, .inr ⟨_, List.take_prefix _ _, HJX.out⟩⟩
        · gi_wp2_with fail
          go_roundw
          case rel => exact ⟨0 + 1, .inr (.inl ⟨rfl, rfl⟩), hJi, hIi⟩
          case measure => simp [intOf]
    ·
      have bl := blk_lt hIt.out.at2.cells
      have bc0 := hIt.out.at2.c0
      have bc1 := hIt.out.at2.c1
      have bc2 := hIt.out.at2.c2
      have bc3 := hIt.out.at2.c3
      have bc4 := hIt.out.at2.c4
      have bc5 := hIt.out.at2.c5
      have ixa := run_ix1 a
      gi_wp2_with fail
      clear ixa
      have hb : Below wr.heap.size wr (wr.alloc (Obj.cells #[Value.bool a.high.neg, Value.string a.high.num, Value.string a.high.den] 24)) := (Below.refl _ _).alloc (Nat.le_refl _) _
      have HX := Lib.hid (XAt.new hIt.out a.high)
      have HI2 := Lib.hid (hIt.out.bel hb); have HJ2 := Lib.hid (HJ.out _ _ _ hJs.out hb)
      obtain ⟨W1, hW1⟩ : ∃ W1, W1 = wr.alloc (Obj.cells #[Value.bool a.high.neg, Value.string a.high.num, Value.string a.high.den] 24) := ⟨_, rfl⟩
      obtain ⟨X, hX⟩ : ∃ X, X = wr.heap.size := ⟨_, rfl⟩
      rw [← hW1, ← hX] at HX; rw [← hW1] at HI2 HJ2
      rw [← hW1]; simp only [← hX]
      clear hb hW1 hX bl bc0 bc1 bc2 bc3 bc4 bc5 hJs hIt
      gi_loopw [21] (fun i wi => ∃ m : Nat, Idx m i ∧ Hid (J ((prods a b).take (2 * 1 + m)) wi) ∧ Hid (ItAt Bf Ba Bb a b wi) ∧ Hid (XAt Bf X a.high wi)) (fun i _ => 2 - (intOf i).toNat)
      case atStart => exact ⟨0, .inl ⟨rfl, rfl⟩, HJ2, HI2, HX⟩
      case round =>
        obtain ⟨m, hm, hJi, hIi, hXi⟩ := hrel
        clear HJ2 HI2 HX
        rcases hm with ⟨rfl, rfl⟩ | ⟨rfl, rfl⟩ | ⟨rfl, rfl⟩
        ·
          have xc0 := hXi.out.at1.c0
          have xc1 := hXi.out.at1.c1
          have xc2 := hXi.out.at1.c2
          have xl := blk_lt hXi.out.at1.cells
          have ixb := run_ix0 b
          gi_wp2_with fail
          clear ixb
          have hb : Below wr.heap.size wr (wr.alloc (Obj.cells #[Value.bool b.low.neg, Value.string b.low.num, Value.string b.low.den] 24)) := (Below.refl _ _).alloc (Nat.le_refl _) _
          have HX3 := Lib.hid (hXi.out.bel hIi.out.lt hb); have HI3 := Lib.hid (hIi.out.bel hb); have HJ3 := Lib.hid (HJ.out _ _ _ hJi.out hb)
          obtain ⟨W3, hW3⟩ : ∃ W3, W3 = wr.alloc (Obj.cells #[Value.bool b.low.neg, Value.string b.low.num, Value.string b.low.den] 24) := ⟨_, rfl⟩
          rw [← hW3] at HX3 HI3 HJ3 ⊢
          clear hb hW3 xl xc0 xc1 xc2 hJi hIi hXi
          refine ⟨trivial, ?_⟩
          refine (callsIn_wide.2 (pratmul_any a.high b.low W3)).mono ?_
          rintro e W4 ⟨rfl, hb⟩
          have HX4 := Lib.hid (HX3.out.bel HI3.out.lt hb); have HI4 := Lib.hid (HI3.out.bel hb); have HJ4 := Lib.hid (HJ.out _ _ _ HJ3.out hb)
          clear hb HX3 HI3 HJ3
          obtain ⟨p, hp⟩ : ∃ p, p = mulE a.high b.low := ⟨_, rfl⟩
          rw [← hp]
          have hpr : (prods a b)[2 * 1 + 0]? = some p := by rw [hp]; rfl
          have HPR := Lib.hid hpr; clear hpr hp
          obtain ⟨fn, tmps, assign, body, hy, hR⟩ := HY.out _ p W4 HJ4.out (by simp [prods])
          rw [prods_take a b 1 0 p HPR.out] at hR
          have HR := Lib.hid hR; clear hR
          gi_wp2_with fail
          refine HR.out.mono ?_
          rintro e W5 (⟨rfl, hJ5, hk5⟩ | ⟨rfl, hJx5⟩)
          · have HX5 := Lib.hid (HX4.out.kp hk5); have HI5 := Lib.hid (HI4.out.kp hk5); have HJ5 := Lib.hid hJ5
            clear hk5 hJ5 HX4 HI4 HJ4 HR
            gi_wp2_with fail
            go_roundw
            case rel => exact ⟨0 + 1, .inr (.inl ⟨rfl, rfl⟩), HJ5, HI5, HX5⟩
            case measure => simp [intOf]
          · have HJX := Lib.hid hJx5; clear hJx5 HX4 HI4 HJ4 HR
            gi_wp2_with fail
            refine bodyPost_ret (results_none rfl _ _ _) rfl ?_
            exact ⟨⟨_, rfl⟩, .inr ⟨_, List.take_prefix _ _, HJX.out⟩⟩
        ·
          have xc0 := hXi.out.at1.c0
          have xc1 := hXi.out.at1.c1
          have xc2 := hXi.out.at1.c2
          have xl := blk_lt hXi.out.at1.cells
          have ixb := run_ix1 b
          gi_wp2_with fail
          clear ixb
          have hb : Below wr.heap.size wr (wr.alloc (Obj.cells #[Value.bool b.high.neg, Value.string b.high.num, Value.string b.high.den] 24)) := (Below.refl _ _).alloc (Nat.le_refl _) _
          have HX3 := Lib.hid (hXi.out.bel hIi.out.lt hb); have HI3 := Lib.hid (hIi.out.bel hb); have HJ3 := Lib.hid (HJ.out _ _ _ hJi.out hb)
          obtain ⟨W3, hW3⟩ : ∃ W3, W3 = wr.alloc (Obj.cells #[Value.bool b.high.neg, Value.string b.high.num, Value.string b.high.den] 24) := ⟨_, rfl⟩
          rw [← hW3] at HX3 HI3 HJ3 ⊢
          clear hb hW3 xl xc0 xc1 xc2 hJi hIi hXi
          refine ⟨trivial, ?_⟩
          refine (callsIn_wide.2 (pratmul_any a.high b.high W3)).mono ?_
          rintro e W4 ⟨rfl, hb⟩
          have HX4 := Lib.hid (HX3.out.bel HI3.out.lt hb); have HI4 := Lib.hid (HI3.out.bel hb); have HJ4 := Lib.hid (HJ.out _ _ _ HJ3.out hb)
          clear hb HX3 HI3 HJ3
          obtain ⟨p, hp⟩ : ∃ p, p = mulE a.high b.high := ⟨_, rfl⟩
          rw [← hp]
          have hpr : (prods a b)[2 * 1 + 1]? = some p := by rw [hp]; rfl
          have HPR := Lib.hid hpr; clear hpr hp
          obtain ⟨fn, tmps, assign, body, hy, hR⟩ := HY.out _ p W4 HJ4.out (by simp [prods])
          rw [prods_take a b 1 1 p HPR.out] at hR
          have HR := Lib.hid hR; clear hR
          gi_wp2_with fail
          refine HR.out.mono ?_
          rintro e W5 (⟨rfl, hJ5, hk5⟩ | ⟨rfl, hJx5⟩)
          · have HX5 := Lib.hid (HX4.out.kp hk5); have HI5 := Lib.hid (HI4.out.kp hk5); have HJ5 := Lib.hid hJ5
            clear hk5 hJ5 HX4 HI4 HJ4 HR
            gi_wp2_with fail
            go_roundw
            case rel => exact ⟨1 + 1, .inr (.inr ⟨rfl, rfl⟩), HJ5, HI5, HX5⟩
            case measure => simp [intOf]
          · have HJX := Lib.hid hJx5; clear hJx5 HX4 HI4 HJ4 HR
            gi_wp2_with fail
            refine bodyPost_ret (results_none rfl _ _ _) rfl ?_
            exact ⟨⟨_, rfl⟩, .inr ⟨_, List.take_prefix _ _, HJX.out⟩⟩
        · gi_wp2_with fail
          go_roundw
          case rel => exact ⟨1 + 1, .inr (.inr ⟨rfl, rfl⟩), hJi, hIi⟩
          case measure => simp [intOf]
    · gi_wp2_with fail
      go_end0
      exact ⟨⟨_, rfl⟩, .inl ⟨_, rfl, hJs.out⟩⟩
/-- the function that yields the products, as the loop asks it -/
theorem pprods_stops (n : Nat) (hn : 1 ≤ n) (Bf Ba Bb : Nat) (a b : Iv) (w : World) (hI : ItAt Bf Ba Bb a b w) :
    SeqStopsK Fence.wide n Tryd.prog 37 #[.pointer (some ⟨Ba, 0, none⟩), .pointer (some ⟨Bb, 0, none⟩)] (fun x : Raw × Int => #[Value.agg #[.bool x.1.neg, .string x.1.num, .string x.1.den], Value.int .i64 x.2]) (KpF Bf) (fun ys => ys = prods a b) (fun pre => pre <+: prods a b) 4 w := fun l J Jx W hW hJ _ hY h0 =>
  pprod1_in n hn l Bf Ba Bb a b J Jx (fun s X Y hs hb => hJ s X Y none hs (grown_bel hb) (fun r e => by cases e)) hY W (hI.bel hW) h0
end Go.Proofs.YtbcoblpnihdhgaaDoor
