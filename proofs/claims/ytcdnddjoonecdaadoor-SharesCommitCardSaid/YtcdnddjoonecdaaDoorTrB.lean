/-
  The program's tree package: what is left of a proof (take, used), and the root that a path leads to.
-/
import Derived.Test.YtcdnddjoonecdaaDoorTrA
set_option linter.unusedVariables false
set_option maxRecDepth 100000
namespace Go.Proofs.YtcdnddjoonecdaaDoor
open Go.RowKit
/-- all blocks but one are as they were -/
structure Bes (B : Nat) (w w' : World) : Prop where
  os : w'.os = w.os
  tape : w'.tape = w.tape
  output : w'.output = w.output
  size : w.heap.size ≤ w'.heap.size
  block : ∀ k, k < w.heap.size → k ≠ B → w'.heap[k]? = w.heap[k]?
theorem Bes.refl (B : Nat) (w : World) : Bes B w w := ⟨rfl, rfl, rfl, Nat.le_refl _, fun _ _ _ => rfl⟩
theorem Bes.trans {B : Nat} {a b c : World} (h : Bes B a b) (k : Bes B b c) : Bes B a c :=
  ⟨k.os.trans h.os, k.tape.trans h.tape, k.output.trans h.output, Nat.le_trans h.size k.size, fun i hi hn => (k.block i (Nat.lt_of_lt_of_le hi h.size) hn).trans (h.block i hi hn)⟩
theorem Bes.of {B : Nat} {w w' : World} (h : Below w.heap.size w w') : Bes B w w' := ⟨h.os, h.tape, h.output, h.size, fun k hk _ => h.block k hk⟩
theorem Bes.set (w : World) (B i : Nat) (u : Value) : Bes B w (w.setCell ⟨B, i, none⟩ u) :=
  ⟨rfl, rfl, rfl, by simp [World.setCell], fun k _ hn => Below.heap_setCell _ _ _ _ hn⟩
theorem Bes.below {B : Nat} {w w' : World} (h : Bes B w w') (hB : B ≤ w.heap.size) : Below B w w' := ⟨h.os, h.tape, h.output, h.size, fun k hk => h.block k (by omega) (by omega)⟩
/-- the rest of a proof lies in the block that follows a world -/
structure RestAt (W0 : World) (v : Value) (sh : Bool) (w : World) : Prop where
  cells : w.heap[W0.heap.size]? = some (.cells #[v, .bool sh] 70 (0, 0))
  below : Below W0.heap.size W0 w
theorem RestAt.lt {W0 : World} {v : Value} {sh : Bool} {w : World} (h : RestAt W0 v sh w) : W0.heap.size < w.heap.size := by
  rcases Nat.lt_or_ge W0.heap.size w.heap.size with h' | h'
  · exact h'
  · have := h.cells
    simp [Array.getElem?_eq_none h'] at this
theorem RestAt.cell0 {W0 : World} {v : Value} {sh : Bool} {w : World} (h : RestAt W0 v sh w) : w.cell? ⟨W0.heap.size, 0, none⟩ = some v := by rw [Lib.cell_of_heap h.cells]; rfl
theorem RestAt.cell1 {W0 : World} {v : Value} {sh : Bool} {w : World} (h : RestAt W0 v sh w) : w.cell? ⟨W0.heap.size, 1, none⟩ = some (.bool sh) := by rw [Lib.cell_of_heap h.cells]; rfl
theorem RestAt.bel {W0 : World} {v : Value} {sh : Bool} {w w' : World} (h : RestAt W0 v sh w) (hb : Below w.heap.size w w') : RestAt W0 v sh w' :=
  ⟨(hb.block _ h.lt).trans h.cells, h.below.trans (hb.mono (Nat.le_of_lt h.lt))⟩
theorem RestAt.set0 {W0 : World} {v : Value} {sh : Bool} {w : World} (h : RestAt W0 v sh w) (u : Value) : RestAt W0 u sh (w.setCell ⟨W0.heap.size, 0, none⟩ u) :=
  ⟨by rw [heap_setCell_same w _ 0 _ _ u h.cells]; rfl, h.below.setCell (p := ⟨W0.heap.size, 0, none⟩) (Nat.le_refl _) _⟩
theorem RestAt.set1 {W0 : World} {v : Value} {sh : Bool} {w : World} (h : RestAt W0 v sh w) (u : Bool) : RestAt W0 v u (w.setCell ⟨W0.heap.size, 1, none⟩ (.bool u)) :=
  ⟨by rw [heap_setCell_same w _ 1 _ _ (.bool u) h.cells]; rfl, h.below.setCell (p := ⟨W0.heap.size, 1, none⟩) (Nat.le_refl _) _⟩
set_option maxHeartbeats 400000 in
theorem take_some (W0 : World) (r b off cap : Nat) (x : ByteArray) (sh : Bool) (w : World) (hR : RestAt W0 (.slice (some ⟨b, off, none⟩) (r + 1) cap) sh w) (hcap : r + 1 ≤ cap) (hcm : cap ≤ maxLen) (hx : w.cell? ⟨b, off + r, none⟩ = some (.string x)) :
    Calls Tryd.prog 66 #[.pointer (some ⟨W0.heap.size, 0, none⟩)] w fun e w' => e = .returned (.string x) ∧ RestAt W0 (.slice (some ⟨b, off, none⟩) r cap) sh w' ∧ Bes W0.heap.size w w' := by
  have c0 := hR.cell0
  have f0 := Lib.frozen_of_heap hR.cells 0
  have HR := Lib.hid hR
  clear hR
  unfold maxLen at hcm
  have i1 : (r : Int) ≤ (cap : Int) := by omega
  have i2 : ((r + 1 : Nat) : Int) - 1 = (r : Int) := by omega
  go_enter Tryd.func66, Tryd.ntmps66
  go_wp2_with fail
  go_ret
  exact ⟨rfl, HR.out.set0 _, Bes.set _ _ _ _⟩
set_option maxHeartbeats 400000 in
theorem take_none (W0 : World) (a : Option Addr) (cap : Nat) (sh : Bool) (w : World) (hR : RestAt W0 (.slice a 0 cap) sh w) :
    Calls Tryd.prog 66 #[.pointer (some ⟨W0.heap.size, 0, none⟩)] w fun e w' => e = .returned (.string ⟨#[]⟩) ∧ RestAt W0 (.slice a 0 cap) true w' ∧ Bes W0.heap.size w w' := by
  have c0 := hR.cell0
  have c1 := hR.cell1
  have f1 := Lib.frozen_of_heap hR.cells 1
  have HR := Lib.hid hR
  clear hR
  go_enter Tryd.func66, Tryd.ntmps66
  go_wp2_with fail
  go_ret
  exact ⟨rfl, HR.out.set1 _, Bes.set _ _ _ _⟩
/-- what take hands back and leaves -/
structure Took (W0 : World) (p : List ByteArray) (sh : Bool) (x : ByteArray) (q : List ByteArray) (sh' : Bool) : Prop where
  size : x.size ≤ 2147483648
  small : Small q
  cases : (p = q ++ [x] ∧ sh' = sh) ∨ (p = [] ∧ q = [] ∧ sh' = true)
theorem take_any (W0 : World) (v : Value) (p : List ByteArray) (sh : Bool) (w : World) (hR : RestAt W0 v sh w) (hp : StrsOk W0 v p) (hS : Small p) :
    Calls Tryd.prog 66 #[.pointer (some ⟨W0.heap.size, 0, none⟩)] w fun e w' => ∃ x q sh' v', e = .returned (.string x) ∧ RestAt W0 v' sh' w' ∧ StrsOk W0 v' q ∧ Took W0 p sh x q sh' ∧ Bes W0.heap.size w w' := by
  by_cases h0 : p = []
  · subst h0
    obtain ⟨a, cap, rfl, h1, h2⟩ := hp.room
    refine (take_none W0 a cap sh w hR).mono ?_
    rintro e w' ⟨rfl, hr, hb⟩
    exact ⟨_, [], true, _, rfl, hr, hp, ⟨by decide, hS, .inr ⟨rfl, rfl, rfl⟩⟩, hb⟩
  · obtain ⟨q, x, rfl⟩ := snoc_of h0
    have hx' := hp.below hR.below
    obtain ⟨b, off, cap, rfl, h1, h3, hx, hxs, hq⟩ := hx'.snoc_open
    refine (take_some W0 q.length b off cap x sh w hR h1 h3 hx).mono ?_
    rintro e w' ⟨rfl, hr, hb⟩
    exact ⟨x, q, sh, _, rfl, hr, hp.init, ⟨hS x (by simp), fun s hs => hS s (by simp [hs]), .inl ⟨rfl, rfl⟩⟩, hb⟩
theorem used_yes (W0 : World) (a : Option Addr) (n cap : Nat) (w : World) (hR : RestAt W0 (.slice a n cap) false w) :
    Calls Tryd.prog 47 #[.pointer (some ⟨W0.heap.size, 0, none⟩)] w fun e w' => e = .returned (.bool (decide (n = 0))) ∧ w = w' := by
  have c0 := hR.cell0
  have c1 := hR.cell1
  clear hR
  by_cases h0 : n = 0
  · subst h0
    go_enter Tryd.func47, Tryd.ntmps47
    go_wp2_with fail
    go_ret
    exact ⟨rfl, rfl⟩
  · have t0 : ((n : Int) == 0) = false := beq_eq_false_iff_ne.2 (by omega)
    have t1 : decide (n = 0) = false := decide_eq_false h0
    go_enter Tryd.func47, Tryd.ntmps47
    go_wp2_with fail
    go_ret
    exact ⟨by rw [t1]; rfl, rfl⟩
theorem used_short (W0 : World) (a : Option Addr) (n cap : Nat) (w : World) (hR : RestAt W0 (.slice a n cap) true w) :
    Calls Tryd.prog 47 #[.pointer (some ⟨W0.heap.size, 0, none⟩)] w fun e w' => e = .returned (.bool false) ∧ w = w' := by
  have c0 := hR.cell0
  have c1 := hR.cell1
  clear hR
  go_enter Tryd.func47, Tryd.ntmps47
  go_wp2_with fail
  go_ret
  exact ⟨rfl, rfl⟩
theorem used_any (W0 : World) (v : Value) (p : List ByteArray) (sh : Bool) (w : World) (hR : RestAt W0 v sh w) (hp : StrsOk W0 v p) :
    Calls Tryd.prog 47 #[.pointer (some ⟨W0.heap.size, 0, none⟩)] w fun e w' => e = .returned (.bool (!sh && decide (p.length = 0))) ∧ w = w' := by
  obtain ⟨a, cap, rfl, h1, h2⟩ := hp.room
  cases sh with
  | false => exact used_yes W0 a p.length cap w hR
  | true => exact used_short W0 a p.length cap w hR
/-- what a proof of a length that its numbers ask for gives, and what is left of it -/
structure Left (W0 : World) (p : List ByteArray) (sh : Bool) (len : Nat) (p' : List ByteArray) (sh' : Bool) (good : List ByteArray → Prop) : Prop where
  small : Small p'
  cases : (∃ q, p = p' ++ q ∧ q.length = len ∧ sh' = sh ∧ good q) ∨ (p.length < len ∧ sh' = true)
theorem Left.next {W0 : World} {p p1 p2 : List ByteArray} {sh sh1 sh2 : Bool} {len : Nat} {x : ByteArray} {g g' : List ByteArray → Prop}
    (t : Took W0 p sh x p1 sh1) (l : Left W0 p1 sh1 len p2 sh2 g) (h : ∀ q, q.length = len → g q → g' (q ++ [x])) : Left W0 p sh (1 + len) p2 sh2 g' := by
  refine ⟨l.small, ?_⟩
  rcases t.cases with ⟨rfl, rfl⟩ | ⟨rfl, rfl, rfl⟩
  · rcases l.cases with ⟨q, rfl, hq, hs, hg⟩ | ⟨h1, h2⟩
    · exact .inl ⟨q ++ [x], by simp, by simp [hq]; omega, hs, h q hq hg⟩
    · exact .inr ⟨by simp; omega, h2⟩
  · right
    refine ⟨by simp; omega, ?_⟩
    rcases l.cases with ⟨q, hp, hq, hs, hg⟩ | ⟨h1, h2⟩
    · exact hs
    · exact h2
end Go.Proofs.YtcdnddjoonecdaaDoor
