/-
  The program's airmass (layer 11): the closure that keeps a window until it ends.
-/
import Derived.Test.YtebkifhdbpeeoaaAmPB
set_option linter.unusedVariables false
set_option maxRecDepth 100000
namespace Go.Proofs.Ytebkifhdbpeeoaa.Am
open Go.RowKit Go.Shelf
/-- the three variables of the windows -/
structure KepAt (N : Nat) (C : Nat) (x : List (Int × Int) × Int × Bool) (W : World) : Prop where
  opn : Boxed W (C + 1 + 1) 4 (.bool x.2.2)
  beg : Boxed W (C + 1) 3 (.int .i64 x.2.1)
  row : ∃ v, Boxed W C 28 v ∧ OwnS N W v (x.1)
/-- what is kept but for the three variables and what comes behind N -/
structure KB (N C : Nat) (W W' : World) : Prop where
  os : W'.os = W.os
  tape : W'.tape = W.tape
  output : W'.output = W.output
  others : KeepsOthers W W'
  low : ∀ j, j < N → j ≠ C → j ≠ C + 1 → j ≠ C + 1 + 1 → W'.heap[j]? = W.heap[j]?
theorem KB.trans {N C : Nat} {X Y Z : World} (h : KB N C X Y) (k : KB N C Y Z) : KB N C X Z :=
  ⟨k.os.trans h.os, k.tape.trans h.tape, k.output.trans h.output, h.others.trans k.others, fun j h0 h1 h2 h3 => (k.low j h0 h1 h2 h3).trans (h.low j h0 h1 h2 h3)⟩
theorem KB.of {N C : Nat} {W W' : World} (h : Below W.heap.size W W') (hN : N ≤ W.heap.size) : KB N C W W' :=
  ⟨h.os, h.tape, h.output, KeepsOthers.of_grownBy (grown_bel h) (fun j o e => by cases e), fun j h0 _ _ _ => h.block j (by omega)⟩
theorem KB.set {N C : Nat} (W : World) (B : Nat) (u : Value) (hB : B = C ∨ B = C + 1 ∨ B = C + 1 + 1) : KB N C W (W.setCell ⟨B, 0, none⟩ u) :=
  ⟨rfl, rfl, rfl, KeepsOthers.setCell _ _ _, fun j h0 h1 h2 h3 => Below.heap_setCell W ⟨B, 0, none⟩ u j (by simp only; omega)⟩
theorem KB.refl (N C : Nat) (W : World) : KB N C W W := ⟨rfl, rfl, rfl, KeepsOthers.refl _, fun _ _ _ _ _ => rfl⟩
theorem KB.below {N C n : Nat} {W W' : World} (h : KB N C W W') (hC : n ≤ C) (hN : n ≤ N) : Below n W W' :=
  ⟨h.os, h.tape, h.output, h.others.size, fun j hj => h.low j (by omega) (by omega) (by omega) (by omega)⟩
theorem KB.box {N C b : Nat} {t : TypeId} {v : Value} {W W' : World} (h : KB N C W W') (hb : Boxed W b t v) (hN : b < N) (h1 : b ≠ C) (h2 : b ≠ C + 1) (h3 : b ≠ C + 1 + 1) : Boxed W' b t v := (h.low b hN h1 h2 h3).trans hb
theorem KepAt.bel {N C : Nat} {x : List (Int × Int) × Int × Bool} {W W' : World} (h : KepAt N C x W) (hb : Below W.heap.size W W') : KepAt N C x W' := by
  obtain ⟨h1, h2, v, h3, h4⟩ := h
  exact ⟨boxed_bel h1 hb, boxed_bel h2 hb, v, boxed_bel h3 hb, h4.below hb⟩
theorem OwnS.box {N : Nat} {W : World} {v u : Value} {l : List (Int × Int)} {b : Nat} {t : TypeId} {z : Value} (h : OwnS N W v l) (hb : Boxed W b t z) (ht : t ≠ 39) : OwnS N (W.setCell ⟨b, 0, none⟩ u) v l :=
  World.ownsRow.kept h (grownBy_setCell' W b u) (.inr (hb.not_row ht h).symm)
/-- the end of the closure: it stores whether a window is open -/
theorem KepAt.store {N C : Nat} {l : List (Int × Int)} {f : Int} {o : Bool} {W : World} (h : KepAt N C (l, f, o) W) (b : Bool) : KepAt N C (l, f, b) (W.setCell ⟨C + 1 + 1, 0, none⟩ (.bool b)) := by
  obtain ⟨h1, h2, v, h3, h4⟩ := h
  exact ⟨h1.set _, h2.other (by omega) _, v, h3.other (by omega) _, h4.box h1 (by decide)⟩
theorem KepAt.begin {N C : Nat} {l : List (Int × Int)} {f : Int} {o : Bool} {W : World} (h : KepAt N C (l, f, o) W) (k : Int) : KepAt N C (l, k, o) (W.setCell ⟨C + 1, 0, none⟩ (.int .i64 k)) := by
  obtain ⟨h1, h2, v, h3, h4⟩ := h
  exact ⟨h1.other (by omega) _, h2.set _, v, h3.other (by omega) _, h4.box h2 (by decide)⟩
/-- behind the append: the list is stored -/
theorem KepAt.grow {N C : Nat} {l : List (Int × Int)} {f : Int} {o : Bool} {W w1 : World} {v v' : Value} {a b : Int} (h1 : Boxed W (C + 1 + 1) 4 (.bool o)) (h2 : Boxed W (C + 1) 3 (.int .i64 f)) (h3 : Boxed W C 28 v) (h4 : OwnS N W v l) (hN : N ≤ W.heap.size)
    (hC : C + 1 + 1 < N) (hown : OwnS N w1 v' (l ++ [(a, b)])) (hg : (W.alloc (.cells #[.int .i64 a, .int .i64 b] 39)).grownBy w1 v.ownBlock) :
    (Boxed w1 C 28 v ∧ Boxed w1 (C + 1 + 1) 4 (.bool o)) ∧ KepAt N C (l ++ [(a, b)], f, o) (w1.setCell ⟨C, 0, none⟩ v') ∧ KB N C W (w1.setCell ⟨C, 0, none⟩ v') := by
  obtain ⟨n, hn, hn0⟩ : ∃ n, n = C ∧ n ≤ N := ⟨C, rfl, by omega⟩
  have e1 : ∀ {t : TypeId} {b : Nat} {z : Value}, Boxed W b t z → t ≠ 39 → Boxed w1 b t z := fun hb ht => (hb.alloc _).kept hg (hb.not_row ht h4)
  have k1 : Boxed w1 C 28 v := e1 h3 (by decide)
  have hrow : ∀ j, v.ownBlock = some j → N ≤ j := fun j ej => by
    rcases h4.2 with ⟨rfl, _⟩ | ⟨g, cap, cur, rfl, hb, _, _⟩
    · simp [Value.ownBlock] at ej
    · obtain rfl : g = j := by simpa [Value.ownBlock] using ej
      exact hb
  refine ⟨⟨k1, e1 h1 (by decide)⟩, ⟨(e1 h1 (by decide)).other (by omega) _, (e1 h2 (by decide)).other (by omega) _, v', k1.set _, hown.box k1 (by decide)⟩, ?_⟩
  refine ⟨?_, ?_, ?_, ?_, ?_⟩
  · exact hg.os
  · exact hg.tape
  · exact hg.output
  · refine ((KeepsOthers.alloc W _).trans (KeepsOthers.of_grownBy hg fun j o ej hj => ?_)).trans (KeepsOthers.setCell _ _ _)
    rcases (World.ownsRow.alloc h4 (.cells #[.int .i64 a, .int .i64 b] 39)).2 with ⟨rfl, _⟩ | ⟨g, cap, cur, rfl, _, hgb, _⟩
    · simp [Value.ownBlock] at ej
    · obtain rfl : g = j := by simpa [Value.ownBlock] using ej
      rw [hgb] at hj; cases hj; rfl
  · intro j h0 g1 g2 g3
    refine (Below.heap_setCell w1 ⟨C, 0, none⟩ v' j g1).trans ((hg.block j (by rw [World.size_alloc]; omega) (fun e => ?_)).trans (Below.heap_alloc W _ j (by omega)))
    have := hrow j e.symm
    omega
/-- what the closure leaves -/
structure KepP (N C : Nat) (x : List (Int × Int) × Int × Bool) (k : Int) (b : Bool) (W : World) (e : Ending) (W' : World) : Prop where
  ret : e = .returned (.tuple #[])
  at' : KepAt N C (kpI x k b) W'
  kb : KB N C W W'
set_option maxHeartbeats 2000000 in
theorem pkeep_any (N C : Nat) (hC : C + 1 + 1 < N) (x : List (Int × Int) × Int × Bool) (k : Int) (b : Bool) (hk : -1000 ≤ k ∧ k ≤ 1000) (hl : x.1.length + 1 ≤ 1000) (W : World) (h : KepAt N C x W) (hN : N ≤ W.heap.size) :
    Calls Try.prog 35 #[.int .i64 k, .bool b, .pointer (some ⟨C + 1 + 1, 0, none⟩), .pointer (some ⟨C + 1, 0, none⟩), .pointer (some ⟨C, 0, none⟩)] W (KepP N C x k b W) := by
  obtain ⟨l, f, o⟩ := x
  have HA := Lib.hid h
  obtain ⟨h1, h2, v, h3, h4⟩ := h
  have f1 : IntKind.i64.wrap (k - 1) = k - 1 := IntWalk.i64_in _ (by omega)
  have e1 := h1.cell
  have e2 := h2.cell
  have e3 := h3.cell
  have g1 := h1.frozen
  have g2 := h2.frozen
  have g3 := h3.frozen
  have H1 := Lib.hid h1
  have H2 := Lib.hid h2
  have H3 := Lib.hid h3
  have H4 := Lib.hid h4
  have HN := Lib.hid hN
  have HL : Hid (l.length + 1 ≤ 1099511627) := Lib.hid (by simp only at hl; omega)
  clear h1 h2 h3 h4 hl hN
  simp only at e1 e2 e3
  cases o <;> cases b
  · have HE : Hid (kpI (l, f, false) k false = (l, f, false)) := Lib.hid (by simp [kpI])
    go_enter Try.func35, Try.ntmps35
    go_wp2_with fail
    go_end0
    exact ⟨rfl, by rw [HE.out]; exact HA.out.store false, KB.set _ _ _ (.inr (.inr rfl))⟩
  · have HE : Hid (kpI (l, f, false) k true = (l, k, true)) := Lib.hid (by simp [kpI])
    go_enter Try.func35, Try.ntmps35
    go_wp2_with fail
    go_end0
    exact ⟨rfl, by rw [HE.out]; exact (HA.out.begin k).store true, (KB.set _ _ _ (.inr (.inl rfl))).trans (KB.set _ _ _ (.inr (.inr rfl)))⟩
  · have HE : Hid (kpI (l, f, true) k false = (l ++ [(f, k - 1)], f, false)) := Lib.hid (by simp [kpI])
    go_enter Try.func35, Try.ntmps35
    go_wp2_with (at_builtin; refine wpList_snocS _ (by rfl) _ _ (by rfl) N v l f (k - 1) (by rfl) (by rfl) H4.out HL.out HN.out ?_)
    intro v7 w7 hown7 hgrow7
    obtain ⟨a7, c7, rfl, -, -, -⟩ := OwnS.at hown7
    obtain ⟨q1, q2, q3⟩ := KepAt.grow H1.out H2.out H3.out H4.out HN.out hC hown7 hgrow7
    have hle : (l ++ [(f, k - 1)]).length = l.length + 1 := by simp
    rw [hle] at q2 q3
    have Q2 := Lib.hid q2
    have Q3 := Lib.hid q3
    have d1 := q1.1.cell
    have d2 := q1.1.frozen
    have d3 := q1.2.cell
    have d4 := q1.2.frozen
    clear q1 q2 q3 hown7 hgrow7 e1 e2 e3 g1 g2 g3
    go_wp2_with fail
    go_end0
    exact ⟨rfl, by rw [HE.out]; exact Q2.out.store false, Q3.out.trans (KB.set _ _ _ (.inr (.inr rfl)))⟩
  · have HE : Hid (kpI (l, f, true) k true = (l, f, true)) := Lib.hid (by simp [kpI])
    go_enter Try.func35, Try.ntmps35
    go_wp2_with fail
    go_end0
    exact ⟨rfl, by rw [HE.out]; exact HA.out.store true, KB.set _ _ _ (.inr (.inr rfl))⟩
end Go.Proofs.Ytebkifhdbpeeoaa.Am
