/-
  Lists of shares in memory (layer 7): a share lies as a point does.
-/
import Derived.Test.YtcdnddjoonecdaaFdOwnI
import Derived.Test.YtcdnddjoonecdaaShHide
set_option linter.unusedVariables false
set_option maxRecDepth 100000
namespace Go.Proofs.Ytcdnddjoonecdaa
open Go.RowKit
open Fdp
abbrev OwnSh (B : Nat) (w : World) (v : Value) (l : List (Int × Int)) : Prop := w.ownsRow B 38 2 v l.length (cellsP l)
theorem infoSh : (Try.prog.info? 38).map (fun i => (i.zero, i.size, i.bytes)) = some (some (.agg #[.int .i64 0, .int .i64 0]), 2, 16) := by kernel_rfl
theorem OwnSh.at {B : Nat} {w : World} {v : Value} {l : List (Int × Int)} (h : OwnSh B w v l) : ∃ a cap, v = .slice a l.length cap ∧ l.length ≤ cap ∧ cap ≤ maxLen ∧ PtsAt w a l.length l := by
  rcases h.2 with ⟨rfl, h0⟩ | ⟨g, cap, cur, rfl, h1, h2, h3, h4, h5, h6⟩
  · obtain rfl : l = [] := List.eq_nil_of_length_eq_zero h0
    exact ⟨none, 0, rfl, by simp, by unfold maxLen; omega, pts_nil w⟩
  · refine ⟨_, cap, rfl, h3, h4, rfl, fun _ => ⟨g, 0, rfl, fun j hj => ?_⟩⟩
    have := cellsP_get l j hj
    rw [Nat.zero_add, World.ownsRow.cellAt h (j * 2) (by omega), World.ownsRow.cellAt h (j * 2 + 1) (by omega)]
    exact this
theorem OwnSh.at2 {B n : Nat} {w : World} {v : Value} {l : List (Int × Int)} (h : OwnSh B w v l) (hn : n = l.length) : ∃ a cap, v = .slice a n cap ∧ n ≤ cap ∧ cap ≤ maxLen ∧ PtsAt w a n l := by
  subst hn; exact h.at
theorem wp_catSh (w : World) {o : Oper} {a : Act} {K : Act → World → Prop} {Q : Exit → Act → World → Prop} (s x : Operand)
    (ho : o.op = .call { callee := .builtin .append, args := #[s, x], argTypes := #[26, 26] })
    (B : Nat) (u : Value) (P L : List (Int × Int)) (b : Option Addr) (m c : Nat) (hs : a.eval s = u) (hx : a.eval x = .slice b m c) (h1 : OwnSh B w u P) (h2 : PtsAt w b m L) (hnone : b = none → m = 0 ∧ c = 0)
    (hn : P.length + m ≤ 1000000) (hB : B ≤ w.heap.size)
    (h : ∀ v' w', OwnSh B w' v' (P ++ L) → w.grownBy w' u.ownBlock → K (a.put o.dst v') w') : o.wp Try.prog a w K Q := by
  obtain ⟨i0, hi0, hz0, hz1, hz2⟩ := info_parts infoSh
  obtain ⟨v', w', hr, e1, e2, _⟩ := run_catG w B 26 o.type 38 i0 (.agg #[.int .i64 0, .int .i64 0]) 2 16 Try.underlying26 hi0 hz0 hz1 hz2 rfl (by decide) u P.length (cellsP P) h1 b m c (cellsP L) (by rw [cellsP_len, h2.len])
    (fun ad e j v hj => by
      have hjl : j < L.length * 2 := by have := (List.getElem?_eq_some_iff.1 hj).1; rwa [cellsP_len] at this
      obtain ⟨b', off, e', hc⟩ := h2.cells (by have := h2.len; omega)
      rw [e] at e'
      cases e'
      obtain ⟨k, hk⟩ : ∃ k, k = j / 2 := ⟨_, rfl⟩
      have hkl : k < L.length := by omega
      have hg := cellsP_get L k hkl
      have hck := hc k hkl
      rw [add_none]
      rcases (by omega : j = k * 2 ∨ j = k * 2 + 1) with rfl | rfl
      · rw [hck.1, ← hg.1, hj]
      · rw [← Nat.add_assoc, hck.2, ← hg.2, hj]) hnone one_cellsP (by unfold maxLen; omega) (by omega) hB
  have hO : OwnSh B w' v' (P ++ L) := by
    have e3 : (P ++ L).length = P.length + m := by rw [List.length_append, ← h2.len]
    show w'.ownsRow B 38 2 v' (P ++ L).length (cellsP (P ++ L))
    rw [e3, cellsP_app]; exact e1
  unfold Oper.wp execOp
  simp only [ho, resolve, invoke, builtin, Sem.run_bind, Sem.run_pure, Result.andThen_ok, List.map_toArray, List.map_cons, List.map_nil, hs, hx, hr]
  exact h v' w' hO e2
theorem wpList_catSh (w : World) {ops : Array Oper} {rest : List Oper} {o : Oper} {a : Act} {Q : Exit → Act → World → Prop} (hgd : o.guard = none) (s x : Operand)
    (ho : o.op = .call { callee := .builtin .append, args := #[s, x], argTypes := #[26, 26] })
    (B : Nat) (u : Value) (P L : List (Int × Int)) (b : Option Addr) (m c : Nat) (hs : a.eval s = u) (hx : a.eval x = .slice b m c) (h1 : OwnSh B w u P) (h2 : PtsAt w b m L) (hnone : b = none → m = 0 ∧ c = 0)
    (hn : P.length + m ≤ 1000000) (hB : B ≤ w.heap.size)
    (h : ∀ v' w', OwnSh B w' v' (P ++ L) → w.grownBy w' u.ownBlock → wpList Try.prog ops Q rest (a.put o.dst v') w') : wpList Try.prog ops Q (o :: rest) a w :=
  wpList_plain hgd fun _ hK => wp_catSh w s x ho B u P L b m c hs hx h1 h2 hnone hn hB fun v' w' h3 h4 => hK _ _ (h v' w' h3 h4)
theorem step_catSh (w : World) {ops : Array Oper} {o : Oper} {a : Act} {K : Act → World → Prop} {Q : Exit → Act → World → Prop} {E : Prop} (hgd : o.guard = none) (s x : Operand)
    (ho : o.op = .call { callee := .builtin .append, args := #[s, x], argTypes := #[26, 26] })
    (B : Nat) (u : Value) (P L : List (Int × Int)) (b : Option Addr) (m c : Nat) (hs : a.eval s = u) (hx : a.eval x = .slice b m c) (h1 : OwnSh B w u P) (h2 : PtsAt w b m L) (hnone : b = none → m = 0 ∧ c = 0)
    (hn : P.length + m ≤ 1000000) (hB : B ≤ w.heap.size)
    (h : ∀ v' w', OwnSh B w' v' (P ++ L) → w.grownBy w' u.ownBlock → K (a.put o.dst v') w') :
    if Region.wanted o (yielded ops a.tmps) = true then Oper.wp Try.prog o a w K Q else E := by
  have hw : Region.wanted o (yielded ops a.tmps) = true := by simp [Region.wanted, hgd]
  rw [if_pos hw]
  exact wp_catSh w s x ho B u P L b m c hs hx h1 h2 hnone hn hB h
theorem sh_one (w : World) (a b : Int) {B : Nat} (hB : w.heap.size = B) : PtsAt (w.alloc (Obj.cells #[Value.int .i64 a, Value.int .i64 b] 38)) (some ⟨B, 0, none⟩) 1 [(a, b)] := by
  subst hB
  exact ⟨rfl, fun _ => ⟨_, _, rfl, fun j hj => by
    match j, hj with
    | 0, _ => exact ⟨by rw [Lib.cell_of_heap (heap_lastF _ _)]; rfl, by rw [Lib.cell_of_heap (heap_lastF _ _)]; rfl⟩⟩⟩
theorem sh_two (w : World) (a b c d : Int) {B : Nat} (hB : w.heap.size = B) : PtsAt (w.alloc (Obj.cells #[Value.int .i64 a, Value.int .i64 b, Value.int .i64 c, Value.int .i64 d] 38)) (some ⟨B, 0, none⟩) 2 [(a, b), (c, d)] := by
  subst hB
  exact ⟨rfl, fun _ => ⟨_, _, rfl, fun j hj => by
    match j, hj with
    | 0, _ => exact ⟨by rw [Lib.cell_of_heap (heap_lastF _ _)]; rfl, by rw [Lib.cell_of_heap (heap_lastF _ _)]; rfl⟩
    | 1, _ => exact ⟨by rw [Lib.cell_of_heap (heap_lastF _ _)]; rfl, by rw [Lib.cell_of_heap (heap_lastF _ _)]; rfl⟩⟩⟩
theorem sh_three (w : World) (a b c d e f : Int) {B : Nat} (hB : w.heap.size = B) : PtsAt (w.alloc (Obj.cells #[Value.int .i64 a, Value.int .i64 b, Value.int .i64 c, Value.int .i64 d, Value.int .i64 e, Value.int .i64 f] 38)) (some ⟨B, 0, none⟩) 3 [(a, b), (c, d), (e, f)] := by
  subst hB
  exact ⟨rfl, fun _ => ⟨_, _, rfl, fun j hj => by
    match j, hj with
    | 0, _ => exact ⟨by rw [Lib.cell_of_heap (heap_lastF _ _)]; rfl, by rw [Lib.cell_of_heap (heap_lastF _ _)]; rfl⟩
    | 1, _ => exact ⟨by rw [Lib.cell_of_heap (heap_lastF _ _)]; rfl, by rw [Lib.cell_of_heap (heap_lastF _ _)]; rfl⟩
    | 2, _ => exact ⟨by rw [Lib.cell_of_heap (heap_lastF _ _)]; rfl, by rw [Lib.cell_of_heap (heap_lastF _ _)]; rfl⟩⟩⟩
end Go.Proofs.Ytcdnddjoonecdaa
