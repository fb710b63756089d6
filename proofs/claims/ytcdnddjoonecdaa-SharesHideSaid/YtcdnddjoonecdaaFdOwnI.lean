/-
  Appending numbers to a list of the call's own, beside a second list of the call's own (layer 6).
-/
import Derived.Test.YtcdnddjoonecdaaFdOwn
set_option linter.unusedVariables false
set_option maxRecDepth 100000
namespace Go.Proofs.Ytcdnddjoonecdaa
open Go.RowKit
open Fdp
theorem wp_catI (w : World) {o : Oper} {a : Act} {K : Act → World → Prop} {Q : Exit → Act → World → Prop} (s x : Operand)
    (ho : o.op = .call { callee := .builtin .append, args := #[s, x], argTypes := #[22, 22] })
    (B : Nat) (u : Value) (P L : List Int) (b : Option Addr) (m c : Nat) (hs : a.eval s = u) (hx : a.eval x = .slice b m c) (h1 : OwnI B w u P) (h2 : IntsAt w b m L) (hnone : b = none → m = 0 ∧ c = 0)
    (hn : P.length + m ≤ 1000000) (hB : B ≤ w.heap.size)
    (h : ∀ v' w', OwnI B w' v' (P ++ L) → w.grownBy w' u.ownBlock → (v'.ownBlock = u.ownBlock ∨ v'.ownBlock = some w.heap.size) → K (a.put o.dst v') w') : o.wp Try.prog a w K Q := by
  obtain ⟨i0, hi0, hz0, hz1, hz2⟩ := info_parts infoI
  obtain ⟨v', w', hr, e1, e2, e5⟩ := run_catG w B 22 o.type 3 i0 (.int .i64 0) 1 8 Try.underlying22 hi0 hz0 hz1 hz2 rfl (by decide) u P.length (cellsI P) h1 b m c (cellsI L) (by simp [cellsI, h2.len])
    (fun ad e j v hj => by
      have hjl : j < L.length := by have := (List.getElem?_eq_some_iff.1 hj).1; simpa [cellsI] using this
      obtain ⟨b', off, e', hc⟩ := h2.cells (by have := h2.len; omega)
      rw [e] at e'
      cases e'
      rw [add_none, hc j hjl]
      simpa [cellsI, hjl] using hj) hnone one_cells (by unfold maxLen; omega) (by omega) hB
  have hO : OwnI B w' v' (P ++ L) := by
    have e3 : (P ++ L).length = P.length + m := by rw [List.length_append, ← h2.len]
    have e4 : cellsI (P ++ L) = cellsI P ++ cellsI L := by simp [cellsI]
    show w'.ownsRow B 3 1 v' (P ++ L).length (cellsI (P ++ L))
    rw [e3, e4]; exact e1
  unfold Oper.wp execOp
  simp only [ho, resolve, invoke, builtin, Sem.run_bind, Sem.run_pure, Result.andThen_ok, List.map_toArray, List.map_cons, List.map_nil, hs, hx, hr]
  exact h v' w' hO e2 e5
theorem wpList_catI (w : World) {ops : Array Oper} {rest : List Oper} {o : Oper} {a : Act} {Q : Exit → Act → World → Prop} (hgd : o.guard = none) (s x : Operand)
    (ho : o.op = .call { callee := .builtin .append, args := #[s, x], argTypes := #[22, 22] })
    (B : Nat) (u : Value) (P L : List Int) (b : Option Addr) (m c : Nat) (hs : a.eval s = u) (hx : a.eval x = .slice b m c) (h1 : OwnI B w u P) (h2 : IntsAt w b m L) (hnone : b = none → m = 0 ∧ c = 0)
    (hn : P.length + m ≤ 1000000) (hB : B ≤ w.heap.size)
    (h : ∀ v' w', OwnI B w' v' (P ++ L) → w.grownBy w' u.ownBlock → (v'.ownBlock = u.ownBlock ∨ v'.ownBlock = some w.heap.size) → wpList Try.prog ops Q rest (a.put o.dst v') w') : wpList Try.prog ops Q (o :: rest) a w :=
  wpList_plain hgd fun _ hK => wp_catI w s x ho B u P L b m c hs hx h1 h2 hnone hn hB fun v' w' h3 h4 h5 => hK _ _ (h v' w' h3 h4 h5)
theorem step_catI (w : World) {ops : Array Oper} {o : Oper} {a : Act} {K : Act → World → Prop} {Q : Exit → Act → World → Prop} {E : Prop} (hgd : o.guard = none) (s x : Operand)
    (ho : o.op = .call { callee := .builtin .append, args := #[s, x], argTypes := #[22, 22] })
    (B : Nat) (u : Value) (P L : List Int) (b : Option Addr) (m c : Nat) (hs : a.eval s = u) (hx : a.eval x = .slice b m c) (h1 : OwnI B w u P) (h2 : IntsAt w b m L) (hnone : b = none → m = 0 ∧ c = 0)
    (hn : P.length + m ≤ 1000000) (hB : B ≤ w.heap.size)
    (h : ∀ v' w', OwnI B w' v' (P ++ L) → w.grownBy w' u.ownBlock → (v'.ownBlock = u.ownBlock ∨ v'.ownBlock = some w.heap.size) → K (a.put o.dst v') w') :
    if Region.wanted o (yielded ops a.tmps) = true then Oper.wp Try.prog o a w K Q else E := by
  have hw : Region.wanted o (yielded ops a.tmps) = true := by simp [Region.wanted, hgd]
  rw [if_pos hw]
  exact wp_catI w s x ho B u P L b m c hs hx h1 h2 hnone hn hB h
theorem own_emptyI {B g : Nat} {w : World} (h : w.heap[g]? = some (.cells #[] 3 (0, 0))) (hB : B ≤ g) : OwnI B w (.slice (some ⟨g, 0, none⟩) 0 0) [] :=
  ⟨rfl, .inr ⟨g, 0, #[], rfl, hB, h, Nat.le_refl _, Nat.zero_le _, rfl, rfl⟩⟩
/-- two lists of the call's own, in different blocks -/
structure Two (B : Nat) (w : World) (s m : Value) (S M : List Int) : Prop where
  sO : OwnI B w s S
  mO : OwnI B w m M
  dis : ∀ g, s.ownBlock = some g → m.ownBlock ≠ some g
theorem Two.nil (B : Nat) (w : World) : Two B w (.slice none 0 0) (.slice none 0 0) [] [] := ⟨World.ownsRow_nil _ _ _ _, World.ownsRow_nil _ _ _ _, fun g h => by simp [Value.ownBlock] at h⟩
theorem Two.bel {B : Nat} {w w' : World} {s m : Value} {S M : List Int} (h : Two B w s m S M) (hb : Below w.heap.size w w') : Two B w' s m S M := ⟨own_bel h.sO hb, own_bel h.mO hb, h.dis⟩
theorem Two.appS {B : Nat} {w w' : World} {s m s' : Value} {S M S' : List Int} (h : Two B w s m S M) (hO : OwnI B w' s' S') (hg : w.grownBy w' s.ownBlock) (ha : s'.ownBlock = s.ownBlock ∨ s'.ownBlock = some w.heap.size) : Two B w' s' m S' M :=
  ⟨hO, World.ownsRow.kept h.mO hg (by
    cases e : m.ownBlock with
    | none => exact .inl rfl
    | some g => right; intro e2; exact h.dis g e2.symm e), fun g e1 e2 => by
    rcases ha with ha | ha
    · exact h.dis g (ha ▸ e1) e2
    · have := (World.ownsRow.lt h.mO g e2).2
      rw [ha] at e1
      cases e1
      omega⟩
theorem Two.appM {B : Nat} {w w' : World} {s m m' : Value} {S M M' : List Int} (h : Two B w s m S M) (hO : OwnI B w' m' M') (hg : w.grownBy w' m.ownBlock) (ha : m'.ownBlock = m.ownBlock ∨ m'.ownBlock = some w.heap.size) : Two B w' s m' S M' :=
  ⟨World.ownsRow.kept h.sO hg (by
    cases e : s.ownBlock with
    | none => exact .inl rfl
    | some g => right; intro e2; exact h.dis g e e2.symm), hO, fun g e1 e2 => by
    rcases ha with ha | ha
    · exact h.dis g e1 (ha ▸ e2)
    · have := (World.ownsRow.lt h.sO g e1).2
      rw [ha] at e2
      cases e2
      omega⟩
end Go.Proofs.Ytcdnddjoonecdaa
