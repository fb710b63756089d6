/-
  Appending one list of strings of the call's own to another, empty or not: one law for both, in a region that draws and in one that doesn't.
-/
import Derived.Test.YtbiekbppenccdaaDoorTreePath
import Derived.Laws.OwnMore
set_option linter.unusedVariables false
namespace Go.Proofs.YtbiekbppenccdaaDoor
open Go.RowKit
theorem OwnS.size_eq {B : Nat} {w : World} {v : Value} {ss : List ByteArray} (h : OwnS B w v ss) : v.ownBlock = none ∨ ∃ g, v.ownBlock = some g ∧ B ≤ g ∧ g < w.heap.size := by
  cases e : v.ownBlock with
  | none => exact .inl rfl
  | some g => exact .inr ⟨g, rfl, World.ownsRow.lt (w := w) (base := B) h g e⟩
theorem OwnS.not_new {B : Nat} {w : World} {v : Value} {ss : List ByteArray} (h : OwnS B w v ss) {k : Nat} (hk : w.heap.size ≤ k) : v.ownBlock ≠ some k := by
  rcases h.size_eq with e | ⟨g, e, _, h2⟩
  · rw [e]; simp
  · rw [e]; intro e'; have := Option.some.inj e'; omega
theorem OwnS.not_low {B : Nat} {w : World} {v : Value} {ss : List ByteArray} (h : OwnS B w v ss) {k : Nat} (hk : k < B) : v.ownBlock ≠ some k := by
  rcases h.size_eq with e | ⟨g, e, h1, _⟩
  · rw [e]; simp
  · rw [e]; intro e'; have := Option.some.inj e'; omega
/-- a list of one string, just laid -/
theorem own_lit (w : World) (R : ByteArray) : OwnS 0 (w.alloc (Obj.cells #[Value.string R] 9)) (.slice (some ⟨w.heap.size, 0, none⟩) 1 1) [R] :=
  World.ownsRow_lit w #[Value.string R] 1 (Nat.zero_le _) (by unfold maxLen; omega) rfl
theorem own_lit0 (w : World) : OwnS 0 (w.alloc (Obj.cells #[] 9)) (.slice (some ⟨w.heap.size, 0, none⟩) 0 0) [] :=
  World.ownsRow_lit w #[] 0 (Nat.zero_le _) (by unfold maxLen; omega) rfl
theorem OwnS.grown {B : Nat} {w w' : World} {v : Value} {ss : List ByteArray} {row : Option Nat} (h : OwnS B w v ss) (hg : w.grownBy w' row) (hne : v.ownBlock ≠ row) : OwnS B w' v ss := World.ownsRow.kept h hg (.inr hne)
theorem run_lists (w : World) (ty : TypeId) (B B2 : Nat) (u1 u2 : Value) (P1 P2 : List ByteArray) (h1 : OwnS B w u1 P1) (h2 : OwnS B2 w u2 P2) (hn : P1.length + P2.length ≤ 1099511627776) (hB : B ≤ w.heap.size) :
    ∃ v' w', (Builtin.append_ #[22, 22] ty #[u1, u2]).run Tryd.prog w = .ok v' w' ∧ OwnS B w' v' (P1 ++ P2) ∧ w.grownBy w' u1.ownBlock := by
  obtain ⟨i0, hi0, hz0, hz1, hz2⟩ := info_parts infoStr
  have conv : ∀ {w' : World} {v' : Value}, w'.ownsRow B 9 1 v' (P1.length + P2.length) (P1.map Value.string ++ P2.map Value.string) → OwnS B w' v' (P1 ++ P2) := fun h => by
    unfold OwnS
    rw [List.length_append, List.map_append]
    exact h
  rcases h2.2 with ⟨rfl, h0⟩ | ⟨g, cap, cur, rfl, _⟩
  · obtain rfl : P2 = [] := List.eq_nil_of_length_eq_zero h0
    refine ⟨u1, w, run_append_owned_none (P := Tryd.prog) w B 22 ty 9 i0 1 Tryd.underlying22 hi0 u1 P1.length _ h1, ?_, ⟨rfl, rfl, rfl, Nat.le_refl _, fun _ _ _ => rfl⟩⟩
    rw [List.append_nil]; exact h1
  · obtain ⟨v', w', e1, e2, e3, _⟩ := run_append_own (P := Tryd.prog) w B 22 ty 9 i0 (.string ⟨#[]⟩) 1 16 Tryd.underlying22 hi0 hz0 hz1 hz2 rfl (by decide) u1 P1.length _ h1 ⟨g, 0, none⟩ P2.length cap (P2.map Value.string)
      (by simp) (fun j u hj => by
        have hj' : j < P2.length := by
          have := (List.getElem?_eq_some_iff.1 hj).1
          simpa using this
        have hadd : (⟨g, 0, none⟩ : Addr).add j = ⟨g, j, none⟩ := by unfold Addr.add; split <;> simp_all
        rw [hadd, World.ownsRow.cellAt h2 j (by omega)]
        exact hj) (by intro u hu; simp only [List.mem_map] at hu; obtain ⟨s, _, rfl⟩ := hu; rfl) (by unfold maxLen; omega) (by omega) hB
    exact ⟨v', w', e1, conv e2, e3⟩
theorem wp_cat (w : World) {o : Oper} {a : Act} {K : Act → World → Prop} {Q : Exit → Act → World → Prop} (s x : Operand)
    (ho : o.op = .call { callee := .builtin .append, args := #[s, x], argTypes := #[22, 22] })
    (B B2 : Nat) (u1 u2 : Value) (P1 P2 : List ByteArray) (hs : a.eval s = u1) (hx : a.eval x = u2) (h1 : OwnS B w u1 P1) (h2 : OwnS B2 w u2 P2) (hn : P1.length + P2.length ≤ 1099511627776) (hB : B ≤ w.heap.size)
    (h : ∀ v' w', OwnS B w' v' (P1 ++ P2) → w.grownBy w' u1.ownBlock → K (a.put o.dst v') w') : o.wp Tryd.prog a w K Q := by
  obtain ⟨v', w', hr, e1, e2⟩ := run_lists w o.type B B2 u1 u2 P1 P2 h1 h2 hn hB
  unfold Oper.wp execOp
  simp only [ho, resolve, invoke, builtin, Sem.run_bind, Sem.run_pure, Result.andThen_ok, List.map_toArray, List.map_cons, List.map_nil, hs, hx, hr]
  exact h v' w' e1 e2
/-- at the list of a plain region's operations -/
theorem wpList_cat (w : World) {ops : Array Oper} {rest : List Oper} {o : Oper} {a : Act} {Q : Exit → Act → World → Prop} (hgd : o.guard = none) (s x : Operand)
    (ho : o.op = .call { callee := .builtin .append, args := #[s, x], argTypes := #[22, 22] })
    (B B2 : Nat) (u1 u2 : Value) (P1 P2 : List ByteArray) (hs : a.eval s = u1) (hx : a.eval x = u2) (h1 : OwnS B w u1 P1) (h2 : OwnS B2 w u2 P2) (hn : P1.length + P2.length ≤ 1099511627776) (hB : B ≤ w.heap.size)
    (h : ∀ v' w', OwnS B w' v' (P1 ++ P2) → w.grownBy w' u1.ownBlock → wpList Tryd.prog ops Q rest (a.put o.dst v') w') : wpList Tryd.prog ops Q (o :: rest) a w :=
  wpList_plain hgd fun _ hK => wp_cat w s x ho B B2 u1 u2 P1 P2 hs hx h1 h2 hn hB fun v' w' h3 h4 => hK _ _ (h v' w' h3 h4)
/-- at the list of a plain region's operations, where the operation is guarded and wanted -/
theorem wpList_cat_if (w : World) {ops : Array Oper} {rest : List Oper} {o : Oper} {a : Act} {Q : Exit → Act → World → Prop} (hgd : Region.wanted o (yielded ops a.tmps) = true) (s x : Operand)
    (ho : o.op = .call { callee := .builtin .append, args := #[s, x], argTypes := #[22, 22] })
    (B B2 : Nat) (u1 u2 : Value) (P1 P2 : List ByteArray) (hs : a.eval s = u1) (hx : a.eval x = u2) (h1 : OwnS B w u1 P1) (h2 : OwnS B2 w u2 P2) (hn : P1.length + P2.length ≤ 1099511627776) (hB : B ≤ w.heap.size)
    (h : ∀ v' w', OwnS B w' v' (P1 ++ P2) → w.grownBy w' u1.ownBlock → wpList Tryd.prog ops Q rest (a.put o.dst v') w') : wpList Tryd.prog ops Q (o :: rest) a w := by
  unfold wpList
  rw [if_pos hgd]
  exact .inl (wp_cat w s x ho B B2 u1 u2 P1 P2 hs hx h1 h2 hn hB h)
/-- at a step of a region that draws its order -/
theorem step_cat (w : World) {ops : Array Oper} {o : Oper} {a : Act} {K : Act → World → Prop} {Q : Exit → Act → World → Prop} {E : Prop} (hgd : o.guard = none) (s x : Operand)
    (ho : o.op = .call { callee := .builtin .append, args := #[s, x], argTypes := #[22, 22] })
    (B B2 : Nat) (u1 u2 : Value) (P1 P2 : List ByteArray) (hs : a.eval s = u1) (hx : a.eval x = u2) (h1 : OwnS B w u1 P1) (h2 : OwnS B2 w u2 P2) (hn : P1.length + P2.length ≤ 1099511627776) (hB : B ≤ w.heap.size)
    (h : ∀ v' w', OwnS B w' v' (P1 ++ P2) → w.grownBy w' u1.ownBlock → K (a.put o.dst v') w') :
    if Region.wanted o (yielded ops a.tmps) = true then Oper.wp Tryd.prog o a w K Q else E := by
  have hw : Region.wanted o (yielded ops a.tmps) = true := by simp [Region.wanted, hgd]
  rw [if_pos hw]
  exact wp_cat w s x ho B B2 u1 u2 P1 P2 hs hx h1 h2 hn hB h
end Go.Proofs.YtbiekbppenccdaaDoor
