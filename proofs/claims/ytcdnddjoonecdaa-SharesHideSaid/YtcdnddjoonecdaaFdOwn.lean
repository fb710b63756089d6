/-
  Lists of numbers and of points of the call's own; appending a list, of whatever place, to one of the call's own (layer 6).
-/
import Derived.Test.YtcdnddjoonecdaaFdRefI
import Derived.Deep.RegionHeld3
import Derived.Deep.RegionLaw
import Derived.Deep.AppendLies
import Derived.Maps.AppendAt
set_option linter.unusedVariables false
set_option maxRecDepth 100000
namespace Go.Proofs.Ytcdnddjoonecdaa
open Go.RowKit
open Fdp
def cellsI (l : List Int) : List Value := l.map fun x : Int => Value.int .i64 x
def cellsP (l : List (Int × Int)) : List Value := l.flatMap fun q => [Value.int .i64 q.1, Value.int .i64 q.2]
theorem cellsP_len : ∀ l : List (Int × Int), (cellsP l).length = l.length * 2
  | [] => rfl
  | q :: l => by
    have ih := cellsP_len l
    unfold cellsP at ih ⊢
    rw [List.flatMap_cons, List.length_append, ih, List.length_cons, List.length_cons, List.length_cons, List.length_nil]; omega
theorem cellsP_app (l m : List (Int × Int)) : cellsP (l ++ m) = cellsP l ++ cellsP m := by simp [cellsP]
theorem cellsP_get : ∀ (l : List (Int × Int)) (j : Nat) (hj : j < l.length), (cellsP l)[j * 2]? = some (.int .i64 l[j].1) ∧ (cellsP l)[j * 2 + 1]? = some (.int .i64 l[j].2)
  | q :: l, 0, _ => ⟨rfl, rfl⟩
  | q :: l, j + 1, hj => by
    have ih := cellsP_get l j (by simpa using hj)
    have e : cellsP (q :: l) = [Value.int .i64 q.1, Value.int .i64 q.2] ++ cellsP l := rfl
    rw [e, show (j + 1) * 2 = j * 2 + 2 by omega]
    refine ⟨?_, ?_⟩
    · rw [List.getElem?_append_right (by simp)]; simpa using ih.1
    · rw [List.getElem?_append_right (by simp)]; simpa using ih.2
theorem one_cells {l : List Int} : ∀ u ∈ cellsI l, u.oneCell' = true := by
  intro u hu; obtain ⟨x, _, rfl⟩ := List.mem_map.1 hu; rfl
theorem one_cellsP {l : List (Int × Int)} : ∀ u ∈ cellsP l, u.oneCell' = true := by
  intro u hu
  obtain ⟨q, _, h⟩ := List.mem_flatMap.1 hu
  simp at h
  rcases h with rfl | rfl <;> rfl
abbrev OwnI (B : Nat) (w : World) (v : Value) (l : List Int) : Prop := w.ownsRow B 3 1 v l.length (cellsI l)
abbrev OwnP (B : Nat) (w : World) (v : Value) (l : List (Int × Int)) : Prop := w.ownsRow B 35 2 v l.length (cellsP l)
theorem add_none (b o j : Nat) : (⟨b, o, none⟩ : Addr).add j = ⟨b, o + j, none⟩ := by unfold Addr.add; split <;> simp_all
theorem OwnI.at {B : Nat} {w : World} {v : Value} {l : List Int} (h : OwnI B w v l) : ∃ a cap, v = .slice a l.length cap ∧ l.length ≤ cap ∧ cap ≤ maxLen ∧ IntsAt w a l.length l := by
  rcases h.2 with ⟨rfl, h0⟩ | ⟨g, cap, cur, rfl, h1, h2, h3, h4, h5, h6⟩
  · obtain rfl : l = [] := List.eq_nil_of_length_eq_zero h0
    exact ⟨none, 0, rfl, by simp, by unfold maxLen; omega, ints_nil w⟩
  · refine ⟨_, cap, rfl, h3, h4, rfl, fun _ => ⟨g, 0, rfl, fun j hj => ?_⟩⟩
    rw [Nat.zero_add, World.ownsRow.cellAt h j (by omega)]
    simp [cellsI, hj]
theorem OwnP.at {B : Nat} {w : World} {v : Value} {l : List (Int × Int)} (h : OwnP B w v l) : ∃ a cap, v = .slice a l.length cap ∧ l.length ≤ cap ∧ cap ≤ maxLen ∧ PtsAt w a l.length l := by
  rcases h.2 with ⟨rfl, h0⟩ | ⟨g, cap, cur, rfl, h1, h2, h3, h4, h5, h6⟩
  · obtain rfl : l = [] := List.eq_nil_of_length_eq_zero h0
    exact ⟨none, 0, rfl, by simp, by unfold maxLen; omega, pts_nil w⟩
  · refine ⟨_, cap, rfl, h3, h4, rfl, fun _ => ⟨g, 0, rfl, fun j hj => ?_⟩⟩
    have := cellsP_get l j hj
    rw [Nat.zero_add, World.ownsRow.cellAt h (j * 2) (by omega), World.ownsRow.cellAt h (j * 2 + 1) (by omega)]
    exact this
theorem OwnP.at2 {B n : Nat} {w : World} {v : Value} {l : List (Int × Int)} (h : OwnP B w v l) (hn : n = l.length) : ∃ a cap, v = .slice a n cap ∧ n ≤ cap ∧ cap ≤ maxLen ∧ PtsAt w a n l := by
  subst hn; exact h.at
theorem OwnI.at2 {B n : Nat} {w : World} {v : Value} {l : List Int} (h : OwnI B w v l) (hn : n = l.length) : ∃ a cap, v = .slice a n cap ∧ n ≤ cap ∧ cap ≤ maxLen ∧ IntsAt w a n l := by
  subst hn; exact h.at
theorem own_bel {B sz : Nat} {e : TypeId} {w w' : World} {v : Value} {n : Nat} {xs : List Value} (h : w.ownsRow B e sz v n xs) (hb : Below w.heap.size w w') : w'.ownsRow B e sz v n xs := by
  refine World.ownsRow.kept (row := some w.heap.size) h ⟨hb.os, hb.tape, hb.output, hb.size, fun k hk _ => hb.block k hk⟩ ?_
  cases e : v.ownBlock with
  | none => exact .inl rfl
  | some g =>
    right
    have := (World.ownsRow.lt h g e).2
    intro h'
    cases h'
    omega
theorem own_drewN {B sz : Nat} {e : TypeId} {w : World} {v : Value} {n : Nat} {xs : List Value} (h : w.ownsRow B e sz v n xs) (k : Nat) : (w.drewN k).ownsRow B e sz v n xs := own_bel h (below_drewN (Below.refl _ _) k)
/-- what was appended to lies where the call's own memory lies -/
theorem below_app {B sz : Nat} {e : TypeId} {w0 w w' : World} {v : Value} {n : Nat} {xs : List Value} (hb : Below B w0 w) (hB : B ≤ w.heap.size) (h : w.ownsRow B e sz v n xs) (hg : w.grownBy w' v.ownBlock) : Below B w0 w' :=
  hb.grown hg hB fun k hk => (World.ownsRow.lt h k hk).1
theorem infoP : (Try.prog.info? 35).map (fun i => (i.zero, i.size, i.bytes)) = some (some (.agg #[.int .i64 0, .int .i64 0]), 2, 16) := by kernel_rfl
/-- appending whatever list -/
theorem run_catG (w : World) (base : Nat) (t ty e : TypeId) (i : TypeInfo) (z : Value) (size bytes : Nat) (ht : Try.prog.underlying t = some (.slice e)) (hi : Try.prog.info? e = some i) (hz : i.zero = some z)
    (hsize : i.size = size) (hby : i.bytes = bytes) (hzs : z.cells.size = size) (hsz : 0 < size)
    (v : Value) (n : Nat) (xs : List Value) (hown : w.ownsRow base e size v n xs) (a : Option Addr) (m c : Nat) (news : List Value) (hl : news.length = m * size)
    (hnews : ∀ ad, a = some ad → ∀ j u, news[j]? = some u → w.cell? (ad.add j) = some u) (hnone : a = none → m = 0 ∧ c = 0) (h1 : ∀ u ∈ news, u.oneCell' = true)
    (h63 : n + m ≤ maxLen) (hbytes : (n + m) * bytes ≤ 140737488355328) (hbase : base ≤ w.heap.size) :
    ∃ v' w', (Builtin.append_ #[t, t] ty #[v, .slice a m c]).run Try.prog w = .ok v' w' ∧ w'.ownsRow base e size v' (n + m) (xs ++ news) ∧ w.grownBy w' v.ownBlock ∧ (v'.ownBlock = v.ownBlock ∨ v'.ownBlock = some w.heap.size) := by
  cases a with
  | none =>
    obtain ⟨rfl, rfl⟩ := hnone rfl
    obtain rfl : news = [] := List.eq_nil_of_length_eq_zero (by omega)
    exact ⟨v, w, run_append_owned_none (P := Try.prog) w base t ty e i size ht hi v n xs hown, by rw [List.append_nil]; exact hown, ⟨rfl, rfl, rfl, Nat.le_refl _, fun _ _ _ => rfl⟩, .inl rfl⟩
  | some ad =>
    obtain ⟨v', w', e1, e2, e3, _, e4⟩ := run_append_own_at (P := Try.prog) w base t ty e i z size bytes ht hi hz hsize hby hzs hsz v n xs hown ad m c news hl (hnews ad rfl) h1 h63 hbytes hbase
    exact ⟨v', w', e1, e2, e3, e4⟩
theorem wp_catP (w : World) {o : Oper} {a : Act} {K : Act → World → Prop} {Q : Exit → Act → World → Prop} (s x : Operand)
    (ho : o.op = .call { callee := .builtin .append, args := #[s, x], argTypes := #[36, 36] })
    (B : Nat) (u : Value) (P L : List (Int × Int)) (b : Option Addr) (m c : Nat) (hs : a.eval s = u) (hx : a.eval x = .slice b m c) (h1 : OwnP B w u P) (h2 : PtsAt w b m L) (hnone : b = none → m = 0 ∧ c = 0)
    (hn : P.length + m ≤ 1000000) (hB : B ≤ w.heap.size)
    (h : ∀ v' w', OwnP B w' v' (P ++ L) → w.grownBy w' u.ownBlock → K (a.put o.dst v') w') : o.wp Try.prog a w K Q := by
  obtain ⟨i0, hi0, hz0, hz1, hz2⟩ := info_parts infoP
  obtain ⟨v', w', hr, e1, e2, _⟩ := run_catG w B 36 o.type 35 i0 (.agg #[.int .i64 0, .int .i64 0]) 2 16 Try.underlying36 hi0 hz0 hz1 hz2 rfl (by decide) u P.length (cellsP P) h1 b m c (cellsP L) (by rw [cellsP_len, h2.len])
    (fun ad e j v hj => by
      have hjl : j < L.length * 2 := by have := (List.getElem?_eq_some_iff.1 hj).1; rwa [cellsP_len] at this
      obtain ⟨b', off, e', hc⟩ := h2.cells (by have := h2.len; omega)
      rw [e] at e'
      cases e'
      obtain ⟨k, hk⟩ : ∃ k, k = j / 2 := ⟨_, rfl⟩
      have hkl : k < L.length := by omega
      have hg := cellsP_get L k hkl
      have hck := hc k hkl
      rw [add_none]
      rcases (by omega : j = k * 2 ∨ j = k * 2 + 1) with rfl | rfl
      · rw [hck.1, ← hg.1, hj]
      · rw [← Nat.add_assoc, hck.2, ← hg.2, hj]) hnone one_cellsP (by unfold maxLen; omega) (by omega) hB
  have hO : OwnP B w' v' (P ++ L) := by
    have e3 : (P ++ L).length = P.length + m := by rw [List.length_append, ← h2.len]
    show w'.ownsRow B 35 2 v' (P ++ L).length (cellsP (P ++ L))
    rw [e3, cellsP_app]; exact e1
  unfold Oper.wp execOp
  simp only [ho, resolve, invoke, builtin, Sem.run_bind, Sem.run_pure, Result.andThen_ok, List.map_toArray, List.map_cons, List.map_nil, hs, hx, hr]
  exact h v' w' hO e2
theorem wpList_catP (w : World) {ops : Array Oper} {rest : List Oper} {o : Oper} {a : Act} {Q : Exit → Act → World → Prop} (hgd : o.guard = none) (s x : Operand)
    (ho : o.op = .call { callee := .builtin .append, args := #[s, x], argTypes := #[36, 36] })
    (B : Nat) (u : Value) (P L : List (Int × Int)) (b : Option Addr) (m c : Nat) (hs : a.eval s = u) (hx : a.eval x = .slice b m c) (h1 : OwnP B w u P) (h2 : PtsAt w b m L) (hnone : b = none → m = 0 ∧ c = 0)
    (hn : P.length + m ≤ 1000000) (hB : B ≤ w.heap.size)
    (h : ∀ v' w', OwnP B w' v' (P ++ L) → w.grownBy w' u.ownBlock → wpList Try.prog ops Q rest (a.put o.dst v') w') : wpList Try.prog ops Q (o :: rest) a w :=
  wpList_plain hgd fun _ hK => wp_catP w s x ho B u P L b m c hs hx h1 h2 hnone hn hB fun v' w' h3 h4 => hK _ _ (h v' w' h3 h4)
theorem step_catP (w : World) {ops : Array Oper} {o : Oper} {a : Act} {K : Act → World → Prop} {Q : Exit → Act → World → Prop} {E : Prop} (hgd : o.guard = none) (s x : Operand)
    (ho : o.op = .call { callee := .builtin .append, args := #[s, x], argTypes := #[36, 36] })
    (B : Nat) (u : Value) (P L : List (Int × Int)) (b : Option Addr) (m c : Nat) (hs : a.eval s = u) (hx : a.eval x = .slice b m c) (h1 : OwnP B w u P) (h2 : PtsAt w b m L) (hnone : b = none → m = 0 ∧ c = 0)
    (hn : P.length + m ≤ 1000000) (hB : B ≤ w.heap.size)
    (h : ∀ v' w', OwnP B w' v' (P ++ L) → w.grownBy w' u.ownBlock → K (a.put o.dst v') w') :
    if Region.wanted o (yielded ops a.tmps) = true then Oper.wp Try.prog o a w K Q else E := by
  have hw : Region.wanted o (yielded ops a.tmps) = true := by simp [Region.wanted, hgd]
  rw [if_pos hw]
  exact wp_catP w s x ho B u P L b m c hs hx h1 h2 hnone hn hB h
/-- a list of numbers as an argument -/
structure IntsOk (w : World) (v : Value) (l : List Int) : Prop where
  form : ∃ a cap, v = .slice a l.length cap ∧ l.length ≤ cap ∧ cap ≤ maxLen ∧ (a = none → cap = 0) ∧ IntsAt w a l.length l
/-- a list of points as an argument -/
structure PtsOk (w : World) (v : Value) (l : List (Int × Int)) : Prop where
  form : ∃ a cap, v = .slice a l.length cap ∧ l.length ≤ cap ∧ cap ≤ maxLen ∧ (a = none → cap = 0) ∧ PtsAt w a l.length l
end Go.Proofs.Ytcdnddjoonecdaa
