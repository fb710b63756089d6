/-
  The document's own Interpolate: pure facts (layer 6).
-/
import Derived.Test.YtcdnddjoonecdaaDoorFdInter
import Derived.Deep.RegionHeld3
import Derived.Deep.RegionLaw
import Derived.Deep.AppendLies
import Derived.Maps.AppendAt
set_option linter.unusedVariables false
set_option maxRecDepth 100000
namespace Go.Proofs.YtcdnddjoonecdaaDoor
open Go.RowKit
open Fdp
theorem interE_len {l : List (Int × Int)} {x : Int} (h : ¬ (1 ≤ l.length ∧ l.length ≤ 16)) : interE l x = (0, 1) := by
  unfold interE; rw [if_neg (by simp; intro h1 h2; exact absurd ⟨h1, h2⟩ h)]
theorem interE_x {l : List (Int × Int)} {x : Int} (h : okE x = false) : interE l x = (0, 1) := by
  unfold interE; rw [h, if_neg (by simp)]
theorem interE_p {l : List (Int × Int)} {x : Int} (h : pairsE l = false) : interE l x = (0, 1) := by
  unfold interE; rw [h, if_neg (by simp)]
theorem interE_twice {l : List (Int × Int)} {x : Int} (h : 1 ≤ l.length ∧ l.length ≤ 16) (hp : pairsE l = true) (hx : okE x = true) (hd : diffX (Xs l) = false) : interE l x = (0, 8) := by
  unfold interE; rw [hp, hx, hd, if_pos (by simpa using h), if_neg (by simp)]
theorem interE_ok {l : List (Int × Int)} {x : Int} (h : 1 ≤ l.length ∧ l.length ≤ 16) (hp : pairsE l = true) (hx : okE x = true) (hd : diffX (Xs l) = true) : interE l x = (interF l x, 0) := by
  unfold interE; rw [hp, hx, hd, if_pos (by simpa using h), if_pos rfl]
/-- the X of the first k points, without that of point i -/
def oth (l : List (Int × Int)) (i k : Nat) : List Int := ((Xs l).take k).eraseIdx i
theorem oth_zero (l : List (Int × Int)) (i : Nat) : oth l i 0 = [] := by simp [oth]
theorem oth_all (l : List (Int × Int)) (i : Nat) : oth l i l.length = (Xs l).eraseIdx i := by
  unfold oth; rw [List.take_of_length_le (by simp)]
theorem oth_skip {l : List (Int × Int)} {i : Nat} (hi : i < l.length) : oth l i (i + 1) = oth l i i := by
  unfold oth
  have hX : i < (Xs l).length := by simpa using hi
  rw [List.take_succ_eq_append_getElem hX, List.eraseIdx_append_of_length_le (by simp; omega)]
  have e : i - (List.take i (Xs l)).length = 0 := by simp; omega
  rw [e, List.eraseIdx_cons_zero, List.append_nil, List.eraseIdx_of_length_le (by simp; omega)]
theorem oth_next {l : List (Int × Int)} {i k : Nat} (hk : k < l.length) (hne : k ≠ i) : oth l i (k + 1) = oth l i k ++ [Xp l k] := by
  unfold oth
  have hX : k < (Xs l).length := by simpa using hk
  rw [List.take_succ_eq_append_getElem hX, Xp_get hk, show (Xs l)[k] = l[k].1 by simp]
  by_cases h : i < k
  · rw [List.eraseIdx_append_of_lt_length (by simp; omega)]
  · rw [List.eraseIdx_of_length_le (by simp; omega), List.eraseIdx_of_length_le (by simp; omega)]
theorem prodS_snoc (x k : Int) : ∀ l : List Int, prodS x (l ++ [k]) = prodS x l * (x - k)
  | [] => by simp [prodS]
  | a :: l => by
    have ih := prodS_snoc x k l
    show (x - a) * prodS x (l ++ [k]) = (x - a) * prodS x l * (x - k)
    rw [ih, Int.mul_assoc]
/-- what has been multiplied so far, for point i -/
structure Mults (l : List (Int × Int)) (x : Int) (i k : Nat) (u v : Int) : Prop where
  ur : 0 ≤ u ∧ u < 2147483647
  vr : 0 ≤ v ∧ v < 2147483647
  ue : E 2147483647 u (Yp l i * prodS x (oth l i k))
  ve : E 2147483647 v (prodS (Xp l i) (oth l i k))
theorem Mults.start {l : List (Int × Int)} {x y : Int} {i : Nat} (hy : y = Yp l i) (hr : 0 ≤ y ∧ y < 2147483647) : Mults l x i 0 y 1 :=
  ⟨hr, by omega, by rw [oth_zero]; exact E.of (by simp [prodS, hy]), by rw [oth_zero]; exact E.of (by simp [prodS])⟩
theorem Mults.skip {l : List (Int × Int)} {x u v : Int} {i : Nat} (h : Mults l x i i u v) (hi : i < l.length) : Mults l x i (i + 1) u v :=
  ⟨h.ur, h.vr, by rw [oth_skip hi]; exact h.ue, by rw [oth_skip hi]; exact h.ve⟩
theorem Mults.next {l : List (Int × Int)} {x u v a b : Int} {i k : Nat} (h : Mults l x i k u v) (hk : k < l.length) (hne : k ≠ i) (ha : a = Xp l i) (hb : b = Xp l k) :
    Mults l x i (k + 1) (mulF u (difF x b)) (mulF v (difF a b)) :=
  ⟨mulF_range _ _, mulF_range _ _, by
    rw [oth_next hk hne, prodS_snoc, ← hb]
    exact (mulF_E _ _).trans ((h.ue.mul (difF_E x b)).trans (E.of (Int.mul_assoc _ _ _))), by
    rw [oth_next hk hne, prodS_snoc, ← hb, ← ha]
    exact (mulF_E _ _).trans ((show E _ v (prodS a (oth l i k)) from by rw [ha]; exact h.ve).mul (difF_E a b))⟩
def LagS (l : List (Int × Int)) (x : Int) (i : Nat) (s : Int) : Prop := E 2147483647 s (lagN ivI l x i)
theorem LagS.start (l : List (Int × Int)) (x : Int) : LagS l x 0 0 := E.refl 0
theorem LagS.next {l : List (Int × Int)} {x s u v : Int} {i : Nat} (h : LagS l x i s) (hm : Mults l x i l.length u v) : LagS l x (i + 1) (sumF s (mulF u (ivI v))) := by
  unfold LagS at h ⊢
  have hu := hm.ue
  have hv := hm.ve
  rw [oth_all] at hu hv
  show E _ _ (lagN ivI l x i + term ivI (l.getD i (0, 0)) ((Xs l).eraseIdx i) x)
  refine (sumF_E _ _).trans (h.add ((mulF_E _ _).trans ?_))
  show E _ _ (Yp l i * prodS x ((Xs l).eraseIdx i) * ivI (prodS (Xp l i) ((Xs l).eraseIdx i)))
  rw [ivI_E hv]
  exact hu.mul (E.refl _)
theorem LagS.done {l : List (Int × Int)} {x s : Int} (h : LagS l x l.length s) (hs : 0 ≤ s ∧ s < 2147483647) : s = interF l x :=
  (E.trans h (interF_E l x).symm).eq hs.1 hs.2 (interF_range l x).1 (interF_range l x).2
/-- so far no X is that of another point -/
def Apart (l : List (Int × Int)) (i m : Nat) : Prop := ∀ p q, p < l.length → q < l.length → p ≠ q → (p < i ∨ (p = i ∧ q < m)) → Xp l p ≠ Xp l q
theorem Apart.start (l : List (Int × Int)) : Apart l 0 0 := fun p q _ _ _ h => by omega
theorem Apart.skip {l : List (Int × Int)} {i : Nat} (h : Apart l i i) : Apart l i (i + 1) := fun p q hp hq hne h' => h p q hp hq hne (by omega)
theorem Apart.next {l : List (Int × Int)} {i k : Nat} (h : Apart l i k) (hne : Xp l i ≠ Xp l k) : Apart l i (k + 1) := fun p q hp hq hpq h' => by
  by_cases e : p = i ∧ q = k
  · obtain ⟨rfl, rfl⟩ := e; exact hne
  · exact h p q hp hq hpq (by omega)
theorem Apart.row {l : List (Int × Int)} {i : Nat} (h : Apart l i l.length) : Apart l (i + 1) 0 := fun p q hp hq hne h' => h p q hp hq hne (by omega)
theorem Apart.done {l : List (Int × Int)} (h : Apart l l.length 0) : diffX (Xs l) = true := by
  unfold diffX
  rw [decide_eq_true_iff, List.pairwise_iff_getElem]
  intro i j hi hj hlt
  have hi' : i < l.length := by simpa using hi
  have hj' : j < l.length := by simpa using hj
  have := h i j hi' hj' (by omega) (.inl hi')
  rw [Xp_get hi', Xp_get hj'] at this
  simpa using this
theorem apart_no {l : List (Int × Int)} {i k : Nat} (hi : i < l.length) (hk : k < l.length) (hne : k ≠ i) (h : Xp l k = Xp l i) : diffX (Xs l) = false := by
  rw [Xp_get hi, Xp_get hk] at h
  rcases Nat.lt_or_gt_of_ne hne with h' | h'
  · exact Dif.no (k := i) (m := k) (by simpa using hi) (by simpa using hk) h' (by simpa using h.symm)
  · exact Dif.no (k := k) (m := i) (by simpa using hk) (by simpa using hi) h' (by simpa using h)
end Go.Proofs.YtcdnddjoonecdaaDoor

/-
  The document's own Interpolate (layer 6).
-/
set_option linter.unusedVariables false
set_option maxRecDepth 100000
namespace Go.Proofs.YtcdnddjoonecdaaDoor
open Go.RowKit
open Fdp
end Go.Proofs.YtcdnddjoonecdaaDoor

/-
  Lists of numbers and of points of the call's own; appending a list, of whatever place, to one of the call's own (layer 6).
-/
set_option linter.unusedVariables false
set_option maxRecDepth 100000
namespace Go.Proofs.YtcdnddjoonecdaaDoor
open Go.RowKit
open Fdp
def cellsI (l : List Int) : List Value := l.map fun x : Int => Value.int .i64 x
def cellsP (l : List (Int × Int)) : List Value := l.flatMap fun q => [Value.int .i64 q.1, Value.int .i64 q.2]
theorem cellsP_len : ∀ l : List (Int × Int), (cellsP l).length = l.length * 2
  | [] => rfl
  | q :: l => by
    have ih := cellsP_len l
    unfold cellsP at ih ⊢
    rw [List.flatMap_cons, List.length_append, ih, List.length_cons, List.length_cons, List.length_cons, List.length_nil]; omega
theorem cellsP_app (l m : List (Int × Int)) : cellsP (l ++ m) = cellsP l ++ cellsP m := by simp [cellsP]
theorem cellsP_get : ∀ (l : List (Int × Int)) (j : Nat) (hj : j < l.length), (cellsP l)[j * 2]? = some (.int .i64 l[j].1) ∧ (cellsP l)[j * 2 + 1]? = some (.int .i64 l[j].2)
  | q :: l, 0, _ => ⟨rfl, rfl⟩
  | q :: l, j + 1, hj => by
    have ih := cellsP_get l j (by simpa using hj)
    have e : cellsP (q :: l) = [Value.int .i64 q.1, Value.int .i64 q.2] ++ cellsP l := rfl
    rw [e, show (j + 1) * 2 = j * 2 + 2 by omega]
    refine ⟨?_, ?_⟩
    · rw [List.getElem?_append_right (by simp)]; simpa using ih.1
    · rw [List.getElem?_append_right (by simp)]; simpa using ih.2
theorem one_cells {l : List Int} : ∀ u ∈ cellsI l, u.oneCell' = true := by
  intro u hu; obtain ⟨x, _, rfl⟩ := List.mem_map.1 hu; rfl
theorem one_cellsP {l : List (Int × Int)} : ∀ u ∈ cellsP l, u.oneCell' = true := by
  intro u hu
  obtain ⟨q, _, h⟩ := List.mem_flatMap.1 hu
  simp at h
  rcases h with rfl | rfl <;> rfl
abbrev OwnI (B : Nat) (w : World) (v : Value) (l : List Int) : Prop := w.ownsRow B 3 1 v l.length (cellsI l)
abbrev OwnP (B : Nat) (w : World) (v : Value) (l : List (Int × Int)) : Prop := w.ownsRow B 66 2 v l.length (cellsP l)
theorem add_none (b o j : Nat) : (⟨b, o, none⟩ : Addr).add j = ⟨b, o + j, none⟩ := by unfold Addr.add; split <;> simp_all
theorem OwnI.at {B : Nat} {w : World} {v : Value} {l : List Int} (h : OwnI B w v l) : ∃ a cap, v = .slice a l.length cap ∧ l.length ≤ cap ∧ cap ≤ maxLen ∧ IntsAt w a l.length l := by
  rcases h.2 with ⟨rfl, h0⟩ | ⟨g, cap, cur, rfl, h1, h2, h3, h4, h5, h6⟩
  · obtain rfl : l = [] := List.eq_nil_of_length_eq_zero h0
    exact ⟨none, 0, rfl, by simp, by unfold maxLen; omega, ints_nil w⟩
  · refine ⟨_, cap, rfl, h3, h4, rfl, fun _ => ⟨g, 0, rfl, fun j hj => ?_⟩⟩
    rw [Nat.zero_add, World.ownsRow.cellAt h j (by omega)]
    simp [cellsI, hj]
theorem OwnP.at {B : Nat} {w : World} {v : Value} {l : List (Int × Int)} (h : OwnP B w v l) : ∃ a cap, v = .slice a l.length cap ∧ l.length ≤ cap ∧ cap ≤ maxLen ∧ PtsAt w a l.length l := by
  rcases h.2 with ⟨rfl, h0⟩ | ⟨g, cap, cur, rfl, h1, h2, h3, h4, h5, h6⟩
  · obtain rfl : l = [] := List.eq_nil_of_length_eq_zero h0
    exact ⟨none, 0, rfl, by simp, by unfold maxLen; omega, pts_nil w⟩
  · refine ⟨_, cap, rfl, h3, h4, rfl, fun _ => ⟨g, 0, rfl, fun j hj => ?_⟩⟩
    have := cellsP_get l j hj
    rw [Nat.zero_add, World.ownsRow.cellAt h (j * 2) (by omega), World.ownsRow.cellAt h (j * 2 + 1) (by omega)]
    exact this
theorem OwnP.at2 {B n : Nat} {w : World} {v : Value} {l : List (Int × Int)} (h : OwnP B w v l) (hn : n = l.length) : ∃ a cap, v = .slice a n cap ∧ n ≤ cap ∧ cap ≤ maxLen ∧ PtsAt w a n l := by
  subst hn; exact h.at
theorem OwnI.at2 {B n : Nat} {w : World} {v : Value} {l : List Int} (h : OwnI B w v l) (hn : n = l.length) : ∃ a cap, v = .slice a n cap ∧ n ≤ cap ∧ cap ≤ maxLen ∧ IntsAt w a n l := by
  subst hn; exact h.at
theorem own_bel {B sz : Nat} {e : TypeId} {w w' : World} {v : Value} {n : Nat} {xs : List Value} (h : w.ownsRow B e sz v n xs) (hb : Below w.heap.size w w') : w'.ownsRow B e sz v n xs := by
  refine World.ownsRow.kept (row := some w.heap.size) h ⟨hb.os, hb.tape, hb.output, hb.size, fun k hk _ => hb.block k hk⟩ ?_
  cases e : v.ownBlock with
  | none => exact .inl rfl
  | some g =>
    right
    have := (World.ownsRow.lt h g e).2
    intro h'
    cases h'
    omega
theorem own_drewN {B sz : Nat} {e : TypeId} {w : World} {v : Value} {n : Nat} {xs : List Value} (h : w.ownsRow B e sz v n xs) (k : Nat) : (w.drewN k).ownsRow B e sz v n xs := own_bel h (below_drewN (Below.refl _ _) k)
/-- what was appended to lies where the call's own memory lies -/
theorem below_app {B sz : Nat} {e : TypeId} {w0 w w' : World} {v : Value} {n : Nat} {xs : List Value} (hb : Below B w0 w) (hB : B ≤ w.heap.size) (h : w.ownsRow B e sz v n xs) (hg : w.grownBy w' v.ownBlock) : Below B w0 w' :=
  hb.grown hg hB fun k hk => (World.ownsRow.lt h k hk).1
theorem infoP : (Tryd.prog.info? 66).map (fun i => (i.zero, i.size, i.bytes)) = some (some (.agg #[.int .i64 0, .int .i64 0]), 2, 16) := by kernel_rfl
/-- appending whatever list -/
theorem run_catG (w : World) (base : Nat) (t ty e : TypeId) (i : TypeInfo) (z : Value) (size bytes : Nat) (ht : Tryd.prog.underlying t = some (.slice e)) (hi : Tryd.prog.info? e = some i) (hz : i.zero = some z)
    (hsize : i.size = size) (hby : i.bytes = bytes) (hzs : z.cells.size = size) (hsz : 0 < size)
    (v : Value) (n : Nat) (xs : List Value) (hown : w.ownsRow base e size v n xs) (a : Option Addr) (m c : Nat) (news : List Value) (hl : news.length = m * size)
    (hnews : ∀ ad, a = some ad → ∀ j u, news[j]? = some u → w.cell? (ad.add j) = some u) (hnone : a = none → m = 0 ∧ c = 0) (h1 : ∀ u ∈ news, u.oneCell' = true)
    (h63 : n + m ≤ maxLen) (hbytes : (n + m) * bytes ≤ 140737488355328) (hbase : base ≤ w.heap.size) :
    ∃ v' w', (Builtin.append_ #[t, t] ty #[v, .slice a m c]).run Tryd.prog w = .ok v' w' ∧ w'.ownsRow base e size v' (n + m) (xs ++ news) ∧ w.grownBy w' v.ownBlock ∧ (v'.ownBlock = v.ownBlock ∨ v'.ownBlock = some w.heap.size) := by
  cases a with
  | none =>
    obtain ⟨rfl, rfl⟩ := hnone rfl
    obtain rfl : news = [] := List.eq_nil_of_length_eq_zero (by omega)
    exact ⟨v, w, run_append_owned_none (P := Tryd.prog) w base t ty e i size ht hi v n xs hown, by rw [List.append_nil]; exact hown, ⟨rfl, rfl, rfl, Nat.le_refl _, fun _ _ _ => rfl⟩, .inl rfl⟩
  | some ad =>
    obtain ⟨v', w', e1, e2, e3, _, e4⟩ := run_append_own_at (P := Tryd.prog) w base t ty e i z size bytes ht hi hz hsize hby hzs hsz v n xs hown ad m c news hl (hnews ad rfl) h1 h63 hbytes hbase
    exact ⟨v', w', e1, e2, e3, e4⟩
theorem wp_catP (w : World) {o : Oper} {a : Act} {K : Act → World → Prop} {Q : Exit → Act → World → Prop} (s x : Operand)
    (ho : o.op = .call { callee := .builtin .append, args := #[s, x], argTypes := #[63, 63] })
    (B : Nat) (u : Value) (P L : List (Int × Int)) (b : Option Addr) (m c : Nat) (hs : a.eval s = u) (hx : a.eval x = .slice b m c) (h1 : OwnP B w u P) (h2 : PtsAt w b m L) (hnone : b = none → m = 0 ∧ c = 0)
    (hn : P.length + m ≤ 1000000) (hB : B ≤ w.heap.size)
    (h : ∀ v' w', OwnP B w' v' (P ++ L) → w.grownBy w' u.ownBlock → K (a.put o.dst v') w') : o.wp Tryd.prog a w K Q := by
  obtain ⟨i0, hi0, hz0, hz1, hz2⟩ := info_parts infoP
  obtain ⟨v', w', hr, e1, e2, _⟩ := run_catG w B 63 o.type 66 i0 (.agg #[.int .i64 0, .int .i64 0]) 2 16 Tryd.underlying63 hi0 hz0 hz1 hz2 rfl (by decide) u P.length (cellsP P) h1 b m c (cellsP L) (by rw [cellsP_len, h2.len])
    (fun ad e j v hj => by
      have hjl : j < L.length * 2 := by have := (List.getElem?_eq_some_iff.1 hj).1; rwa [cellsP_len] at this
      obtain ⟨b', off, e', hc⟩ := h2.cells (by have := h2.len; omega)
      rw [e] at e'
      cases e'
      obtain ⟨k, hk⟩ : ∃ k, k = j / 2 := ⟨_, rfl⟩
      have hkl : k < L.length := by omega
      have hg := cellsP_get L k hkl
      have hck := hc k hkl
      rw [add_none]
      rcases (by omega : j = k * 2 ∨ j = k * 2 + 1) with rfl | rfl
      · rw [hck.1, ← hg.1, hj]
      · rw [← Nat.add_assoc, hck.2, ← hg.2, hj]) hnone one_cellsP (by unfold maxLen; omega) (by omega) hB
  have hO : OwnP B w' v' (P ++ L) := by
    have e3 : (P ++ L).length = P.length + m := by rw [List.length_append, ← h2.len]
    show w'.ownsRow B 66 2 v' (P ++ L).length (cellsP (P ++ L))
    rw [e3, cellsP_app]; exact e1
  unfold Oper.wp execOp
  simp only [ho, resolve, invoke, builtin, Sem.run_bind, Sem.run_pure, Result.andThen_ok, List.map_toArray, List.map_cons, List.map_nil, hs, hx, hr]
  exact h v' w' hO e2
theorem wpList_catP (w : World) {ops : Array Oper} {rest : List Oper} {o : Oper} {a : Act} {Q : Exit → Act → World → Prop} (hgd : o.guard = none) (s x : Operand)
    (ho : o.op = .call { callee := .builtin .append, args := #[s, x], argTypes := #[63, 63] })
    (B : Nat) (u : Value) (P L : List (Int × Int)) (b : Option Addr) (m c : Nat) (hs : a.eval s = u) (hx : a.eval x = .slice b m c) (h1 : OwnP B w u P) (h2 : PtsAt w b m L) (hnone : b = none → m = 0 ∧ c = 0)
    (hn : P.length + m ≤ 1000000) (hB : B ≤ w.heap.size)
    (h : ∀ v' w', OwnP B w' v' (P ++ L) → w.grownBy w' u.ownBlock → wpList Tryd.prog ops Q rest (a.put o.dst v') w') : wpList Tryd.prog ops Q (o :: rest) a w :=
  wpList_plain hgd fun _ hK => wp_catP w s x ho B u P L b m c hs hx h1 h2 hnone hn hB fun v' w' h3 h4 => hK _ _ (h v' w' h3 h4)
theorem step_catP (w : World) {ops : Array Oper} {o : Oper} {a : Act} {K : Act → World → Prop} {Q : Exit → Act → World → Prop} {E : Prop} (hgd : o.guard = none) (s x : Operand)
    (ho : o.op = .call { callee := .builtin .append, args := #[s, x], argTypes := #[63, 63] })
    (B : Nat) (u : Value) (P L : List (Int × Int)) (b : Option Addr) (m c : Nat) (hs : a.eval s = u) (hx : a.eval x = .slice b m c) (h1 : OwnP B w u P) (h2 : PtsAt w b m L) (hnone : b = none → m = 0 ∧ c = 0)
    (hn : P.length + m ≤ 1000000) (hB : B ≤ w.heap.size)
    (h : ∀ v' w', OwnP B w' v' (P ++ L) → w.grownBy w' u.ownBlock → K (a.put o.dst v') w') :
    if Region.wanted o (yielded ops a.tmps) = true then Oper.wp Tryd.prog o a w K Q else E := by
  have hw : Region.wanted o (yielded ops a.tmps) = true := by simp [Region.wanted, hgd]
  rw [if_pos hw]
  exact wp_catP w s x ho B u P L b m c hs hx h1 h2 hnone hn hB h
/-- a list of numbers as an argument -/
structure IntsOk (w : World) (v : Value) (l : List Int) : Prop where
  form : ∃ a cap, v = .slice a l.length cap ∧ l.length ≤ cap ∧ cap ≤ maxLen ∧ (a = none → cap = 0) ∧ IntsAt w a l.length l
/-- a list of points as an argument -/
structure PtsOk (w : World) (v : Value) (l : List (Int × Int)) : Prop where
  form : ∃ a cap, v = .slice a l.length cap ∧ l.length ≤ cap ∧ cap ≤ maxLen ∧ (a = none → cap = 0) ∧ PtsAt w a l.length l
end Go.Proofs.YtcdnddjoonecdaaDoor

/-
  Appending numbers to a list of the call's own, beside a second list of the call's own (layer 6).
-/
set_option linter.unusedVariables false
set_option maxRecDepth 100000
namespace Go.Proofs.YtcdnddjoonecdaaDoor
open Go.RowKit
open Fdp
theorem wp_catI (w : World) {o : Oper} {a : Act} {K : Act → World → Prop} {Q : Exit → Act → World → Prop} (s x : Operand)
    (ho : o.op = .call { callee := .builtin .append, args := #[s, x], argTypes := #[22, 22] })
    (B : Nat) (u : Value) (P L : List Int) (b : Option Addr) (m c : Nat) (hs : a.eval s = u) (hx : a.eval x = .slice b m c) (h1 : OwnI B w u P) (h2 : IntsAt w b m L) (hnone : b = none → m = 0 ∧ c = 0)
    (hn : P.length + m ≤ 1000000) (hB : B ≤ w.heap.size)
    (h : ∀ v' w', OwnI B w' v' (P ++ L) → w.grownBy w' u.ownBlock → (v'.ownBlock = u.ownBlock ∨ v'.ownBlock = some w.heap.size) → K (a.put o.dst v') w') : o.wp Tryd.prog a w K Q := by
  obtain ⟨i0, hi0, hz0, hz1, hz2⟩ := info_parts infoI
  obtain ⟨v', w', hr, e1, e2, e5⟩ := run_catG w B 22 o.type 3 i0 (.int .i64 0) 1 8 Tryd.underlying22 hi0 hz0 hz1 hz2 rfl (by decide) u P.length (cellsI P) h1 b m c (cellsI L) (by simp [cellsI, h2.len])
    (fun ad e j v hj => by
      have hjl : j < L.length := by have := (List.getElem?_eq_some_iff.1 hj).1; simpa [cellsI] using this
      obtain ⟨b', off, e', hc⟩ := h2.cells (by have := h2.len; omega)
      rw [e] at e'
      cases e'
      rw [add_none, hc j hjl]
      simpa [cellsI, hjl] using hj) hnone one_cells (by unfold maxLen; omega) (by omega) hB
  have hO : OwnI B w' v' (P ++ L) := by
    have e3 : (P ++ L).length = P.length + m := by rw [List.length_append, ← h2.len]
    have e4 : cellsI (P ++ L) = cellsI P ++ cellsI L := by simp [cellsI]
    show w'.ownsRow B 3 1 v' (P ++ L).length (cellsI (P ++ L))
    rw [e3, e4]; exact e1
  unfold Oper.wp execOp
  simp only [ho, resolve, invoke, builtin, Sem.run_bind, Sem.run_pure, Result.andThen_ok, List.map_toArray, List.map_cons, List.map_nil, hs, hx, hr]
  exact h v' w' hO e2 e5
theorem wpList_catI (w : World) {ops : Array Oper} {rest : List Oper} {o : Oper} {a : Act} {Q : Exit → Act → World → Prop} (hgd : o.guard = none) (s x : Operand)
    (ho : o.op = .call { callee := .builtin .append, args := #[s, x], argTypes := #[22, 22] })
    (B : Nat) (u : Value) (P L : List Int) (b : Option Addr) (m c : Nat) (hs : a.eval s = u) (hx : a.eval x = .slice b m c) (h1 : OwnI B w u P) (h2 : IntsAt w b m L) (hnone : b = none → m = 0 ∧ c = 0)
    (hn : P.length + m ≤ 1000000) (hB : B ≤ w.heap.size)
    (h : ∀ v' w', OwnI B w' v' (P ++ L) → w.grownBy w' u.ownBlock → (v'.ownBlock = u.ownBlock ∨ v'.ownBlock = some w.heap.size) → wpList Tryd.prog ops Q rest (a.put o.dst v') w') : wpList Tryd.prog ops Q (o :: rest) a w :=
  wpList_plain hgd fun _ hK => wp_catI w s x ho B u P L b m c hs hx h1 h2 hnone hn hB fun v' w' h3 h4 h5 => hK _ _ (h v' w' h3 h4 h5)
theorem step_catI (w : World) {ops : Array Oper} {o : Oper} {a : Act} {K : Act → World → Prop} {Q : Exit → Act → World → Prop} {E : Prop} (hgd : o.guard = none) (s x : Operand)
    (ho : o.op = .call { callee := .builtin .append, args := #[s, x], argTypes := #[22, 22] })
    (B : Nat) (u : Value) (P L : List Int) (b : Option Addr) (m c : Nat) (hs : a.eval s = u) (hx : a.eval x = .slice b m c) (h1 : OwnI B w u P) (h2 : IntsAt w b m L) (hnone : b = none → m = 0 ∧ c = 0)
    (hn : P.length + m ≤ 1000000) (hB : B ≤ w.heap.size)
    (h : ∀ v' w', OwnI B w' v' (P ++ L) → w.grownBy w' u.ownBlock → (v'.ownBlock = u.ownBlock ∨ v'.ownBlock = some w.heap.size) → K (a.put o.dst v') w') :
    if Region.wanted o (yielded ops a.tmps) = true then Oper.wp Tryd.prog o a w K Q else E := by
  have hw : Region.wanted o (yielded ops a.tmps) = true := by simp [Region.wanted, hgd]
  rw [if_pos hw]
  exact wp_catI w s x ho B u P L b m c hs hx h1 h2 hnone hn hB h
theorem own_emptyI {B g : Nat} {w : World} (h : w.heap[g]? = some (.cells #[] 3 (0, 0))) (hB : B ≤ g) : OwnI B w (.slice (some ⟨g, 0, none⟩) 0 0) [] :=
  ⟨rfl, .inr ⟨g, 0, #[], rfl, hB, h, Nat.le_refl _, Nat.zero_le _, rfl, rfl⟩⟩
/-- two lists of the call's own, in different blocks -/
structure Two (B : Nat) (w : World) (s m : Value) (S M : List Int) : Prop where
  sO : OwnI B w s S
  mO : OwnI B w m M
  dis : ∀ g, s.ownBlock = some g → m.ownBlock ≠ some g
theorem Two.nil (B : Nat) (w : World) : Two B w (.slice none 0 0) (.slice none 0 0) [] [] := ⟨World.ownsRow_nil _ _ _ _, World.ownsRow_nil _ _ _ _, fun g h => by simp [Value.ownBlock] at h⟩
theorem Two.bel {B : Nat} {w w' : World} {s m : Value} {S M : List Int} (h : Two B w s m S M) (hb : Below w.heap.size w w') : Two B w' s m S M := ⟨own_bel h.sO hb, own_bel h.mO hb, h.dis⟩
theorem Two.appS {B : Nat} {w w' : World} {s m s' : Value} {S M S' : List Int} (h : Two B w s m S M) (hO : OwnI B w' s' S') (hg : w.grownBy w' s.ownBlock) (ha : s'.ownBlock = s.ownBlock ∨ s'.ownBlock = some w.heap.size) : Two B w' s' m S' M :=
  ⟨hO, World.ownsRow.kept h.mO hg (by
    cases e : m.ownBlock with
    | none => exact .inl rfl
    | some g => right; intro e2; exact h.dis g e2.symm e), fun g e1 e2 => by
    rcases ha with ha | ha
    · exact h.dis g (ha ▸ e1) e2
    · have := (World.ownsRow.lt h.mO g e2).2
      rw [ha] at e1
      cases e1
      omega⟩
theorem Two.appM {B : Nat} {w w' : World} {s m m' : Value} {S M M' : List Int} (h : Two B w s m S M) (hO : OwnI B w' m' M') (hg : w.grownBy w' m.ownBlock) (ha : m'.ownBlock = m.ownBlock ∨ m'.ownBlock = some w.heap.size) : Two B w' s m' S M' :=
  ⟨World.ownsRow.kept h.sO hg (by
    cases e : s.ownBlock with
    | none => exact .inl rfl
    | some g => right; intro e2; exact h.dis g e e2.symm), hO, fun g e1 e2 => by
    rcases ha with ha | ha
    · exact h.dis g e1 (ha ▸ e2)
    · have := (World.ownsRow.lt h.sO g e1).2
      rw [ha] at e2
      cases e2
      omega⟩
end Go.Proofs.YtcdnddjoonecdaaDoor

/-
  The laws of layer 6 as equations of elements: pure facts.
-/
set_option linter.unusedVariables false
set_option maxRecDepth 100000
namespace Go.Proofs.YtcdnddjoonecdaaDoor
open Go.RowKit
open Fdp
abbrev El (a : Int) : Prop := 0 ≤ a ∧ a < 2147483647
theorem E.el {a b : Int} (h : E 2147483647 a b) (ha : El a) (hb : El b) : a = b := h.eq ha.1 ha.2 hb.1 hb.2
theorem sum_comm (a b : Int) : sumF a b = sumF b a := by unfold sumF; rw [Int.add_comm]
theorem sum_assoc (a b c : Int) : sumF (sumF a b) c = sumF a (sumF b c) := by unfold sumF; omega
theorem sum_zero {a : Int} (h : El a) : sumF a 0 = a := by unfold sumF; omega
theorem mul_comm' (a b : Int) : mulF a b = mulF b a := by unfold mulF; rw [Int.mul_comm]
theorem mul_assoc' (a b c : Int) : mulF (mulF a b) c = mulF a (mulF b c) :=
  E.el (((mulF_E _ _).trans ((mulF_E a b).mul (E.refl c))).trans ((E.of (Int.mul_assoc a b c)).trans ((mulF_E _ _).trans ((E.refl a).mul (mulF_E b c))).symm)) (mulF_range _ _) (mulF_range _ _)
theorem mul_one' {a : Int} (h : El a) : mulF a 1 = a := by unfold mulF; rw [Int.mul_one, Int.emod_eq_of_lt h.1 h.2]
theorem mul_sum (a b c : Int) : mulF a (sumF b c) = sumF (mulF a b) (mulF a c) :=
  E.el (((mulF_E _ _).trans ((E.refl a).mul (sumF_E b c))).trans ((E.of (Int.mul_add a b c)).trans ((sumF_E _ _).trans ((mulF_E a b).add (mulF_E a c))).symm)) (mulF_range _ _) (sumF_range _ _)
theorem not_dvd {a : Int} (h : El a) (h0 : a ≠ 0) : ¬ (2147483647 : Int) ∣ a := fun hd => h0 (E.el (E.zero.2 hd) h (by unfold El; omega))
theorem mul_inv {a : Int} (h : El a) (h0 : a ≠ 0) : mulF a (ivI a) = 1 := E.el ((mulF_E _ _).trans (ivI_is a (not_dvd h h0))) (mulF_range _ _) (by unfold El; omega)
theorem unit_ndvd {a b : Int} (h : E 2147483647 (a * b) 1) : ¬ (2147483647 : Int) ∣ a := fun hd => by
  obtain ⟨k, hk⟩ := hd
  obtain ⟨m, hm⟩ := h
  apply one_ndvd
  refine ⟨k * b - m, ?_⟩
  rw [Int.mul_sub, ← hm, hk, Int.mul_assoc]; omega
theorem inv_ndvd {a : Int} (h : El a) (h0 : a ≠ 0) : ¬ (2147483647 : Int) ∣ ivI a := unit_ndvd (b := a) ((E.of (Int.mul_comm _ _)).trans (ivI_is a (not_dvd h h0)))
theorem inv_inv {a : Int} (h : El a) (h0 : a ≠ 0) : ivI (ivI a) = a :=
  E.el (inv_unique prI (inv_ndvd h h0) (ivI_is _ (inv_ndvd h h0)) ((E.of (Int.mul_comm _ _)).trans (ivI_is a (not_dvd h h0)))) (ivI_range _) h
theorem mul_ndvd {a b : Int} (ha : El a) (hb : El b) (ha0 : a ≠ 0) (hb0 : b ≠ 0) : ¬ (2147483647 : Int) ∣ mulF a b := fun hd => by
  have h1 : E 2147483647 (a * b) 0 := (mulF_E a b).symm.trans (E.zero.2 hd)
  rcases prI _ _ (E.zero.1 h1) with h | h
  · exact not_dvd ha ha0 h
  · exact not_dvd hb hb0 h
theorem mul_pos' {a b : Int} (ha : El a) (hb : El b) (ha0 : a ≠ 0) (hb0 : b ≠ 0) : 0 < mulF a b := by
  have h1 := mulF_range a b
  rcases Int.lt_or_eq_of_le h1.1 with h | h
  · exact h
  · exact absurd (h ▸ Int.dvd_zero _) (mul_ndvd ha hb ha0 hb0)
theorem inv_mul {a b : Int} (ha : El a) (hb : El b) (ha0 : a ≠ 0) (hb0 : b ≠ 0) : ivI (mulF a b) = mulF (ivI a) (ivI b) := by
  have hn := mul_ndvd ha hb ha0 hb0
  refine E.el (inv_unique prI hn (ivI_is _ hn) ?_) (ivI_range _) (mulF_range _ _)
  refine ((mulF_E a b).mul (mulF_E _ _)).trans ((E.of ?_).trans ((ivI_is a (not_dvd ha ha0)).mul (ivI_is b (not_dvd hb hb0))))
  grind
theorem invE_ok {a : Int} (h : El a) (h0 : a ≠ 0) : invE a = (ivI a, 0) := by unfold invE; rw [okE_iff.2 h, if_pos rfl, if_neg h0]
-- polynomials
def sums (a b : List Int) : List Int := List.zipWith sumF a b
def mores (f : Int) (a : List Int) : List Int := a.map (mulF f)
theorem ev_sums (x : Int) : ∀ a b : List Int, a.length = b.length → E 2147483647 (ev x (sums a b)) (ev x a + ev x b)
  | [], [], _ => E.refl _
  | c :: a, d :: b, h => by
    have ih := ev_sums x a b (by simpa using h)
    show E _ (sumF c d + x * ev x (sums a b)) (c + x * ev x a + (d + x * ev x b))
    exact ((sumF_E c d).add ((E.refl x).mul ih)).trans (E.of (by grind))
theorem ev_mores (x f : Int) : ∀ a : List Int, E 2147483647 (ev x (mores f a)) (f * ev x a)
  | [] => E.of (by simp [mores, ev])
  | c :: a => by
    have ih := ev_mores x f a
    show E _ (mulF f c + x * ev x (mores f a)) (f * (c + x * ev x a))
    exact ((mulF_E f c).add ((E.refl x).mul ih)).trans (E.of (by grind))
theorem evF_sums (x : Int) (a b : List Int) (h : a.length = b.length) : evF x (sums a b) = sumF (evF x a) (evF x b) :=
  E.el ((evF_E x _).trans ((ev_sums x a b h).trans ((sumF_E _ _).trans ((evF_E x a).add (evF_E x b))).symm)) (evF_range _ _) (sumF_range _ _)
theorem evF_mores (x f : Int) (a : List Int) : evF x (mores f a) = mulF f (evF x a) :=
  E.el ((evF_E x _).trans ((ev_mores x f a).trans ((mulF_E _ _).trans ((E.refl f).mul (evF_E x a))).symm)) (evF_range _ _) (mulF_range _ _)
theorem evF_snoc0 (x : Int) (a : List Int) : evF x (a ++ [0]) = evF x a := by unfold evF; rw [ev_snoc, Int.zero_mul, Int.add_zero]
theorem evF_zero {a : List Int} (h : ∀ c ∈ a, El c) : evF 0 a = a.headD 0 := by
  cases a with
  | nil => rfl
  | cons c t =>
    have := h c (by simp)
    unfold evF
    rw [ev_cons, Int.zero_mul, Int.add_zero, Int.emod_eq_of_lt this.1 this.2]; rfl
theorem sums_el : ∀ {a b : List Int}, ∀ c ∈ sums a b, El c
  | [], _, c, hc => by simp [sums] at hc
  | _ :: _, [], c, hc => by simp [sums] at hc
  | u :: a, v :: b, c, hc => by
    have e : sums (u :: a) (v :: b) = sumF u v :: sums a b := rfl
    rw [e] at hc
    rcases List.mem_cons.1 hc with rfl | hc
    · exact sumF_range _ _
    · exact sums_el c hc
theorem mores_el {f : Int} {a : List Int} : ∀ c ∈ mores f a, El c := by
  intro c hc
  obtain ⟨u, _, rfl⟩ := List.mem_map.1 hc
  exact mulF_range _ _
-- interpolation
theorem inter_of {l : List (Int × Int)} (hp : pairsE l = true) (hd : diffX (Xs l) = true) (c : List Int) (hc : c.length ≤ l.length) (h : ∀ q ∈ l, E 2147483647 (ev q.1 c) q.2) (x : Int) : interF l x = evF x c :=
  E.el (((inter_fits hp hd).poly_same prI (diff_of hd (Xs_range hp)) (g := fun x => ev x c) ⟨c, hc, fun x => E.refl _⟩ h x).trans (evF_E x c).symm) (interF_range _ _) (evF_range _ _)
theorem inter_through {l : List (Int × Int)} (hp : pairsE l = true) (hd : diffX (Xs l) = true) {q : Int × Int} (hq : q ∈ l) : interF l q.1 = q.2 :=
  E.el ((inter_fits hp hd).through q hq) (interF_range _ _) (pairsE_iff.1 hp q hq).2
theorem pairs_rev (l : List (Int × Int)) : pairsE l.reverse = pairsE l := by unfold pairsE; rw [List.all_reverse]
theorem diff_rev (l : List (Int × Int)) : diffX (Xs l.reverse) = diffX (Xs l) := by
  unfold diffX Xs
  rw [decide_eq_decide, List.map_reverse, List.pairwise_reverse]
  constructor <;> exact fun h => h.imp fun h => h.symm
theorem interF_rev {l : List (Int × Int)} (hp : pairsE l = true) (hd : diffX (Xs l) = true) (x : Int) : interF l.reverse x = interF l x := by
  have h1 := inter_fits (l := l.reverse) (by rw [pairs_rev]; exact hp) (by rw [diff_rev]; exact hd)
  have h2 := (inter_fits hp hd).perm (pts' := l.reverse) (by simp) (by simp)
  exact E.el (h1.same prI h2 (diff_of (by rw [diff_rev]; exact hd) (Xs_range (by rw [pairs_rev]; exact hp))) x) (interF_range _ _) (interF_range _ _)
theorem inter_rev (l : List (Int × Int)) (x : Int) : interE l.reverse x = interE l x := by
  unfold interE
  rw [List.length_reverse, pairs_rev, diff_rev]
  by_cases h : (decide (1 ≤ l.length ∧ l.length ≤ 16) && pairsE l && okE x) = true
  · rw [if_pos h, if_pos h]
    by_cases hd : diffX (Xs l) = true
    · rw [if_pos hd, if_pos hd]
      have hp : pairsE l = true := by simp at h; exact h.1.2
      rw [interF_rev hp hd]
    · rw [if_neg hd, if_neg hd]
  · rw [if_neg h, if_neg h]
theorem inter_cases (l : List (Int × Int)) (x : Int) : (∃ e : Int, e ≠ 0 ∧ interE l x = (0, e)) ∨ (interE l x = (interF l x, 0) ∧ (1 ≤ l.length ∧ l.length ≤ 16) ∧ pairsE l = true ∧ okE x = true ∧ diffX (Xs l) = true) := by
  by_cases h1 : 1 ≤ l.length ∧ l.length ≤ 16
  · cases h2 : pairsE l with
    | false => exact .inl ⟨1, by decide, interE_p h2⟩
    | true =>
      cases h3 : okE x with
      | false => exact .inl ⟨1, by decide, interE_x h3⟩
      | true =>
        cases h4 : diffX (Xs l) with
        | false => exact .inl ⟨8, by decide, interE_twice h1 h2 h3 h4⟩
        | true => exact .inr ⟨interE_ok h1 h2 h3 h4, h1, rfl, rfl, rfl⟩
  · exact .inl ⟨1, by decide, interE_len h1⟩
theorem pairs_snoc (l : List (Int × Int)) (q : Int × Int) : pairsE (l ++ [q]) = (pairsE l && (okE q.1 && okE q.2)) := by simp [pairsE]
theorem diff_snoc {l : List (Int × Int)} {q : Int × Int} (h : diffX (Xs (l ++ [q])) = true) : diffX (Xs l) = true ∧ ∀ y ∈ Xs l, q.1 ≠ y := by
  unfold diffX Xs at h ⊢
  rw [decide_eq_true_iff, List.map_append, List.pairwise_append] at h
  refine ⟨decide_eq_true h.1, fun y hy e => h.2.2 y hy q.1 (by simp) e.symm⟩
/-- is it the X of a point? -/
def ofX (l : List (Int × Int)) (x : Int) : Bool := l.any fun q => q.1 == x
theorem ofX_iff {l : List (Int × Int)} {x : Int} : ofX l x = true ↔ x ∈ Xs l := by simp [ofX, Xs, List.any_eq_true]
theorem inter_further {l : List (Int × Int)} {q : Int × Int} {x : Int} (hp : pairsE (l ++ [q]) = true) (hd : diffX (Xs (l ++ [q])) = true) (hx : El x) :
    (interF l x = interF (l ++ [q]) x) ↔ (ofX l x = true ∨ interF l q.1 = q.2) := by
  have hp' := hp
  rw [pairs_snoc, Bool.and_eq_true, Bool.and_eq_true] at hp'
  obtain ⟨hpl, hq1, hq2⟩ := hp'
  obtain ⟨hdl, hqn⟩ := diff_snoc hd
  have hr := Xs_range hpl
  have q1 := okE_iff.1 hq1
  have q2 := okE_iff.1 hq2
  have h := (inter_fits hpl hdl).further prI (inter_fits hp hd) (diff_of hdl hr) (fun y hy he => hqn y hy (E.el he q1 (hr y hy))) x
  constructor
  · intro e
    rcases h.1 (E.of e) with ⟨y, hy, he⟩ | he
    · left
      rw [ofX_iff, E.el he hx (hr y hy)]; exact hy
    · right; exact E.el he (interF_range _ _) q2
  · intro e
    refine E.el (h.2 ?_) (interF_range _ _) (interF_range _ _)
    rcases e with e | e
    · exact .inl ⟨x, ofX_iff.1 e, E.refl x⟩
    · exact .inr (E.of e)
end Go.Proofs.YtcdnddjoonecdaaDoor
