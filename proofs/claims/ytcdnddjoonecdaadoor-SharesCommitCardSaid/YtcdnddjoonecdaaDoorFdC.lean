/-
  The document's own answers: elements, products, differences, powers, Add, Mul, Inverse, Eval (layer 6).
-/
import Derived.Test.YtcdnddjoonecdaaDoorFdB
set_option linter.unusedVariables false
set_option maxRecDepth 100000
namespace Go.Proofs.YtcdnddjoonecdaaDoor
open Go.RowKit
open Fdp
end Go.Proofs.YtcdnddjoonecdaaDoor

/-
  The document's own answers: Add, Mul, Inverse, Eval (layer 6).
-/
set_option linter.unusedVariables false
set_option maxRecDepth 100000
namespace Go.Proofs.YtcdnddjoonecdaaDoor
open Go.RowKit
open Fdp
theorem ev_snoc (x c : Int) : ∀ l : List Int, ev x (l ++ [c]) = ev x l + c * x ^ l.length
  | [] => by simp [ev]
  | d :: t => by
    rw [List.cons_append, ev_cons, ev_snoc x c t, ev_cons, List.length_cons, Int.pow_succ]
    grind
/-- the sum of the first so many values -/
def Sums (l : List Int) (x : Int) (k : Nat) (v : Int) : Prop := E 2147483647 v (ev x (l.take k))
theorem Sums.start (l : List Int) (x : Int) : Sums l x 0 0 := by unfold Sums; rw [List.take_zero, ev_nil]; exact E.refl 0
theorem Sums.step {l : List Int} {x v : Int} {k : Nat} (hx : 0 ≤ x) (h : Sums l x k v) (hk : k < l.length) : Sums l x (k + 1) (sumF v (mulF l[k] (powF x k))) := by
  unfold Sums at h ⊢
  rw [List.take_succ_eq_append_getElem hk, ev_snoc, List.length_take, Nat.min_eq_left (by omega)]
  exact (sumF_E _ _).trans (h.add ((mulF_E _ _).trans ((E.refl _).mul (powF_E hx k))))
theorem Sums.done {l : List Int} {x v : Int} (h : Sums l x l.length v) (hv : 0 ≤ v ∧ v < 2147483647) : v = evF x l := by
  unfold Sums at h
  rw [List.take_length] at h
  exact (h.trans (evF_E x l).symm).eq hv.1 hv.2 (evF_range x l).1 (evF_range x l).2
end Go.Proofs.YtcdnddjoonecdaaDoor

/-
  Whether all points are of elements, and whether two have the same X (layer 6).
-/
set_option linter.unusedVariables false
set_option maxRecDepth 100000
namespace Go.Proofs.YtcdnddjoonecdaaDoor
open Go.RowKit
open Fdp
def pairsE (l : List (Int × Int)) : Bool := l.all fun q => okE q.1 && okE q.2
theorem pairsE_iff {l : List (Int × Int)} : pairsE l = true ↔ ∀ q ∈ l, (0 ≤ q.1 ∧ q.1 < 2147483647) ∧ 0 ≤ q.2 ∧ q.2 < 2147483647 := by
  simp only [pairsE, List.all_eq_true, Bool.and_eq_true, okE_iff]
theorem pairsE_no {l : List (Int × Int)} {k : Nat} (hk : k < l.length) (h : okE l[k].1 = false ∨ okE l[k].2 = false) : pairsE l = false := by
  unfold pairsE; rw [List.all_eq_false]; exact ⟨_, List.getElem_mem hk, by rcases h with h | h <;> simp [h]⟩
theorem pairsE_upto {l : List (Int × Int)} (h : ∀ j (hj : j < l.length), okE l[j].1 = true ∧ okE l[j].2 = true) : pairsE l = true := by
  unfold pairsE; rw [List.all_eq_true]; intro x hx; obtain ⟨j, hj, rfl⟩ := List.getElem_of_mem hx; have := h j hj; simp [this.1, this.2]
set_option maxHeartbeats 1000000 in
theorem pairs_any (a : Option Addr) (n cap : Nat) (l : List (Int × Int)) (w : World) (h : PtsAt w a n l) (hn : n ≤ 1000000) :
    Calls Tryd.prog 68 #[.slice a n cap] w fun e w' => e = .returned (.bool (pairsE l)) ∧ Below w.heap.size w w' := by
  have HH := Lib.hid h
  clear h
  have D0 : Hid (Below w.heap.size w w) := Lib.hid (Below.refl _ _)
  go_enter Tryd.func68, Tryd.ntmps68
  go_wp2_with fail
  go_loopw [9] (fun i wr => ∃ k : Nat, k ≤ n ∧ i = .int .i64 k ∧ Hid (∀ j (hj : j < l.length), j < k → okE l[j].1 = true ∧ okE l[j].2 = true) ∧ Hid (Below w.heap.size w wr)) (fun i _ => n - (intOf i).toNat)
  case atStart => exact ⟨0, by omega, rfl, (show _ from fun j _ h => absurd h (by omega)), D0⟩
  case round =>
    obtain ⟨k, hk, rfl, hx, hD⟩ := hrel
    by_cases hlt : k < n
    · obtain ⟨b, off, rfl, hc⟩ := (HH.out.bel hD.out).cells (by omega)
      have hkl : k < l.length := by rw [← HH.out.len]; exact hlt
      obtain ⟨hc1, hc2⟩ := hc k hkl
      clear hc
      obtain ⟨x, hxk⟩ : ∃ x, x = l[k].1 := ⟨_, rfl⟩
      rw [← hxk] at hc1
      obtain ⟨y, hyk⟩ : ∃ y, y = l[k].2 := ⟨_, rfl⟩
      rw [← hyk] at hc2
      have HX := Lib.hid hxk
      have HY := Lib.hid hyk
      clear hxk hyk
      have i0 : ∀ w, (Instr.index 66 (.agg #[.int .i64 x, .int .i64 y]) (.int .i64 0)).run Tryd.prog w = .ok (.int .i64 x) w := fun _ => by kernel_rfl
      have i1 : ∀ w, (Instr.index 66 (.agg #[.int .i64 x, .int .i64 y]) (.int .i64 1)).run Tryd.prog w = .ok (.int .i64 y) w := fun _ => by kernel_rfl
      go_wp2_with fail
      refine wp_loop_rounds 3 ?_
      rw [rounds_succ]
      go_wp2_with fail
      have D1 : Hid (Below w.heap.size w ((wr.alloc (Obj.cells #[Value.int .i64 x, Value.int .i64 y] 66)).alloc (Obj.cells #[Value.int .i64 x] 3))) := Lib.hid ((hD.out.alloc hD.out.size _).alloc (by have := hD.out.size; simp; omega) _)
      cases h1 : okE x with
      | false =>
        have hb' : Hid (pairsE l = false) := Lib.hid (pairsE_no hkl (.inl (by rw [← HX.out]; exact h1)))
        have H1 := Lib.hid h1
        clear h1
        refine (elements_no _ _ _ [x] _ (ints_one _ _ (by simp)) (max_small (by decide)) (by rw [all_one]; exact H1.out)).mono ?_
        rintro e w' ⟨rfl, rfl⟩
        go_wp2_with fail
        go_ret
        exact ⟨by rw [hb'.out]; rfl, D1.out⟩
      | true =>
        have H1 := Lib.hid h1
        clear h1
        refine (elements_yes _ _ _ [x] _ (ints_one _ _ (by simp)) (max_small (by decide)) (by rw [all_one]; exact H1.out)).mono ?_
        rintro e w' ⟨rfl, rfl⟩
        go_wp2_with fail
        rw [rounds_succ]
        go_wp2_with fail
        have D2 := Lib.hid (D1.out.alloc (by have := hD.out.size; simp; omega) (Obj.cells #[Value.int .i64 y] 3))
        cases h2 : okE y with
        | false =>
          have hb' : Hid (pairsE l = false) := Lib.hid (pairsE_no hkl (.inr (by rw [← HY.out]; exact h2)))
          have H2 := Lib.hid h2
          clear h2
          refine (elements_no _ _ _ [y] _ (ints_one _ _ (by simp)) (max_small (by decide)) (by rw [all_one]; exact H2.out)).mono ?_
          rintro e w' ⟨rfl, rfl⟩
          go_wp2_with fail
          go_ret
          exact ⟨by rw [hb'.out]; rfl, D2.out⟩
        | true =>
          have H2 := Lib.hid h2
          clear h2
          refine (elements_yes _ _ _ [y] _ (ints_one _ _ (by simp)) (max_small (by decide)) (by rw [all_one]; exact H2.out)).mono ?_
          rintro e w' ⟨rfl, rfl⟩
          go_wp2_with fail
          rw [rounds_succ]
          go_wp2_with fail
          go_roundw
          case rel =>
            refine ⟨k + 1, by omega, by go_num, (show _ from fun j hj h => ?_), D2⟩
            by_cases e : j = k
            · subst e; rw [← HX.out, ← HY.out]; exact ⟨H1.out, H2.out⟩
            · exact hx.out j hj (by omega)
          case measure => simp [intOf]; omega
    · obtain rfl : k = n := by omega
      have hb : pairsE l = true := pairsE_upto fun j hj => hx.out j hj (by rw [HH.out.len]; exact hj)
      have HB := Lib.hid hb
      clear hb
      go_wp2_with fail
      go_ret
      exact ⟨by rw [HB.out]; rfl, hD.out⟩
/-- no two of them have the same X -/
def diffX (l : List Int) : Bool := decide (l.Pairwise fun a b => a ≠ b)
/-- so far no two are the same: those before k, and, of the next, those before m -/
def Dif (l : List Int) (k m : Nat) : Prop := ∀ i j (hi : i < l.length) (hj : j < l.length), j < i → (i < k ∨ (i = k ∧ j < m)) → l[i] ≠ l[j]
theorem Dif.start (l : List Int) : Dif l 0 0 := fun i j _ _ h h' => by omega
theorem Dif.row {l : List Int} {k : Nat} (h : Dif l k 0) (m : Nat) (hm : m = 0) : Dif l k m := by subst hm; exact h
theorem Dif.next {l : List Int} {k m : Nat} (h : Dif l k m) (hk : k < l.length) (hm : m < l.length) (hne : l[k] ≠ l[m]) : Dif l k (m + 1) := fun i j hi hj hlt h' => by
  by_cases e : i = k ∧ j = m
  · obtain ⟨rfl, rfl⟩ := e; exact hne
  · exact h i j hi hj hlt (by omega)
theorem Dif.done {l : List Int} {k : Nat} (h : Dif l k k) : Dif l (k + 1) 0 := fun i j hi hj hlt h' => h i j hi hj hlt (by omega)
theorem Dif.all {l : List Int} (h : Dif l l.length 0) : diffX l = true := by
  unfold diffX
  rw [decide_eq_true_iff, List.pairwise_iff_getElem]
  intro i j hi hj hlt e
  exact h j i hj hi hlt (.inl hj) e.symm
theorem Dif.no {l : List Int} {k m : Nat} (hk : k < l.length) (hm : m < l.length) (hlt : m < k) (e : l[k] = l[m]) : diffX l = false := by
  unfold diffX
  rw [decide_eq_false_iff_not, List.pairwise_iff_getElem]
  intro h
  exact h m k hm hk hlt e.symm
set_option maxHeartbeats 1000000 in
theorem repeats_any (a : Option Addr) (n cap : Nat) (l : List (Int × Int)) (w : World) (h : PtsAt w a n l) (hn : n ≤ 1000000) (hcap : n ≤ cap) (hcm : cap ≤ maxLen) :
    Calls Tryd.prog 69 #[.slice a n cap] w fun e w' => e = .returned (.bool (!diffX (Xs l))) ∧ Below w.heap.size w w' := by
  have HH := Lib.hid h
  clear h
  have hcm' : cap ≤ 9223372036854775807 := by unfold maxLen at hcm; omega
  clear hcm
  have hXl : (Xs l).length = l.length := by simp
  have HXL := Lib.hid hXl
  clear hXl
  have D0 : Hid (Below w.heap.size w w) := Lib.hid (Below.refl _ _)
  go_enter Tryd.func69, Tryd.ntmps69
  go_wp2_with fail
  go_loopw [9] (fun i wr => ∃ k : Nat, k ≤ n ∧ i = .int .i64 k ∧ Hid (Dif (Xs l) k 0) ∧ Hid (Below w.heap.size w wr)) (fun i _ => n - (intOf i).toNat)
  case atStart => exact ⟨0, by omega, rfl, Lib.hid (Dif.start _), D0⟩
  case round =>
    obtain ⟨k, hk, rfl, hx, hD⟩ := hrel
    by_cases hlt : k < n
    · obtain ⟨b, off, rfl, hc⟩ := (HH.out.bel hD.out).cells (by omega)
      have hkl : k < l.length := by rw [← HH.out.len]; exact hlt
      obtain ⟨hc1, hc2⟩ := hc k hkl
      have HC := Lib.hid hc
      clear hc
      obtain ⟨x, hxk⟩ : ∃ x, x = l[k].1 := ⟨_, rfl⟩
      rw [← hxk] at hc1
      obtain ⟨y, hyk⟩ : ∃ y, y = l[k].2 := ⟨_, rfl⟩
      rw [← hyk] at hc2
      have HX := Lib.hid hxk
      clear hxk hyk
      have c1 : (0 : Int) ≤ (k : Int) := by omega
      have c2 : (k : Int) ≤ (cap : Int) := by omega
      have c3 : k ≤ cap := by omega
      have c4 : ¬ cap = 0 := by omega
      have hDs := hD.out.size
      have D1 : Hid (Below w.heap.size w (wr.alloc (Obj.cells #[Value.int .i64 x, Value.int .i64 y] 66))) := Lib.hid (hD.out.alloc hD.out.size _)
      go_wp2_with fail
      obtain ⟨B, hB⟩ : ∃ B, B = wr.heap.size := ⟨_, rfl⟩
      have hblk := heap_lastF wr (Obj.cells #[Value.int .i64 x, Value.int .i64 y] 66)
      obtain ⟨W1, hW1⟩ : ∃ W, W = wr.alloc (Obj.cells #[Value.int .i64 x, Value.int .i64 y] 66) := ⟨_, rfl⟩
      rw [← hW1, ← hB] at hblk
      rw [← hW1] at D1
      rw [← hW1]
      simp only [← hB]
      have HBK := Lib.hid hblk
      have HW := Lib.hid hW1
      have HB := Lib.hid hB
      clear hblk hW1 hB hDs hc1 hc2
      obtain ⟨wo, rfl⟩ : ∃ wo : World, wo = wr := ⟨_, rfl⟩
      go_loopw [18] (fun i wq => ∃ m : Nat, m ≤ k ∧ i = .int .i64 m ∧ Hid (Dif (Xs l) k m) ∧ Hid (Below W1.heap.size W1 wq)) (fun i _ => k - (intOf i).toNat)
      case atStart => exact ⟨0, by omega, rfl, hx, Lib.hid (Below.refl _ _)⟩
      case round =>
        clear hx
        obtain ⟨m, hm, rfl, hx, hE⟩ := hrel
        have DQ : Hid (Below w.heap.size w wr) := Lib.hid (D1.out.trans (hE.out.mono D1.out.size))
        by_cases hml : m < k
        · have hml' : m < l.length := by omega
          obtain ⟨hc1, hc2⟩ := (HH.out.bel DQ.out).cell hml'
          obtain ⟨u, huk⟩ : ∃ u, u = l[m].1 := ⟨_, rfl⟩
          rw [← huk] at hc1
          obtain ⟨v, hvk⟩ : ∃ v, v = l[m].2 := ⟨_, rfl⟩
          rw [← hvk] at hc2
          have HU := Lib.hid huk
          clear huk hvk
          have hcb : wr.cell? ⟨B, 0, none⟩ = some (.int .i64 x) := by
            rw [Lib.cell_of_heap ((hE.out.block B (by
              rcases Nat.lt_or_ge B W1.heap.size with h' | h'
              · exact h'
              · have := HBK.out; simp [Array.getElem?_eq_none h'] at this)).trans HBK.out)]; rfl
          have hca : (wr.alloc (Obj.cells #[Value.int .i64 u, Value.int .i64 v] 66)).cell? ⟨B, 0, none⟩ = some (.int .i64 x) := (((Below.refl wr.heap.size wr).alloc (Nat.le_refl _) _).cell (p := ⟨B, 0, none⟩) (cell_ltF hcb)).trans hcb
          have D2 := Lib.hid (hE.out.alloc hE.out.size (Obj.cells #[Value.int .i64 u, Value.int .i64 v] 66))
          have D3 := Lib.hid (DQ.out.alloc DQ.out.size (Obj.cells #[Value.int .i64 u, Value.int .i64 v] 66))
          by_cases hxu : x = u
          · have hb' : Hid (diffX (Xs l) = false) := Lib.hid (Dif.no (by rw [HXL.out]; exact hkl) (by rw [HXL.out]; exact hml') hml (by simp; rw [← HX.out, ← HU.out]; exact hxu))
            have e1 : (x == u) = true := by rw [hxu]; simp
            clear hxu
            go_wp2_with fail
            go_ret
            exact ⟨by rw [hb'.out]; rfl, D3.out⟩
          · have hx2 : Hid (Dif (Xs l) k (m + 1)) := Lib.hid (hx.out.next (by rw [HXL.out]; exact hkl) (by rw [HXL.out]; exact hml') (by simp; rw [← HX.out, ← HU.out]; exact hxu))
            have e1 : (x == u) = false := by simpa using hxu
            clear hxu
            go_wp2_with fail
            go_roundw
            case rel => exact ⟨m + 1, by omega, by go_num, hx2, D2⟩
            case measure => simp [intOf]; omega
        · obtain rfl : m = k := by omega
          go_wp2_with fail
          go_roundw
          case rel => exact ⟨m + 1, by omega, by go_num, Lib.hid hx.out.done, DQ⟩
          case measure => simp [intOf]; omega
    · obtain rfl : k = n := by omega
      have hb : diffX (Xs l) = true := Dif.all (by rw [HXL.out, ← HH.out.len]; exact hx.out)
      have HB := Lib.hid hb
      clear hb
      go_wp2_with fail
      go_ret
      exact ⟨by rw [HB.out]; rfl, hD.out⟩
end Go.Proofs.YtcdnddjoonecdaaDoor

/-
  Newton's coefficients computed in place, stage by stage, and the value of Newton's form: pure facts (layer 6).
-/
set_option linter.unusedVariables false
set_option maxRecDepth 100000
namespace Go.Proofs.YtcdnddjoonecdaaDoor
open Go.RowKit
open Fdp
def Xp (l : List (Int × Int)) (i : Nat) : Int := (l.getD i (0, 0)).1
def Yp (l : List (Int × Int)) (i : Nat) : Int := (l.getD i (0, 0)).2
theorem Xp_get {l : List (Int × Int)} {i : Nat} (h : i < l.length) : Xp l i = l[i].1 := by simp [Xp, List.getD, h]
theorem Yp_get {l : List (Int × Int)} {i : Nat} (h : i < l.length) : Yp l i = l[i].2 := by simp [Yp, List.getD, h]
theorem ivI_E {a b : Int} (h : E 2147483647 a b) : ivI a = ivI b := by
  have e : a % 2147483647 = b % 2147483647 := by
    obtain ⟨k, hk⟩ := h; omega
  unfold ivI; rw [e]
/-- the difference that stands at a place when the spans before s are done -/
def DV (l : List (Int × Int)) (s j : Nat) : Int := dd ivI (Xp l) (Yp l) (min j s) (j - min j s)
theorem DV_low {l : List (Int × Int)} {s j : Nat} (h : j ≤ s) : DV l s j = dd ivI (Xp l) (Yp l) j 0 := by
  unfold DV; rw [Nat.min_eq_left h, Nat.sub_self]
theorem DV_high {l : List (Int × Int)} {s j : Nat} (h : s ≤ j) : DV l s j = dd ivI (Xp l) (Yp l) s (j - s) := by
  unfold DV; rw [Nat.min_eq_right h]
/-- span s is done at the places behind i -/
structure Stage (l : List (Int × Int)) (s i : Nat) (D : List Int) : Prop where
  len : D.length = l.length
  el : ∀ x ∈ D, 0 ≤ x ∧ x < 2147483647
  val : ∀ j (hj : j < D.length), E 2147483647 D[j] (if i < j then DV l (s + 1) j else DV l s j)
theorem Stage.start {l : List (Int × Int)} (h : pairsE l = true) (i : Nat) (hi : l.length ≤ i + 1) : Stage l 0 i (l.map Prod.snd) :=
  ⟨by simp, fun x hx => by
    obtain ⟨q, hq, rfl⟩ := List.mem_map.1 hx
    exact (pairsE_iff.1 h q hq).2, fun j hj => by
    have hj' : j < l.length := by simpa using hj
    rw [if_neg (by omega), DV_high (Nat.zero_le _)]
    refine E.of ?_
    rw [List.getElem_map]
    show _ = Yp l (j - 0)
    rw [Nat.sub_zero, Yp_get hj']⟩
theorem Stage.get {l : List (Int × Int)} {s i : Nat} {D : List Int} (h : Stage l s i D) {j : Nat} (hj : j < D.length) : 0 ≤ D[j] ∧ D[j] < 2147483647 := h.el _ (List.getElem_mem hj)
theorem Stage.step {l : List (Int × Int)} {s i : Nat} {D : List Int} (h : Stage l s (i + 1) D) (hi : i + 1 < D.length) (hs : s ≤ i) {a b x y : Int} (ha : a = D[i + 1]) (hb : b = D[i]'(by omega)) (hx : x = Xp l (i + 1)) (hy : y = Xp l (i - s)) :
    Stage l s i (D.set (i + 1) (mulF (difF a b) (ivI (difF x y)))) := by
  refine ⟨by rw [List.length_set, h.len], fun z hz => ?_, fun j hj => ?_⟩
  · rcases List.mem_or_eq_of_mem_set hz with hz | rfl
    · exact h.el z hz
    · exact mulF_range _ _
  · rw [List.length_set] at hj
    by_cases e : j = i + 1
    · subst e
      rw [List.getElem_set_self, if_pos (by omega), DV_high (by omega)]
      have h1 := h.val (i + 1) hi
      have h2 := h.val i (by omega)
      rw [if_neg (by omega), DV_high (by omega), ← ha] at h1
      rw [if_neg (by omega), DV_high (by omega), ← hb] at h2
      have e1 : i + 1 - (s + 1) = i - s := by omega
      have e2 : i + 1 - s = i - s + 1 := by omega
      rw [e1]
      rw [e2] at h1
      show E _ _ ((dd ivI (Xp l) (Yp l) s (i - s + 1) - dd ivI (Xp l) (Yp l) s (i - s)) * ivI (Xp l (i - s + s + 1) - Xp l (i - s)))
      have e3 : i - s + s + 1 = i + 1 := by omega
      rw [e3, ← hx, ← hy, ← ivI_E (difF_E x y)]
      exact (mulF_E _ _).trans (((difF_E a b).trans (h1.sub h2)).mul (E.refl _))
    · rw [List.getElem_set_ne (by omega)]
      have h1 := h.val j hj
      by_cases h' : i + 1 < j
      · rw [if_pos h'] at h1; rw [if_pos (by omega)]; exact h1
      · rw [if_neg h'] at h1; rw [if_neg (by omega)]; exact h1
theorem Stage.next {l : List (Int × Int)} {s i k : Nat} {D : List Int} (h : Stage l s i D) (hi : i ≤ s) (hb : i = s ∨ l.length ≤ i + 1) (hk : l.length ≤ k + 1) : Stage l (s + 1) k D :=
  ⟨h.len, h.el, fun j hj => by
    have h1 := h.val j hj
    have hl := h.len
    rw [if_neg (by omega)]
    by_cases h' : i < j
    · rw [if_pos h'] at h1; exact h1
    · rw [if_neg h', DV_low (by omega)] at h1
      rw [DV_low (by omega)]; exact h1⟩
/-- the coefficients of Newton's form -/
structure Coefs (l : List (Int × Int)) (D : List Int) : Prop where
  len : D.length = l.length
  el : ∀ x ∈ D, 0 ≤ x ∧ x < 2147483647
  val : ∀ j (hj : j < D.length), E 2147483647 D[j] (dd ivI (Xp l) (Yp l) j 0)
theorem Stage.done {l : List (Int × Int)} {s i : Nat} {D : List Int} (h : Stage l s i D) (hs : l.length ≤ s + 1) (hi : l.length ≤ i + 1) : Coefs l D :=
  ⟨h.len, h.el, fun j hj => by
    have h1 := h.val j hj
    have hl := h.len
    rw [if_neg (by omega), DV_low (by omega)] at h1; exact h1⟩
/-- the part of Newton's form that has the first k coefficients -/
def part (l : List (Int × Int)) (x : Int) : Nat → Int
  | 0 => 0
  | m + 1 => newt ivI (Xp l) (Yp l) 0 x m
theorem part_next (l : List (Int × Int)) (x : Int) : ∀ k, part l x (k + 1) = part l x k + dd ivI (Xp l) (Yp l) k 0 * prodN (Xp l) 0 x k
  | 0 => by show Yp l 0 = 0 + Yp l 0 * 1; omega
  | m + 1 => rfl
/-- what the later coefficients make together, from the end on -/
def Nest (l : List (Int × Int)) (x : Int) (k : Nat) (v : Int) : Prop := E 2147483647 (part l x k + prodN (Xp l) 0 x k * v) (part l x l.length)
theorem Nest.start (l : List (Int × Int)) (x : Int) : Nest l x l.length 0 := by
  unfold Nest; rw [Int.mul_zero, Int.add_zero]; exact E.refl _
theorem Nest.step {l : List (Int × Int)} {x v c u : Int} {k : Nat} {D : List Int} (h : Nest l x (k + 1) v) (hD : Coefs l D) (hk : k < D.length) (hc : c = D[k]) (hu : u = Xp l k) :
    Nest l x k (sumF (mulF v (difF x u)) c) := by
  unfold Nest at h ⊢
  rw [part_next] at h
  refine E.trans ?_ h
  have h1 : E 2147483647 (sumF (mulF v (difF x u)) c) (v * (x - u) + c) := (sumF_E _ _).trans (((mulF_E _ _).trans ((E.refl v).mul (difF_E x u))).add (E.refl c))
  have h2 : E 2147483647 c (dd ivI (Xp l) (Yp l) k 0) := by rw [hc]; exact hD.val k hk
  refine ((E.refl (part l x k)).add ((E.refl _).mul (h1.trans ((E.refl _).add h2)))).trans (E.of ?_)
  show _ = _ + (x - Xp l (0 + k)) * prodN (Xp l) 0 x k * v
  rw [Nat.zero_add, ← hu]
  grind
/-- the value of the polynomial through the points, as an element -/
def interF (l : List (Int × Int)) (x : Int) : Int := lagN ivI l x l.length % 2147483647
theorem interF_range (l : List (Int × Int)) (x : Int) : 0 ≤ interF l x ∧ interF l x < 2147483647 := by
  unfold interF; generalize lagN ivI l x l.length = y; omega
theorem interF_E (l : List (Int × Int)) (x : Int) : E 2147483647 (interF l x) (lagN ivI l x l.length) := E.emod _
theorem diff_of {l : List Int} (hd : diffX l = true) (h : ∀ x ∈ l, 0 ≤ x ∧ x < 2147483647) : Diff 2147483647 l := by
  unfold diffX at hd
  rw [decide_eq_true_iff] at hd
  refine List.Pairwise.imp_of_mem ?_ hd
  intro a b ha hb hne he
  have h1 := h a ha
  have h2 := h b hb
  exact hne (he.eq h1.1 h1.2 h2.1 h2.2)
theorem Xs_range {l : List (Int × Int)} (hp : pairsE l = true) : ∀ x ∈ Xs l, 0 ≤ x ∧ x < 2147483647 := by
  intro x hx
  obtain ⟨q, hq, rfl⟩ := List.mem_map.1 hx
  exact (pairsE_iff.1 hp q hq).1
theorem inter_fits {l : List (Int × Int)} (hp : pairsE l = true) (hd : diffX (Xs l) = true) : Fits 2147483647 l (fun x => interF l x) := by
  have h := lag_fits prI one_ndvd ivI_is l (diff_of hd (Xs_range hp))
  exact ⟨h.poly.of_E fun x => interF_E l x, fun q hq => (interF_E l q.1).trans (h.through q hq)⟩
theorem newt_fit {l : List (Int × Int)} (hp : pairsE l = true) (hd : diffX (Xs l) = true) (h0 : 0 < l.length) : Fits 2147483647 l (fun x => part l x l.length) := by
  have hD := diff_of hd (Xs_range hp)
  obtain ⟨m, hm⟩ : ∃ m, l.length = m + 1 := ⟨l.length - 1, by omega⟩
  have h := newt_fits prI ivI_is (X := Xp l) (Y := Yp l) (N := m) (fun a b hab hb he => by
    rw [Xp_get (by omega), Xp_get (by omega)] at he
    have := List.pairwise_iff_getElem.1 hD a b (by simp; omega) (by simp; omega) hab
    simp only [List.getElem_map] at this
    exact this he.symm) m 0 (by omega)
  rw [hm]
  refine ⟨by rw [hm]; exact h.1.poly, fun q hq => ?_⟩
  obtain ⟨j, hj, rfl⟩ := List.getElem_of_mem hq
  have h2 := h.2 j (by omega)
  rw [Nat.zero_add, Xp_get hj, Yp_get hj] at h2
  exact h2
theorem Nest.done {l : List (Int × Int)} {x v : Int} (h : Nest l x 0 v) (hv : 0 ≤ v ∧ v < 2147483647) (hp : pairsE l = true) (hd : diffX (Xs l) = true) (h0 : 0 < l.length) : v = interF l x := by
  have h1 := (newt_fit hp hd h0).same prI (inter_fits hp hd) (diff_of hd (Xs_range hp)) x
  unfold Nest at h
  have e : part l x 0 + prodN (Xp l) 0 x 0 * v = v := by show 0 + 1 * v = v; omega
  rw [e] at h
  exact (h.trans h1).eq hv.1 hv.2 (interF_range l x).1 (interF_range l x).2
end Go.Proofs.YtcdnddjoonecdaaDoor
