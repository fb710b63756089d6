/-
  Whether all points are of elements, and whether two have the same X (layer 6).
-/
import Derived.Test.YtcdnddjoonecdaaFdRef2
set_option linter.unusedVariables false
set_option maxRecDepth 100000
namespace Go.Proofs.Ytcdnddjoonecdaa
open Go.RowKit
open Fdp
def pairsE (l : List (Int × Int)) : Bool := l.all fun q => okE q.1 && okE q.2
theorem pairsE_iff {l : List (Int × Int)} : pairsE l = true ↔ ∀ q ∈ l, (0 ≤ q.1 ∧ q.1 < 2147483647) ∧ 0 ≤ q.2 ∧ q.2 < 2147483647 := by
  simp only [pairsE, List.all_eq_true, Bool.and_eq_true, okE_iff]
theorem pairsE_no {l : List (Int × Int)} {k : Nat} (hk : k < l.length) (h : okE l[k].1 = false ∨ okE l[k].2 = false) : pairsE l = false := by
  unfold pairsE; rw [List.all_eq_false]; exact ⟨_, List.getElem_mem hk, by rcases h with h | h <;> simp [h]⟩
theorem pairsE_upto {l : List (Int × Int)} (h : ∀ j (hj : j < l.length), okE l[j].1 = true ∧ okE l[j].2 = true) : pairsE l = true := by
  unfold pairsE; rw [List.all_eq_true]; intro x hx; obtain ⟨j, hj, rfl⟩ := List.getElem_of_mem hx; have := h j hj; simp [this.1, this.2]
set_option maxHeartbeats 1000000 in
theorem pairs_any (a : Option Addr) (n cap : Nat) (l : List (Int × Int)) (w : World) (h : PtsAt w a n l) (hn : n ≤ 1000000) :
    Calls Try.prog 31 #[.slice a n cap] w fun e w' => e = .returned (.bool (pairsE l)) ∧ Below w.heap.size w w' := by
  have HH := Lib.hid h
  clear h
  have D0 : Hid (Below w.heap.size w w) := Lib.hid (Below.refl _ _)
  go_enter Try.func31, Try.ntmps31
  go_wp2_with fail
  go_loopw [9] (fun i wr => ∃ k : Nat, k ≤ n ∧ i = .int .i64 k ∧ Hid (∀ j (hj : j < l.length), j < k → okE l[j].1 = true ∧ okE l[j].2 = true) ∧ Hid (Below w.heap.size w wr)) (fun i _ => n - (intOf i).toNat)
  case atStart => exact ⟨0, by omega, rfl, (show _ from fun j _ h => absurd h (by omega)), D0⟩
  case round =>
    obtain ⟨k, hk, rfl, hx, hD⟩ := hrel
    by_cases hlt : k < n
    · obtain ⟨b, off, rfl, hc⟩ := (HH.out.bel hD.out).cells (by omega)
      have hkl : k < l.length := by rw [← HH.out.len]; exact hlt
      obtain ⟨hc1, hc2⟩ := hc k hkl
      clear hc
      obtain ⟨x, hxk⟩ : ∃ x, x = l[k].1 := ⟨_, rfl⟩
      rw [← hxk] at hc1
      obtain ⟨y, hyk⟩ : ∃ y, y = l[k].2 := ⟨_, rfl⟩
      rw [← hyk] at hc2
      have HX := Lib.hid hxk
      have HY := Lib.hid hyk
      clear hxk hyk
      have i0 : ∀ w, (Instr.index 35 (.agg #[.int .i64 x, .int .i64 y]) (.int .i64 0)).run Try.prog w = .ok (.int .i64 x) w := fun _ => by kernel_rfl
      have i1 : ∀ w, (Instr.index 35 (.agg #[.int .i64 x, .int .i64 y]) (.int .i64 1)).run Try.prog w = .ok (.int .i64 y) w := fun _ => by kernel_rfl
      go_wp2_with fail
      refine wp_loop_rounds 3 ?_
      rw [rounds_succ]
      go_wp2_with fail
      have D1 : Hid (Below w.heap.size w ((wr.alloc (Obj.cells #[Value.int .i64 x, Value.int .i64 y] 35)).alloc (Obj.cells #[Value.int .i64 x] 3))) := Lib.hid ((hD.out.alloc hD.out.size _).alloc (by have := hD.out.size; simp; omega) _)
      cases h1 : okE x with
      | false =>
        have hb' : Hid (pairsE l = false) := Lib.hid (pairsE_no hkl (.inl (by rw [← HX.out]; exact h1)))
        have H1 := Lib.hid h1
        clear h1
        refine (elements_no _ _ _ [x] _ (ints_one _ _ (by simp)) (max_small (by decide)) (by rw [all_one]; exact H1.out)).mono ?_
        rintro e w' ⟨rfl, rfl⟩
        go_wp2_with fail
        go_ret
        exact ⟨by rw [hb'.out]; rfl, D1.out⟩
      | true =>
        have H1 := Lib.hid h1
        clear h1
        refine (elements_yes _ _ _ [x] _ (ints_one _ _ (by simp)) (max_small (by decide)) (by rw [all_one]; exact H1.out)).mono ?_
        rintro e w' ⟨rfl, rfl⟩
        go_wp2_with fail
        rw [rounds_succ]
        go_wp2_with fail
        have D2 := Lib.hid (D1.out.alloc (by have := hD.out.size; simp; omega) (Obj.cells #[Value.int .i64 y] 3))
        cases h2 : okE y with
        | false =>
          have hb' : Hid (pairsE l = false) := Lib.hid (pairsE_no hkl (.inr (by rw [← HY.out]; exact h2)))
          have H2 := Lib.hid h2
          clear h2
          refine (elements_no _ _ _ [y] _ (ints_one _ _ (by simp)) (max_small (by decide)) (by rw [all_one]; exact H2.out)).mono ?_
          rintro e w' ⟨rfl, rfl⟩
          go_wp2_with fail
          go_ret
          exact ⟨by rw [hb'.out]; rfl, D2.out⟩
        | true =>
          have H2 := Lib.hid h2
          clear h2
          refine (elements_yes _ _ _ [y] _ (ints_one _ _ (by simp)) (max_small (by decide)) (by rw [all_one]; exact H2.out)).mono ?_
          rintro e w' ⟨rfl, rfl⟩
          go_wp2_with fail
          rw [rounds_succ]
          go_wp2_with fail
          go_roundw
          case rel =>
            refine ⟨k + 1, by omega, by go_num, (show _ from fun j hj h => ?_), D2⟩
            by_cases e : j = k
            · subst e; rw [← HX.out, ← HY.out]; exact ⟨H1.out, H2.out⟩
            · exact hx.out j hj (by omega)
          case measure => simp [intOf]; omega
    · obtain rfl : k = n := by omega
      have hb : pairsE l = true := pairsE_upto fun j hj => hx.out j hj (by rw [HH.out.len]; exact hj)
      have HB := Lib.hid hb
      clear hb
      go_wp2_with fail
      go_ret
      exact ⟨by rw [HB.out]; rfl, hD.out⟩
/-- no two of them have the same X -/
def diffX (l : List Int) : Bool := decide (l.Pairwise fun a b => a ≠ b)
/-- so far no two are the same: those before k, and, of the next, those before m -/
def Dif (l : List Int) (k m : Nat) : Prop := ∀ i j (hi : i < l.length) (hj : j < l.length), j < i → (i < k ∨ (i = k ∧ j < m)) → l[i] ≠ l[j]
theorem Dif.start (l : List Int) : Dif l 0 0 := fun i j _ _ h h' => by omega
theorem Dif.row {l : List Int} {k : Nat} (h : Dif l k 0) (m : Nat) (hm : m = 0) : Dif l k m := by subst hm; exact h
theorem Dif.next {l : List Int} {k m : Nat} (h : Dif l k m) (hk : k < l.length) (hm : m < l.length) (hne : l[k] ≠ l[m]) : Dif l k (m + 1) := fun i j hi hj hlt h' => by
  by_cases e : i = k ∧ j = m
  · obtain ⟨rfl, rfl⟩ := e; exact hne
  · exact h i j hi hj hlt (by omega)
theorem Dif.done {l : List Int} {k : Nat} (h : Dif l k k) : Dif l (k + 1) 0 := fun i j hi hj hlt h' => h i j hi hj hlt (by omega)
theorem Dif.all {l : List Int} (h : Dif l l.length 0) : diffX l = true := by
  unfold diffX
  rw [decide_eq_true_iff, List.pairwise_iff_getElem]
  intro i j hi hj hlt e
  exact h j i hj hi hlt (.inl hj) e.symm
theorem Dif.no {l : List Int} {k m : Nat} (hk : k < l.length) (hm : m < l.length) (hlt : m < k) (e : l[k] = l[m]) : diffX l = false := by
  unfold diffX
  rw [decide_eq_false_iff_not, List.pairwise_iff_getElem]
  intro h
  exact h m k hm hk hlt e.symm
set_option maxHeartbeats 1000000 in
theorem repeats_any (a : Option Addr) (n cap : Nat) (l : List (Int × Int)) (w : World) (h : PtsAt w a n l) (hn : n ≤ 1000000) (hcap : n ≤ cap) (hcm : cap ≤ maxLen) :
    Calls Try.prog 32 #[.slice a n cap] w fun e w' => e = .returned (.bool (!diffX (Xs l))) ∧ Below w.heap.size w w' := by
  have HH := Lib.hid h
  clear h
  have hcm' : cap ≤ 9223372036854775807 := by unfold maxLen at hcm; omega
  clear hcm
  have hXl : (Xs l).length = l.length := by simp
  have HXL := Lib.hid hXl
  clear hXl
  have D0 : Hid (Below w.heap.size w w) := Lib.hid (Below.refl _ _)
  go_enter Try.func32, Try.ntmps32
  go_wp2_with fail
  go_loopw [9] (fun i wr => ∃ k : Nat, k ≤ n ∧ i = .int .i64 k ∧ Hid (Dif (Xs l) k 0) ∧ Hid (Below w.heap.size w wr)) (fun i _ => n - (intOf i).toNat)
  case atStart => exact ⟨0, by omega, rfl, Lib.hid (Dif.start _), D0⟩
  case round =>
    obtain ⟨k, hk, rfl, hx, hD⟩ := hrel
    by_cases hlt : k < n
    · obtain ⟨b, off, rfl, hc⟩ := (HH.out.bel hD.out).cells (by omega)
      have hkl : k < l.length := by rw [← HH.out.len]; exact hlt
      obtain ⟨hc1, hc2⟩ := hc k hkl
      have HC := Lib.hid hc
      clear hc
      obtain ⟨x, hxk⟩ : ∃ x, x = l[k].1 := ⟨_, rfl⟩
      rw [← hxk] at hc1
      obtain ⟨y, hyk⟩ : ∃ y, y = l[k].2 := ⟨_, rfl⟩
      rw [← hyk] at hc2
      have HX := Lib.hid hxk
      clear hxk hyk
      have c1 : (0 : Int) ≤ (k : Int) := by omega
      have c2 : (k : Int) ≤ (cap : Int) := by omega
      have c3 : k ≤ cap := by omega
      have c4 : ¬ cap = 0 := by omega
      have hDs := hD.out.size
      have D1 : Hid (Below w.heap.size w (wr.alloc (Obj.cells #[Value.int .i64 x, Value.int .i64 y] 35))) := Lib.hid (hD.out.alloc hD.out.size _)
      go_wp2_with fail
      obtain ⟨B, hB⟩ : ∃ B, B = wr.heap.size := ⟨_, rfl⟩
      have hblk := heap_lastF wr (Obj.cells #[Value.int .i64 x, Value.int .i64 y] 35)
      obtain ⟨W1, hW1⟩ : ∃ W, W = wr.alloc (Obj.cells #[Value.int .i64 x, Value.int .i64 y] 35) := ⟨_, rfl⟩
      rw [← hW1, ← hB] at hblk
      rw [← hW1] at D1
      rw [← hW1]
      simp only [← hB]
      have HBK := Lib.hid hblk
      have HW := Lib.hid hW1
      have HB := Lib.hid hB
      clear hblk hW1 hB hDs hc1 hc2
      obtain ⟨wo, rfl⟩ : ∃ wo : World, wo = wr := ⟨_, rfl⟩
      go_loopw [18] (fun i wq => ∃ m : Nat, m ≤ k ∧ i = .int .i64 m ∧ Hid (Dif (Xs l) k m) ∧ Hid (Below W1.heap.size W1 wq)) (fun i _ => k - (intOf i).toNat)
      case atStart => exact ⟨0, by omega, rfl, hx, Lib.hid (Below.refl _ _)⟩
      case round =>
        clear hx
        obtain ⟨m, hm, rfl, hx, hE⟩ := hrel
        have DQ : Hid (Below w.heap.size w wr) := Lib.hid (D1.out.trans (hE.out.mono D1.out.size))
        by_cases hml : m < k
        · have hml' : m < l.length := by omega
          obtain ⟨hc1, hc2⟩ := (HH.out.bel DQ.out).cell hml'
          obtain ⟨u, huk⟩ : ∃ u, u = l[m].1 := ⟨_, rfl⟩
          rw [← huk] at hc1
          obtain ⟨v, hvk⟩ : ∃ v, v = l[m].2 := ⟨_, rfl⟩
          rw [← hvk] at hc2
          have HU := Lib.hid huk
          clear huk hvk
          have hcb : wr.cell? ⟨B, 0, none⟩ = some (.int .i64 x) := by
            rw [Lib.cell_of_heap ((hE.out.block B (by
              rcases Nat.lt_or_ge B W1.heap.size with h' | h'
              · exact h'
              · have := HBK.out; simp [Array.getElem?_eq_none h'] at this)).trans HBK.out)]; rfl
          have hca : (wr.alloc (Obj.cells #[Value.int .i64 u, Value.int .i64 v] 35)).cell? ⟨B, 0, none⟩ = some (.int .i64 x) := (((Below.refl wr.heap.size wr).alloc (Nat.le_refl _) _).cell (p := ⟨B, 0, none⟩) (cell_ltF hcb)).trans hcb
          have D2 := Lib.hid (hE.out.alloc hE.out.size (Obj.cells #[Value.int .i64 u, Value.int .i64 v] 35))
          have D3 := Lib.hid (DQ.out.alloc DQ.out.size (Obj.cells #[Value.int .i64 u, Value.int .i64 v] 35))
          by_cases hxu : x = u
          · have hb' : Hid (diffX (Xs l) = false) := Lib.hid (Dif.no (by rw [HXL.out]; exact hkl) (by rw [HXL.out]; exact hml') hml (by simp; rw [← HX.out, ← HU.out]; exact hxu))
            have e1 : (x == u) = true := by rw [hxu]; simp
            clear hxu
            go_wp2_with fail
            go_ret
            exact ⟨by rw [hb'.out]; rfl, D3.out⟩
          · have hx2 : Hid (Dif (Xs l) k (m + 1)) := Lib.hid (hx.out.next (by rw [HXL.out]; exact hkl) (by rw [HXL.out]; exact hml') (by simp; rw [← HX.out, ← HU.out]; exact hxu))
            have e1 : (x == u) = false := by simpa using hxu
            clear hxu
            go_wp2_with fail
            go_roundw
            case rel => exact ⟨m + 1, by omega, by go_num, hx2, D2⟩
            case measure => simp [intOf]; omega
        · obtain rfl : m = k := by omega
          go_wp2_with fail
          go_roundw
          case rel => exact ⟨m + 1, by omega, by go_num, Lib.hid hx.out.done, DQ⟩
          case measure => simp [intOf]; omega
    · obtain rfl : k = n := by omega
      have hb : diffX (Xs l) = true := Dif.all (by rw [HXL.out, ← HH.out.len]; exact hx.out)
      have HB := Lib.hid hb
      clear hb
      go_wp2_with fail
      go_ret
      exact ⟨by rw [HB.out]; rfl, hD.out⟩
end Go.Proofs.Ytcdnddjoonecdaa
