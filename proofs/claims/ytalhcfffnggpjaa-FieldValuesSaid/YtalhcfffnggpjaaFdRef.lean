/-
  The document's own answers: elements, products, differences, powers, Add, Mul, Inverse, Eval (layer 6).
-/
import Derived.Test.YtalhcfffnggpjaaFdEval
set_option linter.unusedVariables false
set_option maxRecDepth 100000
namespace Go.Proofs.Ytalhcfffnggpjaa
open Go.RowKit
open Fdp
theorem refin_any (x : Int) (w : World) : Calls Try.prog 28 #[.int .i64 x] w fun e w' => e = .returned (.bool (okE x)) ∧ w = w' := by
  by_cases h1 : x < 0
  · have hb : Hid (okE x = false) := Lib.hid (okE_no.2 (.inl h1))
    have e1 : ¬ 0 ≤ x := by omega
    go_enter Try.func28, Try.ntmps28
    go_wp2_with fail
    go_ret
    exact ⟨by rw [hb.out]; rfl, rfl⟩
  · have e1 : 0 ≤ x := by omega
    by_cases h2 : x ≤ 2147483646
    · have hb : Hid (okE x = true) := Lib.hid (okE_iff.2 ⟨e1, by omega⟩)
      go_enter Try.func28, Try.ntmps28
      go_wp2_with fail
      go_ret
      exact ⟨by rw [hb.out]; rfl, rfl⟩
    · have hb : Hid (okE x = false) := Lib.hid (okE_no.2 (.inr (by omega)))
      have e2 : 2147483646 < x := by omega
      go_enter Try.func28, Try.ntmps28
      go_wp2_with fail
      go_ret
      exact ⟨by rw [hb.out]; rfl, rfl⟩
theorem refin_yes (x : Int) (w : World) (h : okE x = true) : Calls Try.prog 28 #[.int .i64 x] w fun e w' => e = .returned (.bool true) ∧ w = w' := by
  rw [← h]; exact refin_any x w
theorem refin_no (x : Int) (w : World) (h : okE x = false) : Calls Try.prog 28 #[.int .i64 x] w fun e w' => e = .returned (.bool false) ∧ w = w' := by
  rw [← h]; exact refin_any x w
theorem refprod_any (a b : Int) (w : World) (ha : 0 ≤ a ∧ a < 2147483647) (hb : 0 ≤ b ∧ b < 2147483647) :
    Calls Try.prog 30 #[.int .i64 a, .int .i64 b] w fun e w' => e = .returned (.int .i64 (mulF a b)) ∧ w = w' := by
  obtain ⟨h1, h2, h3⟩ := mul_walk ha hb
  clear ha hb
  go_enter Try.func30, Try.ntmps30
  go_wp2_with fail
  go_ret
  exact ⟨rfl, rfl⟩
theorem refdif_any (a b : Int) (w : World) (ha : 0 ≤ a ∧ a < 2147483647) (hb : 0 ≤ b ∧ b < 2147483647) :
    Calls Try.prog 37 #[.int .i64 a, .int .i64 b] w fun e w' => e = .returned (.int .i64 (difF a b)) ∧ w = w' := by
  have h0 : IntKind.i64.wrap (a - b) = a - b := IntWalk.i64_in _ (by omega)
  have h1 : IntKind.i64.wrap (a - b + 2147483647) = a - b + 2147483647 := IntWalk.i64_in _ (by omega)
  have h2 : (a - b + 2147483647).tmod 2147483647 = difF a b := by rw [Int.tmod_eq_emod_of_nonneg (by omega)]; rfl
  have h3 : IntKind.i64.wrap (difF a b) = difF a b := IntWalk.i64_in _ (by have := difF_range a b; omega)
  clear ha hb
  go_enter Try.func37, Try.ntmps37
  go_wp2_with fail
  go_ret
  exact ⟨rfl, rfl⟩
set_option maxHeartbeats 400000 in
theorem refpower_any (a : Int) (n : Nat) (w : World) (ha : 0 ≤ a ∧ a < 2147483647) (hn : n ≤ 2147483645) :
    Calls Try.prog 32 #[.int .i64 a, .int .i64 (n : Int)] w fun e w' => e = .returned (.int .i64 (powF a n)) ∧ w = w' := by
  obtain ⟨r, hr⟩ : ∃ r, r = powF a n := ⟨_, rfl⟩
  rw [← hr]
  have hP : Hid (Pw 1 a n r) := Lib.hid (by rw [hr]; exact Pw.start ha.1 _)
  have hrr : Hid (0 ≤ r ∧ r < 2147483647) := Lib.hid (by rw [hr]; exact powF_range a n)
  clear hr
  go_enter Try.func32, Try.ntmps32
  go_wp2_with fail
  go_loop [0, 1, 5] (fun x n p => ∃ (X q : Int) (k : Nat), k ≤ 2147483645 ∧ x = .int .i64 X ∧ p = .int .i64 q ∧ n = .int .i64 (k : Int) ∧ Hid (0 ≤ X ∧ X < 2147483647) ∧ Hid (0 ≤ q ∧ q < 2147483647) ∧ Hid (Pw q X k r)) (fun _ n _ => (intOf n).toNat)
  case atStart => exact ⟨a, 1, n, by omega, rfl, rfl, rfl, Lib.hid ha, Lib.hid (by omega), hP⟩
  case round =>
    obtain ⟨X, q, k, hk, rfl, rfl, rfl, hX, hq, hP'⟩ := hrel
    by_cases h0 : 0 < k
    · obtain ⟨k2, hk2⟩ : ∃ k2, k2 = k / 2 := ⟨_, rfl⟩
      have hlt : k2 < k := by omega
      have e2 : (k : Int).tdiv 2 = (k2 : Int) := by rw [Int.tdiv_eq_ediv_of_nonneg (by omega)]; omega
      have e3 : IntKind.i64.wrap (k2 : Int) = (k2 : Int) := IntWalk.i64_in _ (by omega)
      by_cases h1 : k % 2 = 1
      · have e1 : (k : Int).tmod 2 = 1 := by rw [Int.tmod_eq_emod_of_nonneg (by omega)]; omega
        have hP2 : Hid (Pw (mulF q X) (mulF X X) k2 r) := Lib.hid (by rw [hk2]; exact hP'.out.odd h1)
        have HK := Lib.hid hk2
        clear hk2
        go_wp2_with (first | (go_at_call 30; refine (refprod_any _ _ _ (by first | exact hq.out | exact hX.out) hX.out).mono ?_; rintro e w' ⟨rfl, rfl⟩))
        go_round
        case rel => exact ⟨_, _, k2, by omega, rfl, rfl, rfl, Lib.hid (mulF_range _ _), Lib.hid (mulF_range _ _), hP2⟩
        case measure => simp [intOf]; omega
      · have e1 : (k : Int).tmod 2 = 0 := by rw [Int.tmod_eq_emod_of_nonneg (by omega)]; omega
        have hP2 : Hid (Pw q (mulF X X) k2 r) := Lib.hid (by rw [hk2]; exact hP'.out.even (by omega))
        have HK := Lib.hid hk2
        clear hk2 h1
        go_wp2_with (first | (go_at_call 30; refine (refprod_any _ _ _ hX.out hX.out).mono ?_; rintro e w' ⟨rfl, rfl⟩))
        go_round
        case rel => exact ⟨_, _, k2, by omega, rfl, rfl, rfl, Lib.hid (mulF_range _ _), hq, hP2⟩
        case measure => simp [intOf]; omega
    · obtain rfl : k = 0 := by omega
      have e : q = r := hP'.out.done hq.out hrr.out
      subst e
      go_wp2_with fail
      go_ret
      exact ⟨rfl, rfl⟩
theorem refinv_any (a : Int) (w : World) (ha : 0 ≤ a ∧ a < 2147483647) :
    Calls Try.prog 32 #[.int .i64 a, .int .i64 2147483645] w fun e w' => e = .returned (.int .i64 (ivI a)) ∧ w = w' := by
  rw [ivI_powF ha]; exact refpower_any a 2147483645 w ha (by decide)
set_option maxHeartbeats 400000 in
theorem refall_any (a : Option Addr) (n cap : Nat) (l : List Int) (w : World) (h : IntsAt w a n l) (hn : n ≤ maxLen) :
    Calls Try.prog 33 #[.slice a n cap] w fun e w' => e = .returned (.bool (allE l)) ∧ w = w' := by
  unfold maxLen at hn
  have HH := Lib.hid h
  clear h
  go_enter Try.func33, Try.ntmps33
  go_wp2_with fail
  go_loop [3] (fun i => ∃ k : Nat, k ≤ n ∧ i = .int .i64 k ∧ Hid (∀ j (hj : j < l.length), j < k → okE l[j] = true)) (fun i => n - (intOf i).toNat)
  case atStart => exact ⟨0, by omega, rfl, (show _ from fun j _ h => absurd h (by omega))⟩
  case round =>
    obtain ⟨k, hk, rfl, hx⟩ := hrel
    by_cases hlt : k < n
    · obtain ⟨b, off, rfl, hc⟩ := HH.out.cells (by omega)
      have hkl : k < l.length := by rw [← HH.out.len]; exact hlt
      have hcell := hc k hkl
      clear hc
      obtain ⟨x, hxk⟩ : ∃ x, x = l[k] := ⟨_, rfl⟩
      rw [← hxk] at hcell
      have HX := Lib.hid hxk
      clear hxk
      cases hb : okE x with
      | false =>
        have hb' : Hid (allE l = false) := Lib.hid (allE_no hkl (by rw [← HX.out]; exact hb))
        have HB := Lib.hid hb
        clear hb
        go_wp2_with (go_at_call 28; refine (refin_no _ _ HB.out).mono ?_; rintro e w' ⟨rfl, rfl⟩)
        go_ret
        exact ⟨by rw [hb'.out]; rfl, rfl⟩
      | true =>
        have HB := Lib.hid hb
        clear hb
        go_wp2_with (go_at_call 28; refine (refin_yes _ _ HB.out).mono ?_; rintro e w' ⟨rfl, rfl⟩)
        go_round
        case rel =>
          refine ⟨k + 1, by omega, by go_num, (show _ from fun j hj h => ?_)⟩
          by_cases e : j = k
          · subst e; rw [← HX.out]; exact HB.out
          · exact hx.out j hj (by omega)
        case measure => simp [intOf]; omega
    · obtain rfl : k = n := by omega
      have hb : allE l = true := allE_upto fun j hj => hx.out j hj (by rw [HH.out.len]; exact hj)
      have HB := Lib.hid hb
      clear hb
      go_wp2_with fail
      go_ret
      exact ⟨by rw [HB.out]; rfl, rfl⟩
end Go.Proofs.Ytalhcfffnggpjaa
