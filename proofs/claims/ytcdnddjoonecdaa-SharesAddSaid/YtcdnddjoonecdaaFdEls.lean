/-
  The field's elements: sums, differences, products, and whether all of a list are elements (layer 6).
-/
import Derived.Test.YtcdnddjoonecdaaFdAt
set_option linter.unusedVariables false
set_option maxRecDepth 100000
namespace Go.Proofs.Ytcdnddjoonecdaa
open Go.RowKit
set_option maxHeartbeats 400000 in
theorem elements_any (a : Option Addr) (n cap : Nat) (l : List Int) (w : World) (h : IntsAt w a n l) (hn : n ≤ maxLen) :
    Calls Try.prog 27 #[.slice a n cap] w fun e w' => e = .returned (.bool (allE l)) ∧ w = w' := by
  unfold maxLen at hn
  have HH := Lib.hid h
  clear h
  go_enter Try.func27, Try.ntmps27
  go_wp2_with fail
  go_loop [7] (fun i => ∃ k : Nat, k ≤ n ∧ i = .int .i64 k ∧ Hid (∀ j (hj : j < l.length), j < k → okE l[j] = true)) (fun i => n - (intOf i).toNat)
  case atStart => exact ⟨0, by omega, rfl, (show _ from fun j _ h => absurd h (by omega))⟩
  case round =>
    obtain ⟨k, hk, rfl, hx⟩ := hrel
    by_cases hlt : k < n
    · obtain ⟨b, off, rfl, hc⟩ := HH.out.cells (by omega)
      have hkl : k < l.length := by rw [← HH.out.len]; exact hlt
      have hcell := hc k hkl
      clear hc
      obtain ⟨x, hxk⟩ : ∃ x, x = l[k] := ⟨_, rfl⟩
      rw [← hxk] at hcell
      have HX := Lib.hid hxk
      clear hxk
      by_cases h1 : x < 0
      · have hb : allE l = false := allE_no hkl (by rw [← HX.out]; exact okE_no.2 (.inl h1))
        have HB := Lib.hid hb
        clear hb
        go_wp2_with fail
        go_ret
        exact ⟨by rw [HB.out]; rfl, rfl⟩
      · by_cases h2 : 2147483647 ≤ x
        · have hb : allE l = false := allE_no hkl (by rw [← HX.out]; exact okE_no.2 (.inr h2))
          have HB := Lib.hid hb
          clear hb
          go_wp2_with fail
          go_ret
          exact ⟨by rw [HB.out]; rfl, rfl⟩
        · have h1' : 0 ≤ x := by omega
          have h2' : x < 2147483647 := by omega
          go_wp2_with fail
          go_round
          case rel =>
            refine ⟨k + 1, by omega, by go_num, (show _ from fun j hj h => ?_)⟩
            by_cases e : j = k
            · subst e; rw [← HX.out]; exact okE_iff.2 ⟨h1', h2'⟩
            · exact hx.out j hj (by omega)
          case measure => simp [intOf]; omega
    · obtain rfl : k = n := by omega
      have hb : allE l = true := allE_upto fun j hj => hx.out j hj (by rw [HH.out.len]; exact hj)
      have HB := Lib.hid hb
      clear hb
      go_wp2_with fail
      go_ret
      exact ⟨by rw [HB.out]; rfl, rfl⟩
theorem fsum_any (a b : Int) (w : World) (ha : 0 ≤ a ∧ a < 2147483647) (hb : 0 ≤ b ∧ b < 2147483647) :
    Calls Try.prog 28 #[.int .i64 a, .int .i64 b] w fun e w' => e = .returned (.int .i64 (sumF a b)) ∧ w = w' := by
  have h1 : IntKind.i64.wrap (a + b) = a + b := IntWalk.i64_in _ (by omega)
  have h2 : (a + b).tmod 2147483647 = sumF a b := by rw [Int.tmod_eq_emod_of_nonneg (by omega)]; rfl
  have h3 : IntKind.i64.wrap (sumF a b) = sumF a b := IntWalk.i64_in _ (by have := sumF_range a b; omega)
  clear ha hb
  go_enter Try.func28, Try.ntmps28
  go_wp2_with fail
  go_ret
  exact ⟨rfl, rfl⟩
theorem dif_any (a b : Int) (w : World) (ha : 0 ≤ a ∧ a < 2147483647) (hb : 0 ≤ b ∧ b < 2147483647) :
    Calls Try.prog 35 #[.int .i64 a, .int .i64 b] w fun e w' => e = .returned (.int .i64 (difF a b)) ∧ w = w' := by
  have h0 : IntKind.i64.wrap (a - b) = a - b := IntWalk.i64_in _ (by omega)
  have h1 : IntKind.i64.wrap (a - b + 2147483647) = a - b + 2147483647 := IntWalk.i64_in _ (by omega)
  have h2 : (a - b + 2147483647).tmod 2147483647 = difF a b := by rw [Int.tmod_eq_emod_of_nonneg (by omega)]; rfl
  have h3 : IntKind.i64.wrap (difF a b) = difF a b := IntWalk.i64_in _ (by have := difF_range a b; omega)
  clear ha hb
  go_enter Try.func35, Try.ntmps35
  go_wp2_with fail
  go_ret
  exact ⟨rfl, rfl⟩
theorem product_any (a b : Int) (w : World) (ha : 0 ≤ a ∧ a < 2147483647) (hb : 0 ≤ b ∧ b < 2147483647) :
    Calls Try.prog 30 #[.int .i64 a, .int .i64 b] w fun e w' => e = .returned (.int .i64 (mulF a b)) ∧ w = w' := by
  obtain ⟨h1, h2, h3⟩ := mul_walk ha hb
  clear ha hb
  go_enter Try.func30, Try.ntmps30
  go_wp2_with fail
  go_ret
  exact ⟨rfl, rfl⟩
end Go.Proofs.Ytcdnddjoonecdaa
