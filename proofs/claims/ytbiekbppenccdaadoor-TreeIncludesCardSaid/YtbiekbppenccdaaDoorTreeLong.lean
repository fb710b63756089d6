import Derived.Test.YtbiekbppenccdaaDoorTreeCheck
set_option linter.unusedVariables false
namespace Go.Proofs.YtbiekbppenccdaaDoor
open Go.RowKit
theorem longB_end (n : Nat) (b : Bool) : longB n n b = if b then 0 else 1 := by rw [longB, if_pos rfl]
theorem longB_big {n m : Nat} (b : Bool) (h : 2 ≤ n) (hm : m ≠ n) : longB n m b = if m ≤ half n then 1 + longB (half n) m b else 1 + longB (n - half n) (m - half n) false := by rw [longB, if_neg hm, dif_pos h]
theorem longB_le : ∀ (n m : Nat) (b : Bool), longB n m b ≤ n + 1 := by
  intro n
  induction n using Nat.strongRecOn with
  | _ n ih =>
    intro m b
    by_cases e : m = n
    · subst e; rw [longB_end]; split <;> omega
    · by_cases h2 : 2 ≤ n
      · have k1 := half_pos h2
        have k2 := half_lt h2
        rw [longB_big b h2 e]
        split
        · have := ih (half n) (by omega) m b; omega
        · have := ih (n - half n) (by omega) (m - half n) false; omega
      · rw [longB, if_neg e, dif_neg h2]; omega
set_option maxHeartbeats 400000 in
theorem reflong_end (n : Int) (b : Bool) (w : World) :
    Calls Tryd.prog 50 #[.int .i64 n, .int .i64 n, .bool b] w fun e w' => e = .returned (.int .i64 (if b then 0 else 1)) ∧ w = w' := by
  cases b <;>
  · go_enter Tryd.func50, Tryd.ntmps50
    go_wp2_with fail
    go_ret
    exact ⟨rfl, rfl⟩
set_option maxHeartbeats 400000 in
theorem reflong_step (n m : Nat) (b : Bool) (w : World) (h2 : 2 ≤ n) (hn : n ≤ 1099511627776) (hm0 : 0 < m) (hm : m < n)
    (hlo : m ≤ half n → Calls Tryd.prog 50 #[.int .i64 (half n : Nat), .int .i64 (m : Int), .bool b] w fun e w' => e = .returned (.int .i64 (longB (half n) m b : Nat)) ∧ w = w')
    (hhi : ¬ m ≤ half n → Calls Tryd.prog 50 #[.int .i64 ((n - half n : Nat) : Int), .int .i64 ((m - half n : Nat) : Int), .bool false] w fun e w' => e = .returned (.int .i64 (longB (n - half n) (m - half n) false : Nat)) ∧ w = w') :
    Calls Tryd.prog 50 #[.int .i64 (n : Int), .int .i64 (m : Int), .bool b] w fun e w' => e = .returned (.int .i64 (longB n m b : Nat)) ∧ w = w' := by
  have HLO := Lib.hid hlo
  have HHI := Lib.hid hhi
  clear hlo hhi
  have k1 := half_pos h2
  have k2 := half_lt h2
  have l1 := longB_le (half n) m b
  have l2 := longB_le (n - half n) (m - half n) false
  have t1 : ((m : Int) == n) = false := beq_eq_false_iff_ne.2 (by omega)
  have HB := Lib.hid (longB_big b h2 (by omega : m ≠ n))
  by_cases hlt : m ≤ half n
  · rw [if_pos hlt] at HB
    go_enter Tryd.func50, Tryd.ntmps50
    go_wp2_with fail
    refine (half_any _ _ h2 hn).mono ?_
    rintro e w1 ⟨rfl, rfl⟩
    go_wp2_with fail
    refine (HLO.out hlt).mono ?_
    rintro e w1 ⟨rfl, rfl⟩
    go_wp2_with fail
    go_ret
    exact ⟨by rw [HB.out]; go_num, rfl⟩
  · rw [if_neg hlt] at HB
    have i4 : IntKind.i64.wrap ((m : Int) - (half n : Int)) = ((m - half n : Nat) : Int) := by rw [IntWalk.i64_in _ (by omega)]; omega
    have i5 : IntKind.i64.wrap ((n : Int) - (half n : Int)) = ((n - half n : Nat) : Int) := by rw [IntWalk.i64_in _ (by omega)]; omega
    go_enter Tryd.func50, Tryd.ntmps50
    go_wp2_with fail
    refine (half_any _ _ h2 hn).mono ?_
    rintro e w1 ⟨rfl, rfl⟩
    go_wp2_with fail
    refine (HHI.out hlt).mono ?_
    rintro e w1 ⟨rfl, rfl⟩
    go_wp2_with fail
    go_ret
    exact ⟨by rw [HB.out]; go_num, rfl⟩
theorem reflong_any : ∀ (n m : Nat) (b : Bool) (w : World), n ≤ 1099511627776 → 0 < m → m ≤ n →
    Calls Tryd.prog 50 #[.int .i64 (n : Int), .int .i64 (m : Int), .bool b] w fun e w' => e = .returned (.int .i64 (longB n m b : Nat)) ∧ w = w' := by
  intro n
  induction n using Nat.strongRecOn with
  | _ n ih =>
    intro m b w hn hm0 hm
    by_cases e : m = n
    · subst e
      rw [longB_end]
      refine (reflong_end m b w).mono ?_
      rintro e w' ⟨rfl, rfl⟩
      exact ⟨by cases b <;> rfl, rfl⟩
    · have h2 : 2 ≤ n := by omega
      have k1 := half_pos h2
      have k2 := half_lt h2
      exact reflong_step n m b w h2 hn hm0 (by omega) (fun h => ih _ (by omega) m b w (by omega) hm0 h) (fun h => ih _ (by omega) _ false w (by omega) (by omega) (by omega))
end Go.Proofs.YtbiekbppenccdaaDoor
