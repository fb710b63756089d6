/-
  The document's own answers of layer 10: centres, distances.
-/
import Derived.Test.YtaebejhncjadhaaSkRefA
set_option linter.unusedVariables false
set_option maxRecDepth 100000
namespace Go.Proofs.Ytaebejhncjadhaa.Sk
open Go.RowKit
theorem results_pos {fn : Func} {p q : Tmp} (h : fn.results = #[.cell p 23, .tmp q]) (tmps : Array Value) (w : World) (g : Nat) (x y e : Int)
    (hp : tmps.getD p undef = .pointer (some ⟨g, 0, none⟩)) (hq : tmps.getD q undef = .int .i64 e) (hg : PosAt g x y w) :
    (results fn tmps).run Try.prog w = .ok (.tuple #[.agg #[.int .i64 x, .int .i64 y], .int .i64 e]) w := by
  have hp' : tmps[p]?.getD undef = .pointer (some ⟨g, 0, none⟩) := by simpa using hp
  have hq' : tmps[q]?.getD undef = .int .i64 e := by simpa using hq
  have k0 := hg.c0
  have k1 := hg.c1
  simp [results, h, hp', hq', asAddr, loadVar, go_sem, k0, k1]
theorem refCentre_any (t : Int) (w : World) : Calls Try.prog 14 #[.int .i64 t] w (GivesP (cenA t).1 (cenA t).2.1 (cenA t).2.2 w) := by
  have cI := Lib.hid (fun w => refIs_any t w)
  cases h : isT t with
  | false =>
    have HA : Hid (cenA t = (0, 0, 1)) := Lib.hid (by unfold cenA; rw [h]; rfl)
    rw [h] at cI
    rw [HA.out]
    clear h
    go_enter Try.func14, Try.ntmps14
    go_wp2_with fail
    refine (cI.out _).mono ?_
    rintro e w2 ⟨rfl, rfl⟩
    go_wp2_with fail
    refine bodyPost_ret (results_pos rfl _ _ w.heap.size _ _ _ rfl rfl (PosAt.new w _ _)) rfl ?_
    exact ⟨rfl, (Below.refl _ _).alloc (Nat.le_refl _) _⟩
  | true =>
    rw [h] at cI
    obtain ⟨k, rfl, hk⟩ := isT_yes h
    have HA := Lib.hid (cenA_ok hk)
    rw [HA.out]
    have e1 : Int.tmod (k : Int) 32 = ((k % 32 : Nat) : Int) := by rw [Int.tmod_eq_emod_of_nonneg (by omega)]; omega
    have e2 : Int.tdiv (k : Int) 32 = ((k / 32 : Nat) : Int) := by rw [Int.tdiv_eq_ediv_of_nonneg (by omega)]; omega
    have e3 : (k : Int) % 32 = ((k % 32 : Nat) : Int) := by omega
    have e4 : (k : Int) / 32 = ((k / 32 : Nat) : Int) := by omega
    have q1 : k % 32 < 32 := by omega
    have q2 : k / 32 < 16 := by omega
    generalize k % 32 = q at e1 e3 q1
    generalize k / 32 = r at e2 e4 q2
    have f1 : IntKind.i64.wrap ((q : Int) * 180) = (q : Int) * 180 := IntWalk.i64_in _ (by omega)
    have f2 : IntKind.i64.wrap ((q : Int) * 180 + 90) = ((q * 180 + 90 : Nat) : Int) := by rw [IntWalk.i64_in _ (by omega)]; omega
    have f3 : IntKind.i64.wrap ((r : Int) * 180) = (r : Int) * 180 := IntWalk.i64_in _ (by omega)
    have f4 : IntKind.i64.wrap ((r : Int) * 180 + 90) = ((r * 180 + 90 : Nat) : Int) := by rw [IntWalk.i64_in _ (by omega)]; omega
    generalize q * 180 + 90 = X at f2 ⊢
    generalize r * 180 + 90 = Y at f4 ⊢
    clear h
    go_enter Try.func14, Try.ntmps14
    go_wp2_with fail
    refine (cI.out _).mono ?_
    rintro e w2 ⟨rfl, rfl⟩
    go_wp2_with fail
    refine bodyPost_ret (results_pos rfl _ _ w.heap.size _ _ _ rfl rfl (PosAt.new w _ _)) rfl ?_
    exact ⟨rfl, (Below.refl _ _).alloc (Nat.le_refl _) _⟩
theorem refAround_any (a b : Nat) (ha : a < 32) (hb : b < 32) (w : World) : Calls Try.prog 32 #[.int .i64 (a : Int), .int .i64 (b : Int)] w fun e w' => e = .returned (.int .i64 ((aro a b : Nat) : Int)) ∧ w = w' := by
  have hc := aro_cases a b
  obtain ⟨R, hR⟩ : ∃ R, R = aro a b := ⟨_, rfl⟩
  rw [← hR] at hc ⊢
  have f1 : IntKind.i64.wrap ((a : Int) - (b : Int)) = (a : Int) - (b : Int) := IntWalk.i64_in _ (by omega)
  have f2 : IntKind.i64.wrap (0 - ((a : Int) - (b : Int))) = (b : Int) - (a : Int) := by rw [IntWalk.i64_in _ (by omega)]; omega
  have f3 : IntKind.i64.wrap (-((a : Int) - (b : Int))) = (b : Int) - (a : Int) := by rw [IntWalk.i64_in _ (by omega)]; omega
  have f4 : IntKind.i64.wrap (32 - ((a : Int) - (b : Int))) = 32 - ((a : Int) - (b : Int)) := IntWalk.i64_in _ (by omega)
  have f5 : IntKind.i64.wrap (32 - ((b : Int) - (a : Int))) = 32 - ((b : Int) - (a : Int)) := IntWalk.i64_in _ (by omega)
  clear hR
  by_cases h1 : (a : Int) - (b : Int) < 0
  · have t1 : decide ((a : Int) - (b : Int) < 0) = true := decide_eq_true h1
    by_cases h2 : 16 < (b : Int) - (a : Int)
    · have t2 : decide (16 < (b : Int) - (a : Int)) = true := decide_eq_true h2
      have hv : Hid ((R : Int) = 32 - ((b : Int) - (a : Int))) := Lib.hid (by omega)
      clear hc
      rw [hv.out]
      go_enter Try.func32, Try.ntmps32
      go_wp2_with fail
      go_ret
      exact ⟨rfl, rfl⟩
    · have t2 : decide (16 < (b : Int) - (a : Int)) = false := decide_eq_false h2
      have hv : Hid ((R : Int) = (b : Int) - (a : Int)) := Lib.hid (by omega)
      clear hc
      rw [hv.out]
      go_enter Try.func32, Try.ntmps32
      go_wp2_with fail
      go_ret
      exact ⟨rfl, rfl⟩
  · have t1 : decide ((a : Int) - (b : Int) < 0) = false := decide_eq_false h1
    by_cases h2 : 16 < (a : Int) - (b : Int)
    · have t2 : decide (16 < (a : Int) - (b : Int)) = true := decide_eq_true h2
      have hv : Hid ((R : Int) = 32 - ((a : Int) - (b : Int))) := Lib.hid (by omega)
      clear hc
      rw [hv.out]
      go_enter Try.func32, Try.ntmps32
      go_wp2_with fail
      go_ret
      exact ⟨rfl, rfl⟩
    · have t2 : decide (16 < (a : Int) - (b : Int)) = false := decide_eq_false h2
      have hv : Hid ((R : Int) = (a : Int) - (b : Int)) := Lib.hid (by omega)
      clear hc
      rw [hv.out]
      go_enter Try.func32, Try.ntmps32
      go_wp2_with fail
      go_ret
      exact ⟨rfl, rfl⟩
theorem refDistance_ok (a b : Nat) (ha : a < 512) (hb : b < 512) (w : World) : Calls Try.prog 16 #[.int .i64 (a : Int), .int .i64 (b : Int)] w fun e w' => e = .returned (.tuple #[.int .i64 ((dis a b : Nat) : Int), .int .i64 0]) ∧ w = w' := by
  have cA : Hid (∀ w, Calls Try.prog 30 #[.int .i64 (a : Int)] w fun e w' => e = .returned (.bool true) ∧ w = w') := Lib.hid (fun w => by have := refIs_any (a : Int) w; rwa [isT_nat ha] at this)
  have cB : Hid (∀ w, Calls Try.prog 30 #[.int .i64 (b : Int)] w fun e w' => e = .returned (.bool true) ∧ w = w') := Lib.hid (fun w => by have := refIs_any (b : Int) w; rwa [isT_nat hb] at this)
  have cR := Lib.hid (fun w => refAround_any (a % 32) (b % 32) (by omega) (by omega) w)
  have e1 : Int.tmod (a : Int) 32 = ((a % 32 : Nat) : Int) := by rw [Int.tmod_eq_emod_of_nonneg (by omega)]; omega
  have e2 : Int.tdiv (a : Int) 32 = ((a / 32 : Nat) : Int) := by rw [Int.tdiv_eq_ediv_of_nonneg (by omega)]; omega
  have e3 : (a : Int) % 32 = ((a % 32 : Nat) : Int) := by omega
  have e4 : (a : Int) / 32 = ((a / 32 : Nat) : Int) := by omega
  have e5 : Int.tmod (b : Int) 32 = ((b % 32 : Nat) : Int) := by rw [Int.tmod_eq_emod_of_nonneg (by omega)]; omega
  have e6 : Int.tdiv (b : Int) 32 = ((b / 32 : Nat) : Int) := by rw [Int.tdiv_eq_ediv_of_nonneg (by omega)]; omega
  have e7 : (b : Int) % 32 = ((b % 32 : Nat) : Int) := by omega
  have e8 : (b : Int) / 32 = ((b / 32 : Nat) : Int) := by omega
  have q1 : a / 32 < 16 := by omega
  have q2 : b / 32 < 16 := by omega
  obtain ⟨R, hR⟩ : ∃ R, R = dis a b := ⟨_, rfl⟩
  have hR2 : R = max (bnd (a / 32) (b / 32)) (aro (a % 32) (b % 32)) := hR
  rw [← hR]
  clear hR
  generalize aro (a % 32) (b % 32) = O at cR hR2
  generalize a % 32 = p at e1 e3 cR
  generalize b % 32 = q at e5 e7 cR
  generalize a / 32 = u at e2 e4 q1 hR2
  generalize b / 32 = v at e6 e8 q2 hR2
  unfold bnd at hR2
  have f1 : IntKind.i64.wrap ((u : Int) - (v : Int)) = (u : Int) - (v : Int) := IntWalk.i64_in _ (by omega)
  have f2 : IntKind.i64.wrap (0 - ((u : Int) - (v : Int))) = (v : Int) - (u : Int) := by rw [IntWalk.i64_in _ (by omega)]; omega
  have f3 : IntKind.i64.wrap (-((u : Int) - (v : Int))) = (v : Int) - (u : Int) := by rw [IntWalk.i64_in _ (by omega)]; omega
  by_cases h1 : (u : Int) - (v : Int) < 0
  · have t1 : decide ((u : Int) - (v : Int) < 0) = true := decide_eq_true h1
    have m1 : max ((v : Int) - (u : Int)) (O : Int) = (R : Int) := by omega
    clear hR2
    go_enter Try.func16, Try.ntmps16
    go_wp2_with fail
    refine (cA.out _).mono ?_
    rintro e w1 ⟨rfl, rfl⟩
    go_wp2_with fail
    refine (cB.out _).mono ?_
    rintro e w1 ⟨rfl, rfl⟩
    go_wp2_with fail
    refine (cR.out _).mono ?_
    rintro e w1 ⟨rfl, rfl⟩
    go_wp2_with fail
    go_ret2
    exact ⟨rfl, rfl⟩
  · have t1 : decide ((u : Int) - (v : Int) < 0) = false := decide_eq_false h1
    have m1 : max ((u : Int) - (v : Int)) (O : Int) = (R : Int) := by omega
    clear hR2
    go_enter Try.func16, Try.ntmps16
    go_wp2_with fail
    refine (cA.out _).mono ?_
    rintro e w1 ⟨rfl, rfl⟩
    go_wp2_with fail
    refine (cB.out _).mono ?_
    rintro e w1 ⟨rfl, rfl⟩
    go_wp2_with fail
    refine (cR.out _).mono ?_
    rintro e w1 ⟨rfl, rfl⟩
    go_wp2_with fail
    go_ret2
    exact ⟨rfl, rfl⟩
theorem refDistance_any (a b : Int) (w : World) : Calls Try.prog 16 #[.int .i64 a, .int .i64 b] w (GivesN (disA a b).1 (disA a b).2 w) := by
  have cA := Lib.hid (fun w => refIs_any a w)
  have cB := Lib.hid (fun w => refIs_any b w)
  cases ha : isT a with
  | false =>
    have HA : Hid (disA a b = (0, 1)) := Lib.hid (by unfold disA; rw [ha]; rfl)
    rw [HA.out]
    rw [ha] at cA
    clear ha
    go_enter Try.func16, Try.ntmps16
    go_wp2_with fail
    refine (cA.out _).mono ?_
    rintro e w1 ⟨rfl, rfl⟩
    go_wp2_with fail
    go_ret2
    exact ⟨rfl, Below.refl _ _⟩
  | true =>
    cases hb : isT b with
    | false =>
      have HA : Hid (disA a b = (0, 1)) := Lib.hid (by unfold disA; rw [ha, hb]; rfl)
      rw [HA.out]
      rw [ha] at cA
      rw [hb] at cB
      clear ha hb
      go_enter Try.func16, Try.ntmps16
      go_wp2_with fail
      refine (cA.out _).mono ?_
      rintro e w1 ⟨rfl, rfl⟩
      go_wp2_with fail
      refine (cB.out _).mono ?_
      rintro e w1 ⟨rfl, rfl⟩
      go_wp2_with fail
      go_ret2
      exact ⟨rfl, Below.refl _ _⟩
    | true =>
      obtain ⟨k, rfl, hk⟩ := isT_yes ha
      obtain ⟨l, rfl, hl⟩ := isT_yes hb
      rw [disA_ok hk hl]
      refine (refDistance_ok k l hk hl w).mono ?_
      rintro e w1 ⟨rfl, rfl⟩
      exact ⟨rfl, Below.refl _ _⟩
end Go.Proofs.Ytaebejhncjadhaa.Sk
