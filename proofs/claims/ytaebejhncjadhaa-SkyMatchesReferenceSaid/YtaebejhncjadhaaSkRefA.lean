/-
  The document's own answers of layer 10: tiles, cells, centres.
-/
import Derived.Test.YtaebejhncjadhaaSkAt
set_option linter.unusedVariables false
set_option maxRecDepth 100000
namespace Go.Proofs.Ytaebejhncjadhaa.Sk
open Go.RowKit
theorem refIs_any (t : Int) (w : World) : Calls Try.prog 30 #[.int .i64 t] w fun e w' => e = .returned (.bool (isT t)) ∧ w = w' := by
  obtain ⟨b, hb0⟩ : ∃ b, b = isT t := ⟨_, rfl⟩
  have HB := Lib.hid hb0
  rw [← hb0]
  clear hb0
  by_cases h1 : 0 ≤ t
  · by_cases h2 : t < 512
    · have hb : Hid (b = true) := Lib.hid (by rw [HB.out]; simp [isT, h1, h2])
      go_enter Try.func30, Try.ntmps30
      go_wp2_with fail
      go_ret
      exact ⟨by rw [hb.out]; rfl, rfl⟩
    · have hb : Hid (b = false) := Lib.hid (by rw [HB.out]; simp [isT, h1, h2])
      have t2 : decide (t < 512) = false := decide_eq_false h2
      clear h2
      go_enter Try.func30, Try.ntmps30
      go_wp2_with fail
      go_ret
      exact ⟨by rw [hb.out]; rfl, rfl⟩
  · have hb : Hid (b = false) := Lib.hid (by rw [HB.out]; simp [isT, h1])
    go_enter Try.func30, Try.ntmps30
    go_wp2_with fail
    go_ret
    exact ⟨by rw [hb.out]; rfl, rfl⟩
theorem refValid_any (x y : Int) (w : World) : Calls Try.prog 26 #[.agg #[.int .i64 x, .int .i64 y]] w fun e w' => e = .returned (.bool (okP x y)) ∧ Below w.heap.size w w' := by
  obtain ⟨b, hb0⟩ : ∃ b, b = okP x y := ⟨_, rfl⟩
  have HB := Lib.hid hb0
  have D := Lib.hid ((Below.refl w.heap.size w).alloc (Nat.le_refl _) (Obj.cells #[Value.int .i64 x, Value.int .i64 y] 23))
  rw [← hb0]
  clear hb0
  by_cases h1 : 0 ≤ x
  · have t1 : decide (0 ≤ x) = true := decide_eq_true h1
    by_cases h2 : x < 5760
    · have t2 : decide (x < 5760) = true := decide_eq_true h2
      by_cases h3 : 0 ≤ y
      · have t3 : decide (0 ≤ y) = true := decide_eq_true h3
        by_cases h4 : y < 2880
        · have t4 : decide (y < 2880) = true := decide_eq_true h4
          have hb : Hid (b = true) := Lib.hid (by rw [HB.out]; simp [okP]; omega)
          go_enter Try.func26, Try.ntmps26
          go_wp2_with fail
          go_ret
          exact ⟨by rw [hb.out]; rfl, D.out⟩
        · have t4 : decide (y < 2880) = false := decide_eq_false h4
          have hb : Hid (b = false) := Lib.hid (by rw [HB.out]; simp [okP]; omega)
          clear h4
          go_enter Try.func26, Try.ntmps26
          go_wp2_with fail
          go_ret
          exact ⟨by rw [hb.out]; rfl, D.out⟩
      · have t3 : decide (0 ≤ y) = false := decide_eq_false h3
        have hb : Hid (b = false) := Lib.hid (by rw [HB.out]; simp [okP]; omega)
        clear h3
        go_enter Try.func26, Try.ntmps26
        go_wp2_with fail
        go_ret
        exact ⟨by rw [hb.out]; rfl, D.out⟩
    · have t2 : decide (x < 5760) = false := decide_eq_false h2
      have hb : Hid (b = false) := Lib.hid (by rw [HB.out]; simp [okP]; omega)
      clear h2
      go_enter Try.func26, Try.ntmps26
      go_wp2_with fail
      go_ret
      exact ⟨by rw [hb.out]; rfl, D.out⟩
  · have t1 : decide (0 ≤ x) = false := decide_eq_false h1
    have hb : Hid (b = false) := Lib.hid (by rw [HB.out]; simp [okP]; omega)
    clear h1
    go_enter Try.func26, Try.ntmps26
    go_wp2_with fail
    go_ret
    exact ⟨by rw [hb.out]; rfl, D.out⟩
theorem refTile_any (x y : Int) (w : World) : Calls Try.prog 10 #[.agg #[.int .i64 x, .int .i64 y]] w (GivesN (tilA x y).1 (tilA x y).2 w) := by
  have cV := Lib.hid (fun w => refValid_any x y w)
  have hb0 : Below w.heap.size w (w.alloc (Obj.cells #[Value.int .i64 x, Value.int .i64 y] 23)) := (Below.refl w.heap.size w).alloc (Nat.le_refl _) _
  have hp0 := PosAt.new w x y
  obtain ⟨W1, hW1⟩ : ∃ W1, W1 = w.alloc (Obj.cells #[Value.int .i64 x, Value.int .i64 y] 23) := ⟨_, rfl⟩
  rw [← hW1] at hb0 hp0
  have D0 := Lib.hid hb0
  have P0 := Lib.hid hp0
  clear hb0 hp0
  cases h : okP x y with
  | false =>
    have HA : Hid (tilA x y = (0, 1)) := Lib.hid (by unfold tilA; rw [h]; rfl)
    rw [h] at cV
    rw [HA.out]
    clear h
    go_enter Try.func10, Try.ntmps10
    go_wp2_with fail
    rw [← hW1]
    refine (cV.out _).mono ?_
    rintro e w2 ⟨rfl, hb⟩
    have D1 := Lib.hid (D0.out.trans (hb.mono D0.out.size))
    clear hb
    go_wp2_with fail
    go_ret2
    exact ⟨rfl, D1.out⟩
  | true =>
    rw [h] at cV
    obtain ⟨a, b, rfl, rfl, ha, hb⟩ := okP_yes h
    have HA := Lib.hid (tilA_ok ha hb)
    rw [HA.out]
    have e1 : Int.tdiv (a : Int) 180 = ((a / 180 : Nat) : Int) := by rw [Int.tdiv_eq_ediv_of_nonneg (by omega)]; omega
    have e2 : Int.tdiv (b : Int) 180 = ((b / 180 : Nat) : Int) := by rw [Int.tdiv_eq_ediv_of_nonneg (by omega)]; omega
    have e3 : (a : Int) / 180 = ((a / 180 : Nat) : Int) := by omega
    have e4 : (b : Int) / 180 = ((b / 180 : Nat) : Int) := by omega
    have q1 : a / 180 < 32 := by omega
    have q2 : b / 180 < 16 := by omega
    obtain ⟨S, hS⟩ : ∃ S, S = tilN a b := ⟨_, rfl⟩
    have hS2 : S = 32 * (b / 180) + a / 180 := hS
    rw [← hS]
    clear hS
    generalize a / 180 = q at e1 e3 q1 hS2
    generalize b / 180 = r at e2 e4 q2 hS2
    have f1 : IntKind.i64.wrap (32 * (r : Int)) = 32 * (r : Int) := IntWalk.i64_in _ (by omega)
    have f2 : IntKind.i64.wrap (32 * (r : Int) + (q : Int)) = (S : Int) := by rw [IntWalk.i64_in _ (by omega)]; omega
    clear hS2
    clear h
    go_enter Try.func10, Try.ntmps10
    go_wp2_with fail
    rw [← hW1]
    refine (cV.out _).mono ?_
    rintro e w2 ⟨rfl, hb⟩
    have D1 := Lib.hid (D0.out.trans (hb.mono D0.out.size))
    have P1 := Lib.hid (P0.out.bel hb)
    have c0 := P1.out.c0
    have c1 := P1.out.c1
    clear hb
    go_wp2_with fail
    go_ret2
    exact ⟨rfl, D1.out⟩
theorem refCell_any (x y : Int) (w : World) : Calls Try.prog 12 #[.agg #[.int .i64 x, .int .i64 y]] w (GivesN (celA x y).1 (celA x y).2 w) := by
  have cV := Lib.hid (fun w => refValid_any x y w)
  have hb0 : Below w.heap.size w (w.alloc (Obj.cells #[Value.int .i64 x, Value.int .i64 y] 23)) := (Below.refl w.heap.size w).alloc (Nat.le_refl _) _
  have hp0 := PosAt.new w x y
  obtain ⟨W1, hW1⟩ : ∃ W1, W1 = w.alloc (Obj.cells #[Value.int .i64 x, Value.int .i64 y] 23) := ⟨_, rfl⟩
  rw [← hW1] at hb0 hp0
  have D0 := Lib.hid hb0
  have P0 := Lib.hid hp0
  clear hb0 hp0
  cases h : okP x y with
  | false =>
    have HA : Hid (celA x y = (0, 1)) := Lib.hid (by unfold celA; rw [h]; rfl)
    rw [h] at cV
    rw [HA.out]
    clear h
    go_enter Try.func12, Try.ntmps12
    go_wp2_with fail
    rw [← hW1]
    refine (cV.out _).mono ?_
    rintro e w2 ⟨rfl, hb⟩
    have D1 := Lib.hid (D0.out.trans (hb.mono D0.out.size))
    clear hb
    go_wp2_with fail
    go_ret2
    exact ⟨rfl, D1.out⟩
  | true =>
    rw [h] at cV
    obtain ⟨a, b, rfl, rfl, ha, hb⟩ := okP_yes h
    have HA := Lib.hid (celA_ok ha hb)
    rw [HA.out]
    have e1 : Int.tmod (a : Int) 180 = ((a % 180 : Nat) : Int) := by rw [Int.tmod_eq_emod_of_nonneg (by omega)]; omega
    have e2 : Int.tmod (b : Int) 180 = ((b % 180 : Nat) : Int) := by rw [Int.tmod_eq_emod_of_nonneg (by omega)]; omega
    have e3 : (a : Int) % 180 = ((a % 180 : Nat) : Int) := by omega
    have e4 : (b : Int) % 180 = ((b % 180 : Nat) : Int) := by omega
    obtain ⟨S, hS⟩ : ∃ S, S = celN a b := ⟨_, rfl⟩
    have hS2 : S = 2 * (b % 180 / 90) + a % 180 / 90 := hS
    rw [← hS]
    clear hS
    have q3 : a % 180 < 180 := by omega
    have q4 : b % 180 < 180 := by omega
    generalize a % 180 = a2 at e1 e3 q3 hS2
    generalize b % 180 = b2 at e2 e4 q4 hS2
    have e5 : Int.tdiv (a2 : Int) 90 = ((a2 / 90 : Nat) : Int) := by rw [Int.tdiv_eq_ediv_of_nonneg (by omega)]; omega
    have e6 : Int.tdiv (b2 : Int) 90 = ((b2 / 90 : Nat) : Int) := by rw [Int.tdiv_eq_ediv_of_nonneg (by omega)]; omega
    have e7 : (a2 : Int) / 90 = ((a2 / 90 : Nat) : Int) := by omega
    have e8 : (b2 : Int) / 90 = ((b2 / 90 : Nat) : Int) := by omega
    have q1 : a2 / 90 < 2 := by omega
    have q2 : b2 / 90 < 2 := by omega
    generalize a2 / 90 = q at e5 e7 q1 hS2
    generalize b2 / 90 = r at e6 e8 q2 hS2
    have f1 : IntKind.i64.wrap (2 * (r : Int)) = 2 * (r : Int) := IntWalk.i64_in _ (by omega)
    have f2 : IntKind.i64.wrap (2 * (r : Int) + (q : Int)) = (S : Int) := by rw [IntWalk.i64_in _ (by omega)]; omega
    clear hS2
    clear h
    go_enter Try.func12, Try.ntmps12
    go_wp2_with fail
    rw [← hW1]
    refine (cV.out _).mono ?_
    rintro e w2 ⟨rfl, hb⟩
    have D1 := Lib.hid (D0.out.trans (hb.mono D0.out.size))
    have P1 := Lib.hid (P0.out.bel hb)
    have c0 := P1.out.c0
    have c1 := P1.out.c1
    clear hb
    go_wp2_with fail
    go_ret2
    exact ⟨rfl, D1.out⟩
end Go.Proofs.Ytaebejhncjadhaa.Sk
