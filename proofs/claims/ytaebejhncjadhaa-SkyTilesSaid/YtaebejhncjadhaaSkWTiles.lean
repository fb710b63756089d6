/-
  The law SkyTiles (layer 10): its walk.
-/
import Derived.Test.YtaebejhncjadhaaSkPlace
set_option linter.unusedVariables false
set_option maxRecDepth 100000
namespace Go.Proofs.Ytaebejhncjadhaa
open Go.RowKit
open Sk
def Law10 (w : World) (X Y V U : Nat) : Prop := Calls Try.prog 4 #[.int .u16 (X : Int), .int .u16 (Y : Int), .int .u16 (V : Int), .int .u16 (U : Int)] w fun e w' => e = .returned (.bool true) ∧ Below w.heap.size w w'
set_option maxHeartbeats 4000000 in
theorem tiles_1 (X Y V U A B C D a b c mx my qa qb qc qd c2 c3 : Nat) (w : World) (hX : X ≤ 65535) (hY : Y ≤ 65535) (hV : V ≤ 65535) (hU : U ≤ 65535) (hA : A = X % 5760) (hB : B = Y % 2880) (hC : C = V % 5760) (hD : D = U % 2880)
    (ha : a = tilN A B) (hb : b = tilN C D) (hc : c = celN A B) (hmx : mx = a % 32 * 180 + 90) (hmy : my = a / 32 * 180 + 90) (hqa : qa = A / 180) (hqb : qb = B / 180) (hqc : qc = C / 180) (hqd : qd = D / 180) (hc2 : c2 = c % 2) (hc3 : c3 = c / 2)
    (h1 : qa = qc) : Law10 w X Y V U := by
  unfold Law10
  unfold tilN at ha hb
  unfold celN at hc
  have cP := Lib.hid (fun w => place_any X Y hX hY w)
  have cQ := Lib.hid (fun w => place_any V U hV hU w)
  rw [← hA, ← hB] at cP
  rw [← hC, ← hD] at cQ
  have lA : A < 5760 := by omega
  have lB : B < 2880 := by omega
  have lC : C < 5760 := by omega
  have lD : D < 2880 := by omega
  have la : a < 512 := by omega
  have c1 : Hid (∀ w, Calls Try.prog 9 #[.agg #[.int .i64 (A : Int), .int .i64 (B : Int)]] w (GivesN (a : Int) 0 w)) := Lib.hid (fun w => by have := pTile_any (A : Int) (B : Int) (i64_nat (by omega)) (i64_nat (by omega)) w; rwa [tilA_ok lA lB, show tilN A B = a by unfold tilN; omega] at this)
  have cB : Hid (∀ w, Calls Try.prog 9 #[.agg #[.int .i64 (C : Int), .int .i64 (D : Int)]] w (GivesN (b : Int) 0 w)) := Lib.hid (fun w => by have := pTile_any (C : Int) (D : Int) (i64_nat (by omega)) (i64_nat (by omega)) w; rwa [tilA_ok lC lD, show tilN C D = b by unfold tilN; omega] at this)
  have cC : Hid (∀ w, Calls Try.prog 11 #[.agg #[.int .i64 (A : Int), .int .i64 (B : Int)]] w (GivesN (c : Int) 0 w)) := Lib.hid (fun w => by have := pCell_any (A : Int) (B : Int) (i64_nat (by omega)) (i64_nat (by omega)) w; rwa [celA_ok lA lB, show celN A B = c by unfold celN; omega] at this)
  have cM : Hid (∀ w, Calls Try.prog 13 #[.int .i64 (a : Int)] w (GivesP (mx : Int) (my : Int) 0 w)) := Lib.hid (fun w => by have := pCentre_any (a : Int) (i64_nat (by omega)) w; rwa [cenA_ok la, ← hmx, ← hmy] at this)
  have HN1 : Hid (A + 180 < 5760 → ∀ w, Calls Try.prog 9 #[.agg #[.int .i64 ((A : Int) + 180), .int .i64 (B : Int)]] w (GivesN ((a : Int) + 1) 0 w)) := Lib.hid (fun h2 w => by have := pTile_any ((A + 180 : Nat) : Int) (B : Int) (i64_nat (by omega)) (i64_nat (by omega)) w; rwa [tilA_ok h2 lB, show tilN (A + 180) B = a + 1 by unfold tilN; omega] at this)
  have HN0 : Hid (¬ A + 180 < 5760 → ∀ w, Calls Try.prog 9 #[.agg #[.int .i64 ((A : Int) + 180), .int .i64 (B : Int)]] w (GivesN 0 1 w)) := Lib.hid (fun h2 w => by have := pTile_any ((A + 180 : Nat) : Int) (B : Int) (i64_nat (by omega)) (i64_nat (by omega)) w; rwa [show tilA ((A + 180 : Nat) : Int) (B : Int) = (0, 1) by unfold tilA okP; rw [if_neg (by simp; omega)]] at this)
  have HO1 : Hid (B + 180 < 2880 → ∀ w, Calls Try.prog 9 #[.agg #[.int .i64 (A : Int), .int .i64 ((B : Int) + 180)]] w (GivesN ((a : Int) + 32) 0 w)) := Lib.hid (fun h3 w => by have := pTile_any (A : Int) ((B + 180 : Nat) : Int) (i64_nat (by omega)) (i64_nat (by omega)) w; rwa [tilA_ok lA h3, show tilN A (B + 180) = a + 32 by unfold tilN; omega] at this)
  have HO0 : Hid (¬ B + 180 < 2880 → ∀ w, Calls Try.prog 9 #[.agg #[.int .i64 (A : Int), .int .i64 ((B : Int) + 180)]] w (GivesN 0 1 w)) := Lib.hid (fun h3 w => by have := pTile_any (A : Int) ((B + 180 : Nat) : Int) (i64_nat (by omega)) (i64_nat (by omega)) w; rwa [show tilA (A : Int) ((B + 180 : Nat) : Int) = (0, 1) by unfold tilA okP; rw [if_neg (by simp; omega)]] at this)
  have o1 : decide ((a : Int) < 0) = false := decide_eq_false (by omega)
  have o2 : decide (512 ≤ (a : Int)) = false := decide_eq_false (by omega)
  have o3 : decide ((c : Int) < 0) = false := decide_eq_false (by omega)
  have o4 : decide (3 < (c : Int)) = false := decide_eq_false (by omega)
  have e1 : Int.tdiv (A : Int) 180 = (qa : Int) := by rw [Int.tdiv_eq_ediv_of_nonneg (by omega)]; omega
  have e2 : Int.tdiv (B : Int) 180 = (qb : Int) := by rw [Int.tdiv_eq_ediv_of_nonneg (by omega)]; omega
  have e3 : Int.tdiv (C : Int) 180 = (qc : Int) := by rw [Int.tdiv_eq_ediv_of_nonneg (by omega)]; omega
  have e4 : Int.tdiv (D : Int) 180 = (qd : Int) := by rw [Int.tdiv_eq_ediv_of_nonneg (by omega)]; omega
  have e5 : (A : Int) / 180 = (qa : Int) := by omega
  have e6 : (B : Int) / 180 = (qb : Int) := by omega
  have e7 : (C : Int) / 180 = (qc : Int) := by omega
  have e8 : (D : Int) / 180 = (qd : Int) := by omega
  have f1 : IntKind.i64.wrap ((mx : Int) - 90) = (mx : Int) - 90 := IntWalk.i64_in _ (by omega)
  have f2 : IntKind.i64.wrap ((mx : Int) + 90) = (mx : Int) + 90 := IntWalk.i64_in _ (by omega)
  have f3 : IntKind.i64.wrap ((my : Int) - 90) = (my : Int) - 90 := IntWalk.i64_in _ (by omega)
  have f4 : IntKind.i64.wrap ((my : Int) + 90) = (my : Int) + 90 := IntWalk.i64_in _ (by omega)
  have f5 : IntKind.i64.wrap ((A : Int) + 180) = (A : Int) + 180 := IntWalk.i64_in _ (by omega)
  have f6 : IntKind.i64.wrap ((A : Int) + 180 - 180) = (A : Int) := by rw [IntWalk.i64_in _ (by omega)]; omega
  have f7 : IntKind.i64.wrap ((B : Int) + 180) = (B : Int) + 180 := IntWalk.i64_in _ (by omega)
  have f8 : IntKind.i64.wrap ((a : Int) + 1) = (a : Int) + 1 := IntWalk.i64_in _ (by omega)
  have f9 : IntKind.i64.wrap ((a : Int) + 32) = (a : Int) + 32 := IntWalk.i64_in _ (by omega)
  have g1 : decide ((A : Int) < (mx : Int) - 90) = false := decide_eq_false (by omega)
  have g2 : decide ((mx : Int) + 90 ≤ (A : Int)) = false := decide_eq_false (by omega)
  have g3 : decide ((B : Int) < (my : Int) - 90) = false := decide_eq_false (by omega)
  have g4 : decide ((my : Int) + 90 ≤ (B : Int)) = false := decide_eq_false (by omega)
  have m1 : Int.tmod (c : Int) 2 = (c2 : Int) := by rw [Int.tmod_eq_emod_of_nonneg (by omega)]; omega
  have m2 : (c : Int) % 2 = (c2 : Int) := by omega
  have m3 : Int.tdiv (c : Int) 2 = (c3 : Int) := by rw [Int.tdiv_eq_ediv_of_nonneg (by omega)]; omega
  have m4 : (c : Int) / 2 = (c3 : Int) := by omega
  obtain ⟨b1, hb1⟩ : ∃ b1, b1 = ((c2 : Int) == 0) := ⟨_, rfl⟩
  obtain ⟨b2, hb2⟩ : ∃ b2, b2 = ((c3 : Int) == 0) := ⟨_, rfl⟩
  have n1 : ((c2 : Int) == 0) = b1 := hb1.symm
  have n2 : ((c3 : Int) == 0) = b2 := hb2.symm
  have n3 : decide ((A : Int) < (mx : Int)) = b1 := by
    rw [hb1]
    by_cases h : (A : Int) < (mx : Int)
    · rw [decide_eq_true h, eq_comm, beq_iff_eq]; omega
    · rw [decide_eq_false h, eq_comm, beq_eq_false_iff_ne]; omega
  have n5 : decide (A < mx) = b1 := by rw [← n3]; exact decide_eq_decide.2 (by omega)
  have n4 : decide ((B : Int) < (my : Int)) = b2 := by
    rw [hb2]
    by_cases h : (B : Int) < (my : Int)
    · rw [decide_eq_true h, eq_comm, beq_iff_eq]; omega
    · rw [decide_eq_false h, eq_comm, beq_eq_false_iff_ne]; omega
  have n6 : decide (B < my) = b2 := by rw [← n4]; exact decide_eq_decide.2 (by omega)
  have l1 : qa < 32 := by omega
  have l2 : qb < 16 := by omega
  have l3 : qc < 32 := by omega
  have l4 : qd < 16 := by omega
  have l5 : c2 < 2 := by omega
  have l6 : c3 < 2 := by omega
  obtain ⟨p2, hp2⟩ : ∃ p2, p2 = ((qb : Int) == (qd : Int)) := ⟨_, rfl⟩
  have r1 : ((qa : Int) == (qc : Int)) = true := by rw [h1]; simp
  have r2 : ((qb : Int) == (qd : Int)) = p2 := hp2.symm
  have r3 : ((a : Int) == (b : Int)) = p2 := by
    rw [hp2]
    by_cases h : (qb : Int) = (qd : Int)
    · rw [beq_iff_eq.2 h, beq_iff_eq]; omega
    · rw [beq_eq_false_iff_ne.2 h, beq_eq_false_iff_ne]; omega
  clear hp2
  clear hA hB hC hD ha hb hc hmx hmy hqa hqb hqc hqd hc2 hc3 h1 hX hY hV hU hb1 hb2 lA lB lC lD la
  have D0 := Lib.hid (Below.refl w.heap.size w)
  go_enter Try.func4, Try.ntmps4
  go_wp2_with fail
  refine (head_any _).mono ?_
  rintro e w1 ⟨rfl, hb⟩
  have D1 := Lib.hid (D0.out.trans (hb.mono D0.out.size))
  clear hb D0
  go_wp2_with fail
  refine (cP.out _).mono ?_
  rintro e w2 ⟨rfl, hb⟩
  have D2 := Lib.hid (D1.out.trans (hb.mono D1.out.size))
  clear hb D1
  go_wp2_with fail
  refine (cQ.out _).mono ?_
  rintro e w3 ⟨rfl, hb⟩
  have D3 := Lib.hid (D2.out.trans (hb.mono D2.out.size))
  clear hb D2
  go_wp2_with fail
  obtain ⟨w4, hw4⟩ : ∃ W, W = (w3.alloc (Obj.cells #[Value.int .i64 (A : Int), Value.int .i64 (B : Int)] 23)).alloc (Obj.cells #[Value.int .i64 (C : Int), Value.int .i64 (D : Int)] 23) := ⟨_, rfl⟩
  obtain ⟨BB, hBB⟩ : ∃ B, B = w3.heap.size := ⟨_, rfl⟩
  have hp : PosAt BB (A : Int) (B : Int) w4 := by rw [hBB, hw4]; exact (PosAt.new _ _ _).bel ((Below.refl _ _).alloc (Nat.le_refl _) _)
  have hq : PosAt (BB + 1) (C : Int) (D : Int) w4 := by
    have := PosAt.new (w3.alloc (Obj.cells #[Value.int .i64 (A : Int), Value.int .i64 (B : Int)] 23)) (C : Int) (D : Int)
    rwa [World.size_alloc, ← hBB, ← hw4] at this
  have hb : Below w3.heap.size w3 w4 := by rw [hw4]; exact ((Below.refl _ _).alloc (Nat.le_refl _) _).alloc (by simp) _
  have D4 := Lib.hid (D3.out.trans (hb.mono D3.out.size))
  have HBB : Hid (w.heap.size ≤ BB) := Lib.hid (by rw [hBB]; exact D3.out.size)
  have P_4 := Lib.hid hp
  have Q_4 := Lib.hid hq
  rw [← hw4]
  simp only [← hBB]
  clear hp hq hb hBB hw4 D3
  have Pc0 := P_4.out.c0
  have Pc1 := P_4.out.c1
  go_wp2_with fail
  refine (c1.out _).mono ?_
  rintro e w5 ⟨rfl, hb⟩
  have D5 := Lib.hid (D4.out.trans (hb.mono D4.out.size))
  have P_5 := Lib.hid (P_4.out.bel hb)
  have Q_5 := Lib.hid (Q_4.out.bel hb)
  clear hb D4 P_4 Q_4
  clear Pc0 Pc1
  have Qc0 := Q_5.out.c0
  have Qc1 := Q_5.out.c1
  go_wp2_with fail
  clear Qc0 Qc1
  refine (cB.out _).mono ?_
  rintro e w6 ⟨rfl, hb⟩
  have D6 := Lib.hid (D5.out.trans (hb.mono D5.out.size))
  have P_6 := Lib.hid (P_5.out.bel hb)
  have Q_6 := Lib.hid (Q_5.out.bel hb)
  clear hb D5 P_5 Q_5
  have Pc0 := P_6.out.c0
  have Pc1 := P_6.out.c1
  go_wp2_with fail
  clear Pc0 Pc1
  refine (cC.out _).mono ?_
  rintro e w7 ⟨rfl, hb⟩
  have D7 := Lib.hid (D6.out.trans (hb.mono D6.out.size))
  have P_7 := Lib.hid (P_6.out.bel hb)
  have Q_7 := Lib.hid (Q_6.out.bel hb)
  clear hb D6 P_6 Q_6
  go_wp2_with fail
  refine (cM.out _).mono ?_
  rintro e w8 ⟨rfl, hb⟩
  have D8 := Lib.hid (D7.out.trans (hb.mono D7.out.size))
  have P_8 := Lib.hid (P_7.out.bel hb)
  have Q_8 := Lib.hid (Q_7.out.bel hb)
  clear hb D7 P_7 Q_7
  have hb : Below w8.heap.size w8 (w8.alloc (Obj.cells #[Value.int .i64 (mx : Int), Value.int .i64 (my : Int)] 23)) := (Below.refl _ _).alloc (Nat.le_refl _) _
  have Pc0 := (P_8.out.bel hb).c0
  have Pc1 := (P_8.out.bel hb).c1
  have Pf0 := (P_8.out.bel hb).fz 0
  have Qc0 := (Q_8.out.bel hb).c0
  have Qc1 := (Q_8.out.bel hb).c1
  have PM := Lib.hid (P_8.out.bel hb)
  have DM := Lib.hid (D8.out.trans (hb.mono D8.out.size))
  clear hb
  go_wp2_with fail
  clear Pc0 Pc1 Pf0 Qc0 Qc1
  obtain ⟨v9, hv9⟩ : ∃ W, W = (w8.alloc (Obj.cells #[Value.int .i64 (mx : Int), Value.int .i64 (my : Int)] 23)).setCell ⟨BB, 0, none⟩ (Value.int .i64 ((A : Int) + 180)) := ⟨_, rfl⟩
  have P9 : Hid (PosAt BB ((A : Int) + 180) (B : Int) v9) := Lib.hid (by rw [hv9]; exact PM.out.set0 _)
  have D9 : Hid (Below w.heap.size w v9) := Lib.hid (by rw [hv9]; exact DM.out.setCell (p := ⟨BB, 0, none⟩) HBB.out _)
  rw [← hv9]
  clear hv9 PM DM
  by_cases h2 : A + 180 < 5760
  · skip
    have cN := Lib.hid (HN1.out h2)
    have k1 : decide ((A : Int) + 180 < 5760) = true := decide_eq_true (by omega)
    have k2 : decide (5760 ≤ (A : Int) + 180) = false := decide_eq_false (by omega)
    clear h2
    refine (cN.out _).mono ?_
    rintro e v10 ⟨rfl, hb⟩
    have D10 := Lib.hid (D9.out.trans (hb.mono D9.out.size))
    have P10 := Lib.hid (P9.out.bel hb)
    have Pc0 := P10.out.c0
    have Pc1 := P10.out.c1
    have Pf0 := P10.out.fz 0
    have Pf1 := P10.out.fz 1
    clear hb D9 P9
    go_wp2_with fail
    clear Pc0 Pc1 Pf0 Pf1 k1 k2
    have D11 := Lib.hid (PosAt.below D10.out HBB.out (Value.int .i64 (A : Int)) (Value.int .i64 ((B : Int) + 180)))
    have P11 := Lib.hid (P10.out.set (A : Int) ((B : Int) + 180))
    by_cases h3 : B + 180 < 2880
    · skip
      have cO := Lib.hid (HO1.out h3)
      have k3 : decide ((B : Int) + 180 < 2880) = true := decide_eq_true (by omega)
      have k4 : decide (2880 ≤ (B : Int) + 180) = false := decide_eq_false (by omega)
      clear h3
      refine (cO.out _).mono ?_
      rintro e v12 ⟨rfl, hb⟩
      have D12 := Lib.hid (D11.out.trans (hb.mono D11.out.size))
      have P12 := Lib.hid (P11.out.bel hb)
      have Pc1 := P12.out.c1
      clear hb D11 P11
      go_wp2_with fail
      go_ret
      exact ⟨rfl, D12.out⟩
    · skip
      have cO := Lib.hid (HO0.out h3)
      have k3 : decide ((B : Int) + 180 < 2880) = false := decide_eq_false (by omega)
      have k4 : decide (2880 ≤ (B : Int) + 180) = true := decide_eq_true (by omega)
      clear h3
      refine (cO.out _).mono ?_
      rintro e v12 ⟨rfl, hb⟩
      have D12 := Lib.hid (D11.out.trans (hb.mono D11.out.size))
      have P12 := Lib.hid (P11.out.bel hb)
      have Pc1 := P12.out.c1
      clear hb D11 P11
      go_wp2_with fail
      go_ret
      exact ⟨rfl, D12.out⟩
  · skip
    have cN := Lib.hid (HN0.out h2)
    have k1 : decide ((A : Int) + 180 < 5760) = false := decide_eq_false (by omega)
    have k2 : decide (5760 ≤ (A : Int) + 180) = true := decide_eq_true (by omega)
    clear h2
    refine (cN.out _).mono ?_
    rintro e v10 ⟨rfl, hb⟩
    have D10 := Lib.hid (D9.out.trans (hb.mono D9.out.size))
    have P10 := Lib.hid (P9.out.bel hb)
    have Pc0 := P10.out.c0
    have Pc1 := P10.out.c1
    have Pf0 := P10.out.fz 0
    have Pf1 := P10.out.fz 1
    clear hb D9 P9
    go_wp2_with fail
    clear Pc0 Pc1 Pf0 Pf1 k1 k2
    have D11 := Lib.hid (PosAt.below D10.out HBB.out (Value.int .i64 (A : Int)) (Value.int .i64 ((B : Int) + 180)))
    have P11 := Lib.hid (P10.out.set (A : Int) ((B : Int) + 180))
    by_cases h3 : B + 180 < 2880
    · skip
      have cO := Lib.hid (HO1.out h3)
      have k3 : decide ((B : Int) + 180 < 2880) = true := decide_eq_true (by omega)
      have k4 : decide (2880 ≤ (B : Int) + 180) = false := decide_eq_false (by omega)
      clear h3
      refine (cO.out _).mono ?_
      rintro e v12 ⟨rfl, hb⟩
      have D12 := Lib.hid (D11.out.trans (hb.mono D11.out.size))
      have P12 := Lib.hid (P11.out.bel hb)
      have Pc1 := P12.out.c1
      clear hb D11 P11
      go_wp2_with fail
      go_ret
      exact ⟨rfl, D12.out⟩
    · skip
      have cO := Lib.hid (HO0.out h3)
      have k3 : decide ((B : Int) + 180 < 2880) = false := decide_eq_false (by omega)
      have k4 : decide (2880 ≤ (B : Int) + 180) = true := decide_eq_true (by omega)
      clear h3
      refine (cO.out _).mono ?_
      rintro e v12 ⟨rfl, hb⟩
      have D12 := Lib.hid (D11.out.trans (hb.mono D11.out.size))
      have P12 := Lib.hid (P11.out.bel hb)
      have Pc1 := P12.out.c1
      clear hb D11 P11
      go_wp2_with fail
      go_ret
      exact ⟨rfl, D12.out⟩
set_option maxHeartbeats 4000000 in
theorem tiles_0 (X Y V U A B C D a b c mx my qa qb qc qd c2 c3 : Nat) (w : World) (hX : X ≤ 65535) (hY : Y ≤ 65535) (hV : V ≤ 65535) (hU : U ≤ 65535) (hA : A = X % 5760) (hB : B = Y % 2880) (hC : C = V % 5760) (hD : D = U % 2880)
    (ha : a = tilN A B) (hb : b = tilN C D) (hc : c = celN A B) (hmx : mx = a % 32 * 180 + 90) (hmy : my = a / 32 * 180 + 90) (hqa : qa = A / 180) (hqb : qb = B / 180) (hqc : qc = C / 180) (hqd : qd = D / 180) (hc2 : c2 = c % 2) (hc3 : c3 = c / 2)
    (h1 : ¬ qa = qc) : Law10 w X Y V U := by
  unfold Law10
  unfold tilN at ha hb
  unfold celN at hc
  have cP := Lib.hid (fun w => place_any X Y hX hY w)
  have cQ := Lib.hid (fun w => place_any V U hV hU w)
  rw [← hA, ← hB] at cP
  rw [← hC, ← hD] at cQ
  have lA : A < 5760 := by omega
  have lB : B < 2880 := by omega
  have lC : C < 5760 := by omega
  have lD : D < 2880 := by omega
  have la : a < 512 := by omega
  have c1 : Hid (∀ w, Calls Try.prog 9 #[.agg #[.int .i64 (A : Int), .int .i64 (B : Int)]] w (GivesN (a : Int) 0 w)) := Lib.hid (fun w => by have := pTile_any (A : Int) (B : Int) (i64_nat (by omega)) (i64_nat (by omega)) w; rwa [tilA_ok lA lB, show tilN A B = a by unfold tilN; omega] at this)
  have cB : Hid (∀ w, Calls Try.prog 9 #[.agg #[.int .i64 (C : Int), .int .i64 (D : Int)]] w (GivesN (b : Int) 0 w)) := Lib.hid (fun w => by have := pTile_any (C : Int) (D : Int) (i64_nat (by omega)) (i64_nat (by omega)) w; rwa [tilA_ok lC lD, show tilN C D = b by unfold tilN; omega] at this)
  have cC : Hid (∀ w, Calls Try.prog 11 #[.agg #[.int .i64 (A : Int), .int .i64 (B : Int)]] w (GivesN (c : Int) 0 w)) := Lib.hid (fun w => by have := pCell_any (A : Int) (B : Int) (i64_nat (by omega)) (i64_nat (by omega)) w; rwa [celA_ok lA lB, show celN A B = c by unfold celN; omega] at this)
  have cM : Hid (∀ w, Calls Try.prog 13 #[.int .i64 (a : Int)] w (GivesP (mx : Int) (my : Int) 0 w)) := Lib.hid (fun w => by have := pCentre_any (a : Int) (i64_nat (by omega)) w; rwa [cenA_ok la, ← hmx, ← hmy] at this)
  have HN1 : Hid (A + 180 < 5760 → ∀ w, Calls Try.prog 9 #[.agg #[.int .i64 ((A : Int) + 180), .int .i64 (B : Int)]] w (GivesN ((a : Int) + 1) 0 w)) := Lib.hid (fun h2 w => by have := pTile_any ((A + 180 : Nat) : Int) (B : Int) (i64_nat (by omega)) (i64_nat (by omega)) w; rwa [tilA_ok h2 lB, show tilN (A + 180) B = a + 1 by unfold tilN; omega] at this)
  have HN0 : Hid (¬ A + 180 < 5760 → ∀ w, Calls Try.prog 9 #[.agg #[.int .i64 ((A : Int) + 180), .int .i64 (B : Int)]] w (GivesN 0 1 w)) := Lib.hid (fun h2 w => by have := pTile_any ((A + 180 : Nat) : Int) (B : Int) (i64_nat (by omega)) (i64_nat (by omega)) w; rwa [show tilA ((A + 180 : Nat) : Int) (B : Int) = (0, 1) by unfold tilA okP; rw [if_neg (by simp; omega)]] at this)
  have HO1 : Hid (B + 180 < 2880 → ∀ w, Calls Try.prog 9 #[.agg #[.int .i64 (A : Int), .int .i64 ((B : Int) + 180)]] w (GivesN ((a : Int) + 32) 0 w)) := Lib.hid (fun h3 w => by have := pTile_any (A : Int) ((B + 180 : Nat) : Int) (i64_nat (by omega)) (i64_nat (by omega)) w; rwa [tilA_ok lA h3, show tilN A (B + 180) = a + 32 by unfold tilN; omega] at this)
  have HO0 : Hid (¬ B + 180 < 2880 → ∀ w, Calls Try.prog 9 #[.agg #[.int .i64 (A : Int), .int .i64 ((B : Int) + 180)]] w (GivesN 0 1 w)) := Lib.hid (fun h3 w => by have := pTile_any (A : Int) ((B + 180 : Nat) : Int) (i64_nat (by omega)) (i64_nat (by omega)) w; rwa [show tilA (A : Int) ((B + 180 : Nat) : Int) = (0, 1) by unfold tilA okP; rw [if_neg (by simp; omega)]] at this)
  have o1 : decide ((a : Int) < 0) = false := decide_eq_false (by omega)
  have o2 : decide (512 ≤ (a : Int)) = false := decide_eq_false (by omega)
  have o3 : decide ((c : Int) < 0) = false := decide_eq_false (by omega)
  have o4 : decide (3 < (c : Int)) = false := decide_eq_false (by omega)
  have e1 : Int.tdiv (A : Int) 180 = (qa : Int) := by rw [Int.tdiv_eq_ediv_of_nonneg (by omega)]; omega
  have e2 : Int.tdiv (B : Int) 180 = (qb : Int) := by rw [Int.tdiv_eq_ediv_of_nonneg (by omega)]; omega
  have e3 : Int.tdiv (C : Int) 180 = (qc : Int) := by rw [Int.tdiv_eq_ediv_of_nonneg (by omega)]; omega
  have e4 : Int.tdiv (D : Int) 180 = (qd : Int) := by rw [Int.tdiv_eq_ediv_of_nonneg (by omega)]; omega
  have e5 : (A : Int) / 180 = (qa : Int) := by omega
  have e6 : (B : Int) / 180 = (qb : Int) := by omega
  have e7 : (C : Int) / 180 = (qc : Int) := by omega
  have e8 : (D : Int) / 180 = (qd : Int) := by omega
  have f1 : IntKind.i64.wrap ((mx : Int) - 90) = (mx : Int) - 90 := IntWalk.i64_in _ (by omega)
  have f2 : IntKind.i64.wrap ((mx : Int) + 90) = (mx : Int) + 90 := IntWalk.i64_in _ (by omega)
  have f3 : IntKind.i64.wrap ((my : Int) - 90) = (my : Int) - 90 := IntWalk.i64_in _ (by omega)
  have f4 : IntKind.i64.wrap ((my : Int) + 90) = (my : Int) + 90 := IntWalk.i64_in _ (by omega)
  have f5 : IntKind.i64.wrap ((A : Int) + 180) = (A : Int) + 180 := IntWalk.i64_in _ (by omega)
  have f6 : IntKind.i64.wrap ((A : Int) + 180 - 180) = (A : Int) := by rw [IntWalk.i64_in _ (by omega)]; omega
  have f7 : IntKind.i64.wrap ((B : Int) + 180) = (B : Int) + 180 := IntWalk.i64_in _ (by omega)
  have f8 : IntKind.i64.wrap ((a : Int) + 1) = (a : Int) + 1 := IntWalk.i64_in _ (by omega)
  have f9 : IntKind.i64.wrap ((a : Int) + 32) = (a : Int) + 32 := IntWalk.i64_in _ (by omega)
  have g1 : decide ((A : Int) < (mx : Int) - 90) = false := decide_eq_false (by omega)
  have g2 : decide ((mx : Int) + 90 ≤ (A : Int)) = false := decide_eq_false (by omega)
  have g3 : decide ((B : Int) < (my : Int) - 90) = false := decide_eq_false (by omega)
  have g4 : decide ((my : Int) + 90 ≤ (B : Int)) = false := decide_eq_false (by omega)
  have m1 : Int.tmod (c : Int) 2 = (c2 : Int) := by rw [Int.tmod_eq_emod_of_nonneg (by omega)]; omega
  have m2 : (c : Int) % 2 = (c2 : Int) := by omega
  have m3 : Int.tdiv (c : Int) 2 = (c3 : Int) := by rw [Int.tdiv_eq_ediv_of_nonneg (by omega)]; omega
  have m4 : (c : Int) / 2 = (c3 : Int) := by omega
  obtain ⟨b1, hb1⟩ : ∃ b1, b1 = ((c2 : Int) == 0) := ⟨_, rfl⟩
  obtain ⟨b2, hb2⟩ : ∃ b2, b2 = ((c3 : Int) == 0) := ⟨_, rfl⟩
  have n1 : ((c2 : Int) == 0) = b1 := hb1.symm
  have n2 : ((c3 : Int) == 0) = b2 := hb2.symm
  have n3 : decide ((A : Int) < (mx : Int)) = b1 := by
    rw [hb1]
    by_cases h : (A : Int) < (mx : Int)
    · rw [decide_eq_true h, eq_comm, beq_iff_eq]; omega
    · rw [decide_eq_false h, eq_comm, beq_eq_false_iff_ne]; omega
  have n5 : decide (A < mx) = b1 := by rw [← n3]; exact decide_eq_decide.2 (by omega)
  have n4 : decide ((B : Int) < (my : Int)) = b2 := by
    rw [hb2]
    by_cases h : (B : Int) < (my : Int)
    · rw [decide_eq_true h, eq_comm, beq_iff_eq]; omega
    · rw [decide_eq_false h, eq_comm, beq_eq_false_iff_ne]; omega
  have n6 : decide (B < my) = b2 := by rw [← n4]; exact decide_eq_decide.2 (by omega)
  have l1 : qa < 32 := by omega
  have l2 : qb < 16 := by omega
  have l3 : qc < 32 := by omega
  have l4 : qd < 16 := by omega
  have l5 : c2 < 2 := by omega
  have l6 : c3 < 2 := by omega
  have r1 : ((qa : Int) == (qc : Int)) = false := by rw [beq_eq_false_iff_ne]; omega
  have r3 : ((a : Int) == (b : Int)) = false := by rw [beq_eq_false_iff_ne]; omega
  clear hA hB hC hD ha hb hc hmx hmy hqa hqb hqc hqd hc2 hc3 h1 hX hY hV hU hb1 hb2 lA lB lC lD la
  have D0 := Lib.hid (Below.refl w.heap.size w)
  go_enter Try.func4, Try.ntmps4
  go_wp2_with fail
  refine (head_any _).mono ?_
  rintro e w1 ⟨rfl, hb⟩
  have D1 := Lib.hid (D0.out.trans (hb.mono D0.out.size))
  clear hb D0
  go_wp2_with fail
  refine (cP.out _).mono ?_
  rintro e w2 ⟨rfl, hb⟩
  have D2 := Lib.hid (D1.out.trans (hb.mono D1.out.size))
  clear hb D1
  go_wp2_with fail
  refine (cQ.out _).mono ?_
  rintro e w3 ⟨rfl, hb⟩
  have D3 := Lib.hid (D2.out.trans (hb.mono D2.out.size))
  clear hb D2
  go_wp2_with fail
  obtain ⟨w4, hw4⟩ : ∃ W, W = (w3.alloc (Obj.cells #[Value.int .i64 (A : Int), Value.int .i64 (B : Int)] 23)).alloc (Obj.cells #[Value.int .i64 (C : Int), Value.int .i64 (D : Int)] 23) := ⟨_, rfl⟩
  obtain ⟨BB, hBB⟩ : ∃ B, B = w3.heap.size := ⟨_, rfl⟩
  have hp : PosAt BB (A : Int) (B : Int) w4 := by rw [hBB, hw4]; exact (PosAt.new _ _ _).bel ((Below.refl _ _).alloc (Nat.le_refl _) _)
  have hq : PosAt (BB + 1) (C : Int) (D : Int) w4 := by
    have := PosAt.new (w3.alloc (Obj.cells #[Value.int .i64 (A : Int), Value.int .i64 (B : Int)] 23)) (C : Int) (D : Int)
    rwa [World.size_alloc, ← hBB, ← hw4] at this
  have hb : Below w3.heap.size w3 w4 := by rw [hw4]; exact ((Below.refl _ _).alloc (Nat.le_refl _) _).alloc (by simp) _
  have D4 := Lib.hid (D3.out.trans (hb.mono D3.out.size))
  have HBB : Hid (w.heap.size ≤ BB) := Lib.hid (by rw [hBB]; exact D3.out.size)
  have P_4 := Lib.hid hp
  have Q_4 := Lib.hid hq
  rw [← hw4]
  simp only [← hBB]
  clear hp hq hb hBB hw4 D3
  have Pc0 := P_4.out.c0
  have Pc1 := P_4.out.c1
  go_wp2_with fail
  refine (c1.out _).mono ?_
  rintro e w5 ⟨rfl, hb⟩
  have D5 := Lib.hid (D4.out.trans (hb.mono D4.out.size))
  have P_5 := Lib.hid (P_4.out.bel hb)
  have Q_5 := Lib.hid (Q_4.out.bel hb)
  clear hb D4 P_4 Q_4
  clear Pc0 Pc1
  have Qc0 := Q_5.out.c0
  have Qc1 := Q_5.out.c1
  go_wp2_with fail
  clear Qc0 Qc1
  refine (cB.out _).mono ?_
  rintro e w6 ⟨rfl, hb⟩
  have D6 := Lib.hid (D5.out.trans (hb.mono D5.out.size))
  have P_6 := Lib.hid (P_5.out.bel hb)
  have Q_6 := Lib.hid (Q_5.out.bel hb)
  clear hb D5 P_5 Q_5
  have Pc0 := P_6.out.c0
  have Pc1 := P_6.out.c1
  go_wp2_with fail
  clear Pc0 Pc1
  refine (cC.out _).mono ?_
  rintro e w7 ⟨rfl, hb⟩
  have D7 := Lib.hid (D6.out.trans (hb.mono D6.out.size))
  have P_7 := Lib.hid (P_6.out.bel hb)
  have Q_7 := Lib.hid (Q_6.out.bel hb)
  clear hb D6 P_6 Q_6
  go_wp2_with fail
  refine (cM.out _).mono ?_
  rintro e w8 ⟨rfl, hb⟩
  have D8 := Lib.hid (D7.out.trans (hb.mono D7.out.size))
  have P_8 := Lib.hid (P_7.out.bel hb)
  have Q_8 := Lib.hid (Q_7.out.bel hb)
  clear hb D7 P_7 Q_7
  have hb : Below w8.heap.size w8 (w8.alloc (Obj.cells #[Value.int .i64 (mx : Int), Value.int .i64 (my : Int)] 23)) := (Below.refl _ _).alloc (Nat.le_refl _) _
  have Pc0 := (P_8.out.bel hb).c0
  have Pc1 := (P_8.out.bel hb).c1
  have Pf0 := (P_8.out.bel hb).fz 0
  have Qc0 := (Q_8.out.bel hb).c0
  have Qc1 := (Q_8.out.bel hb).c1
  have PM := Lib.hid (P_8.out.bel hb)
  have DM := Lib.hid (D8.out.trans (hb.mono D8.out.size))
  clear hb
  go_wp2_with fail
  clear Pc0 Pc1 Pf0 Qc0 Qc1
  obtain ⟨v9, hv9⟩ : ∃ W, W = (w8.alloc (Obj.cells #[Value.int .i64 (mx : Int), Value.int .i64 (my : Int)] 23)).setCell ⟨BB, 0, none⟩ (Value.int .i64 ((A : Int) + 180)) := ⟨_, rfl⟩
  have P9 : Hid (PosAt BB ((A : Int) + 180) (B : Int) v9) := Lib.hid (by rw [hv9]; exact PM.out.set0 _)
  have D9 : Hid (Below w.heap.size w v9) := Lib.hid (by rw [hv9]; exact DM.out.setCell (p := ⟨BB, 0, none⟩) HBB.out _)
  rw [← hv9]
  clear hv9 PM DM
  by_cases h2 : A + 180 < 5760
  · skip
    have cN := Lib.hid (HN1.out h2)
    have k1 : decide ((A : Int) + 180 < 5760) = true := decide_eq_true (by omega)
    have k2 : decide (5760 ≤ (A : Int) + 180) = false := decide_eq_false (by omega)
    clear h2
    refine (cN.out _).mono ?_
    rintro e v10 ⟨rfl, hb⟩
    have D10 := Lib.hid (D9.out.trans (hb.mono D9.out.size))
    have P10 := Lib.hid (P9.out.bel hb)
    have Pc0 := P10.out.c0
    have Pc1 := P10.out.c1
    have Pf0 := P10.out.fz 0
    have Pf1 := P10.out.fz 1
    clear hb D9 P9
    go_wp2_with fail
    clear Pc0 Pc1 Pf0 Pf1 k1 k2
    have D11 := Lib.hid (PosAt.below D10.out HBB.out (Value.int .i64 (A : Int)) (Value.int .i64 ((B : Int) + 180)))
    have P11 := Lib.hid (P10.out.set (A : Int) ((B : Int) + 180))
    by_cases h3 : B + 180 < 2880
    · skip
      have cO := Lib.hid (HO1.out h3)
      have k3 : decide ((B : Int) + 180 < 2880) = true := decide_eq_true (by omega)
      have k4 : decide (2880 ≤ (B : Int) + 180) = false := decide_eq_false (by omega)
      clear h3
      refine (cO.out _).mono ?_
      rintro e v12 ⟨rfl, hb⟩
      have D12 := Lib.hid (D11.out.trans (hb.mono D11.out.size))
      have P12 := Lib.hid (P11.out.bel hb)
      have Pc1 := P12.out.c1
      clear hb D11 P11
      go_wp2_with fail
      go_ret
      exact ⟨rfl, D12.out⟩
    · skip
      have cO := Lib.hid (HO0.out h3)
      have k3 : decide ((B : Int) + 180 < 2880) = false := decide_eq_false (by omega)
      have k4 : decide (2880 ≤ (B : Int) + 180) = true := decide_eq_true (by omega)
      clear h3
      refine (cO.out _).mono ?_
      rintro e v12 ⟨rfl, hb⟩
      have D12 := Lib.hid (D11.out.trans (hb.mono D11.out.size))
      have P12 := Lib.hid (P11.out.bel hb)
      have Pc1 := P12.out.c1
      clear hb D11 P11
      go_wp2_with fail
      go_ret
      exact ⟨rfl, D12.out⟩
  · skip
    have cN := Lib.hid (HN0.out h2)
    have k1 : decide ((A : Int) + 180 < 5760) = false := decide_eq_false (by omega)
    have k2 : decide (5760 ≤ (A : Int) + 180) = true := decide_eq_true (by omega)
    clear h2
    refine (cN.out _).mono ?_
    rintro e v10 ⟨rfl, hb⟩
    have D10 := Lib.hid (D9.out.trans (hb.mono D9.out.size))
    have P10 := Lib.hid (P9.out.bel hb)
    have Pc0 := P10.out.c0
    have Pc1 := P10.out.c1
    have Pf0 := P10.out.fz 0
    have Pf1 := P10.out.fz 1
    clear hb D9 P9
    go_wp2_with fail
    clear Pc0 Pc1 Pf0 Pf1 k1 k2
    have D11 := Lib.hid (PosAt.below D10.out HBB.out (Value.int .i64 (A : Int)) (Value.int .i64 ((B : Int) + 180)))
    have P11 := Lib.hid (P10.out.set (A : Int) ((B : Int) + 180))
    by_cases h3 : B + 180 < 2880
    · skip
      have cO := Lib.hid (HO1.out h3)
      have k3 : decide ((B : Int) + 180 < 2880) = true := decide_eq_true (by omega)
      have k4 : decide (2880 ≤ (B : Int) + 180) = false := decide_eq_false (by omega)
      clear h3
      refine (cO.out _).mono ?_
      rintro e v12 ⟨rfl, hb⟩
      have D12 := Lib.hid (D11.out.trans (hb.mono D11.out.size))
      have P12 := Lib.hid (P11.out.bel hb)
      have Pc1 := P12.out.c1
      clear hb D11 P11
      go_wp2_with fail
      go_ret
      exact ⟨rfl, D12.out⟩
    · skip
      have cO := Lib.hid (HO0.out h3)
      have k3 : decide ((B : Int) + 180 < 2880) = false := decide_eq_false (by omega)
      have k4 : decide (2880 ≤ (B : Int) + 180) = true := decide_eq_true (by omega)
      clear h3
      refine (cO.out _).mono ?_
      rintro e v12 ⟨rfl, hb⟩
      have D12 := Lib.hid (D11.out.trans (hb.mono D11.out.size))
      have P12 := Lib.hid (P11.out.bel hb)
      have Pc1 := P12.out.c1
      clear hb D11 P11
      go_wp2_with fail
      go_ret
      exact ⟨rfl, D12.out⟩
theorem walkSkyTiles (x y v u : Int) (w : World) (hx : 0 ≤ x ∧ x ≤ 65535) (hy : 0 ≤ y ∧ y ≤ 65535) (hv : 0 ≤ v ∧ v ≤ 65535) (hu : 0 ≤ u ∧ u ≤ 65535) :
    Calls Try.prog 4 #[.int .u16 x, .int .u16 y, .int .u16 v, .int .u16 u] w fun e w' => e = .returned (.bool true) ∧ Below w.heap.size w w' := by
  obtain ⟨X, rfl⟩ : ∃ X : Nat, x = (X : Int) := ⟨x.toNat, by omega⟩
  obtain ⟨Y, rfl⟩ : ∃ Y : Nat, y = (Y : Int) := ⟨y.toNat, by omega⟩
  obtain ⟨V, rfl⟩ : ∃ V : Nat, v = (V : Int) := ⟨v.toNat, by omega⟩
  obtain ⟨U, rfl⟩ : ∃ U : Nat, u = (U : Int) := ⟨u.toNat, by omega⟩
  have hX : X ≤ 65535 := by omega
  have hY : Y ≤ 65535 := by omega
  have hV : V ≤ 65535 := by omega
  have hU : U ≤ 65535 := by omega
  by_cases h1 : X % 5760 / 180 = V % 5760 / 180
  · exact tiles_1 X Y V U _ _ _ _ _ _ _ _ _ _ _ _ _ _ _ w hX hY hV hU rfl rfl rfl rfl rfl rfl rfl rfl rfl rfl rfl rfl rfl rfl rfl h1
  · exact tiles_0 X Y V U _ _ _ _ _ _ _ _ _ _ _ _ _ _ _ w hX hY hV hU rfl rfl rfl rfl rfl rfl rfl rfl rfl rfl rfl rfl rfl rfl rfl h1
end Go.Proofs.Ytaebejhncjadhaa
