/-
  The program's sky (layer 10): distances; a place after some steps.
-/
import Derived.Test.YtaebejhncjadhaaSkPB
set_option linter.unusedVariables false
set_option maxRecDepth 100000
namespace Go.Proofs.Ytaebejhncjadhaa.Sk
open Go.RowKit
set_option maxHeartbeats 1000000 in
theorem pDistance_any (a b : Int) (ha : I64 a) (hb : I64 b) (w : World) : Calls Try.prog 15 #[.int .i64 a, .int .i64 b] w (GivesN (disA a b).1 (disA a b).2 w) := by
  have hmf : ∀ (fn : Fn) (first cap : Array Value) (w : World), (Instr.makeFunc fn first cap).run Try.prog w = .ok (.func fn first cap) w := fun _ _ _ _ => rfl
  clear ha hb
  cases h : isT a with
  | false =>
    have HA : Hid (disA a b = (0, 1)) := Lib.hid (by unfold disA; rw [h]; rfl)
    rw [HA.out]
    have cU := Lib.hid (fun w => pplace_no a h w)
    clear h
    go_enter Try.func15, Try.ntmps15
    go_wp2_with fail
    refine (cU.out _).mono ?_
    rintro e w1 ⟨rfl, hb⟩
    have D1 := Lib.hid (hb.alloc hb.size (Obj.cells #[.int .i64 0, .int .i64 0] 44))
    clear hb
    go_wp2_with fail
    go_ret2
    exact ⟨rfl, D1.out⟩
  | true =>
    obtain ⟨a, rfl, ha⟩ := isT_yes h
    have cU := Lib.hid (fun w => pplace_ok a ha w)
    cases h' : isT b with
    | false =>
      have HA : Hid (disA (a : Int) b = (0, 1)) := Lib.hid (by unfold disA; rw [h, h']; rfl)
      rw [HA.out]
      have cV := Lib.hid (fun w => pplace_no b h' w)
      clear h h' ha
      generalize a % 32 = c at cU
      generalize a / 32 = d at cU
      go_enter Try.func15, Try.ntmps15
      go_wp2_with fail
      refine (cU.out _).mono ?_
      rintro e w1 ⟨rfl, hb⟩
      have D1 := Lib.hid (hb.alloc hb.size (Obj.cells #[.int .i64 (c : Int), .int .i64 (d : Int)] 44))
      clear hb
      go_wp2_with fail
      refine (cV.out _).mono ?_
      rintro e w2 ⟨rfl, hb⟩
      have D2 := Lib.hid ((D1.out.trans (hb.mono D1.out.size)).alloc (Nat.le_trans D1.out.size hb.size) (Obj.cells #[.int .i64 0, .int .i64 0] 44))
      clear hb D1
      go_wp2_with fail
      go_ret2
      exact ⟨rfl, D2.out⟩
    | true =>
      obtain ⟨b, rfl, hb⟩ := isT_yes h'
      have cV := Lib.hid (fun w => pplace_ok b hb w)
      have HA : Hid (disA (a : Int) (b : Int) = _) := Lib.hid (disA_ok ha hb)
      rw [HA.out]
      have l1 : a % 32 < 32 := by omega
      have l2 : a / 32 < 32 := by omega
      have l3 : b % 32 < 32 := by omega
      have l4 : b / 32 < 32 := by omega
      obtain ⟨s, hs⟩ : ∃ s, s = (a % 32 - b % 32) + (b % 32 - a % 32) := ⟨_, rfl⟩
      obtain ⟨u, hu⟩ : ∃ u, u = (a / 32 - b / 32) + (b / 32 - a / 32) := ⟨_, rfl⟩
      have hs32 : s < 32 := by omega
      have hu32 : u < 32 := by omega
      have HX : Hid (((dis a b : Nat) : Int) = max (min (s : Int) (32 - (s : Int))) (u : Int)) := Lib.hid (by
        have hc := aro_cases (a % 32) (b % 32)
        rw [← hs] at hc
        unfold dis bnd
        rw [← hu]
        omega)
      have k0 := fun B C w' hP hQ => pdist1_0 B C (a % 32) (a / 32) (b % 32) (b / 32) l1 l2 l3 l4 w' hP hQ
      have k1 := fun B C w' hP hQ => pdist1_1 B C (a % 32) (a / 32) (b % 32) (b / 32) l1 l2 l3 l4 w' hP hQ
      rw [← hs] at k0
      rw [← hu] at k1
      have K0 := Lib.hid k0
      have K1 := Lib.hid k1
      have f1 : IntKind.i64.wrap (32 - (s : Int)) = 32 - (s : Int) := IntWalk.i64_in _ (by omega)
      clear h h' ha hb k0 k1 hs hu l1 l2 l3 l4
      generalize a % 32 = ac at *
      generalize a / 32 = ab at *
      generalize b % 32 = bc at *
      generalize b / 32 = bb at *
      go_enter Try.func15, Try.ntmps15
      go_wp2_with fail
      refine (cU.out _).mono ?_
      rintro e w1 ⟨rfl, hb⟩
      have P1 := Lib.hid (PairAt.new w1 (ac : Int) (ab : Int))
      have D1 := Lib.hid (hb.alloc hb.size (Obj.cells #[.int .i64 (ac : Int), .int .i64 (ab : Int)] 44))
      clear hb
      go_wp2_with fail
      refine (cV.out _).mono ?_
      rintro e w2 ⟨rfl, hb⟩
      have P2 := Lib.hid ((P1.out.bel hb).bel ((Below.refl _ _).alloc (Nat.le_refl _) (Obj.cells #[.int .i64 (bc : Int), .int .i64 (bb : Int)] 44)))
      have Q2 := Lib.hid (PairAt.new w2 (bc : Int) (bb : Int))
      have D2 := Lib.hid ((D1.out.trans (hb.mono D1.out.size)).alloc (Nat.le_trans D1.out.size hb.size) (Obj.cells #[.int .i64 (bc : Int), .int .i64 (bb : Int)] 44))
      clear hb D1 P1
      have G0 := Lib.hid (fun w' (hw : Below (w2.alloc (Obj.cells #[.int .i64 (bc : Int), .int .i64 (bb : Int)] 44)).heap.size (w2.alloc (Obj.cells #[.int .i64 (bc : Int), .int .i64 (bb : Int)] 44)) w') => K0.out w1.heap.size w2.heap.size w' (P2.out.bel hw) (Q2.out.bel hw))
      have G1 := Lib.hid (fun w' (hw : Below (w2.alloc (Obj.cells #[.int .i64 (bc : Int), .int .i64 (bb : Int)] 44)).heap.size (w2.alloc (Obj.cells #[.int .i64 (bc : Int), .int .i64 (bb : Int)] 44)) w') => K1.out w1.heap.size w2.heap.size w' (P2.out.bel hw) (Q2.out.bel hw))
      clear K0 K1 P2 Q2
      go_wp2_with fail
      refine (pboth2 _ _ _ _ _ _ (fun _ _ => rfl) G0.out G1.out).mono ?_
      rintro e w3 ⟨rfl, hb⟩
      have D3 := Lib.hid ((D2.out.trans (hb.mono D2.out.size)).alloc (Nat.le_trans D2.out.size hb.size) (Obj.cells #[.int .i64 (s : Int), .int .i64 (u : Int)] 44))
      clear hb D2 G0 G1
      go_wp2_with fail
      go_ret2
      exact ⟨by rw [HX.out]; rfl, D3.out⟩
theorem PairAt.drew {B : Nat} {x y : Int} {w : World} (h : PairAt B x y w) : PairAt B x y w.drew := ⟨h.cells⟩
theorem pmoved1_0 (B C : Nat) (x y p q : Int) (hx : 0 ≤ x ∧ x < 32) (hp : -31 ≤ p ∧ p ≤ 31) (w : World) (h : PairAt B x y w) (k : PairAt C p q w) : Calls Try.prog 35 #[.int .i64 0, .pointer (some ⟨B, 0, none⟩), .pointer (some ⟨C, 0, none⟩)] w fun e w' => e = .returned (.int .i64 (x + p)) ∧ Below w.heap.size w w' := by
  have c0 := h.c0
  have d0 := k.c0
  clear h k
  have f1 : IntKind.i64.wrap (x + p) = x + p := IntWalk.i64_in _ (by omega)
  have D0 := Lib.hid (Below.refl w.heap.size w)
  go_enter Try.func35, Try.ntmps35
  go_wp2_with fail
  go_quiet (fail)
  go_wp2_with fail
  go_ret
  exact ⟨rfl, below_drewN D0.out _⟩
theorem pmoved1_1 (B C : Nat) (x y p q : Int) (hx : 0 ≤ y ∧ y < 32) (hp : -31 ≤ q ∧ q ≤ 31) (w : World) (h : PairAt B x y w) (k : PairAt C p q w) : Calls Try.prog 35 #[.int .i64 1, .pointer (some ⟨B, 0, none⟩), .pointer (some ⟨C, 0, none⟩)] w fun e w' => e = .returned (.int .i64 (y + q)) ∧ Below w.heap.size w w' := by
  have c1 := h.c1
  have d1 := k.c1
  clear h k
  have f1 : IntKind.i64.wrap (y + q) = y + q := IntWalk.i64_in _ (by omega)
  have D0 := Lib.hid (Below.refl w.heap.size w)
  go_enter Try.func35, Try.ntmps35
  go_wp2_with fail
  go_quiet (fail)
  go_wp2_with fail
  go_ret
  exact ⟨rfl, below_drewN D0.out _⟩
set_option maxHeartbeats 1000000 in
theorem pmoved_in (x y p q : Int) (X : Nat) (hx : 0 ≤ x ∧ x < 32) (hy : 0 ≤ y ∧ y < 32) (hp : -31 ≤ p ∧ p ≤ 31) (hq : -31 ≤ q ∧ q ≤ 31) (Y : Int) (hX : X = (x + p + 32).toNat % 32) (hY : Y = y + q) (hk : 0 ≤ Y ∧ Y < 16) (w : World) : Calls Try.prog 33 #[.agg #[.int .i64 x, .int .i64 y], .agg #[.int .i64 p, .int .i64 q]] w fun e w' => e = .returned (.tuple #[.agg #[.int .i64 (X : Int), .int .i64 Y], .bool true]) ∧ Below w.heap.size w w' := by
  have hmf : ∀ (fn : Fn) (first cap : Array Value) (w : World), (Instr.makeFunc fn first cap).run Try.prog w = .ok (.func fn first cap) w := fun _ _ _ _ => rfl
  have k0 := fun B C w' hP hQ => pmoved1_0 B C x y p q hx hp w' hP hQ
  have k1 := fun B C w' hP hQ => pmoved1_1 B C x y p q hy hq w' hP hQ
  obtain ⟨X', hX'⟩ : ∃ X', X' = x + p := ⟨_, rfl⟩
  have f1 : IntKind.i64.wrap (X' + 32) = X' + 32 := IntWalk.i64_in _ (by omega)
  have e1 : Int.tmod (X' + 32) 32 = (X : Int) := by rw [Int.tmod_eq_emod_of_nonneg (by omega)]; omega
  have f2 : IntKind.i64.wrap (X : Int) = (X : Int) := IntWalk.i64_in _ (by omega)
  rw [← hX'] at k0
  rw [← hY] at k1
  have K0 := Lib.hid k0
  have K1 := Lib.hid k1
  clear k0 k1
  have t1 : decide (0 ≤ Y) = true := decide_eq_true hk.1
  have t2 : decide (Y < 16) = true := decide_eq_true hk.2
  clear hx hy hp hq hX hX' hY hk
  have D1 := Lib.hid (((((Below.refl w.heap.size w).alloc (Nat.le_refl _) (Obj.cells #[.int .i64 x, .int .i64 y] 44)).alloc (by simp) (Obj.cells #[.int .i64 p, .int .i64 q] 44)).alloc (by simp; omega) (Obj.cells #[.int .i64 0, .int .i64 0] 44)))
  have W1 := Lib.hid (PairAt.new w x y)
  have W2 := Lib.hid ((W1.out.bel ((Below.refl _ _).alloc (Nat.le_refl _) (Obj.cells #[.int .i64 p, .int .i64 q] 44))).bel ((Below.refl _ _).alloc (Nat.le_refl _) (Obj.cells #[.int .i64 0, .int .i64 0] 44)))
  have V1 := Lib.hid (PairAt.new' (w := w.alloc (Obj.cells #[.int .i64 x, .int .i64 y] 44)) (B := w.heap.size + 1) (by simp) p q)
  have V2 := Lib.hid (V1.out.bel ((Below.refl _ _).alloc (Nat.le_refl _) (Obj.cells #[.int .i64 0, .int .i64 0] 44)))
  have U2 := Lib.hid (PairAt.new' (w := (w.alloc (Obj.cells #[.int .i64 x, .int .i64 y] 44)).alloc (Obj.cells #[.int .i64 p, .int .i64 q] 44)) (B := w.heap.size + 1 + 1) (by simp) 0 0)
  clear W1 V1
  have G0 := Lib.hid (fun w' (hw : Below ((((w.alloc (Obj.cells #[.int .i64 x, .int .i64 y] 44)).alloc (Obj.cells #[.int .i64 p, .int .i64 q] 44)).alloc (Obj.cells #[.int .i64 0, .int .i64 0] 44))).heap.size (((w.alloc (Obj.cells #[.int .i64 x, .int .i64 y] 44)).alloc (Obj.cells #[.int .i64 p, .int .i64 q] 44)).alloc (Obj.cells #[.int .i64 0, .int .i64 0] 44)) w') => K0.out w.heap.size (w.heap.size + 1) w' (W2.out.bel hw) (V2.out.bel hw))
  have G1 := Lib.hid (fun w' (hw : Below ((((w.alloc (Obj.cells #[.int .i64 x, .int .i64 y] 44)).alloc (Obj.cells #[.int .i64 p, .int .i64 q] 44)).alloc (Obj.cells #[.int .i64 0, .int .i64 0] 44))).heap.size (((w.alloc (Obj.cells #[.int .i64 x, .int .i64 y] 44)).alloc (Obj.cells #[.int .i64 p, .int .i64 q] 44)).alloc (Obj.cells #[.int .i64 0, .int .i64 0] 44)) w') => K1.out w.heap.size (w.heap.size + 1) w' (W2.out.bel hw) (V2.out.bel hw))
  clear K0 K1 W2 V2
  go_enter Try.func33, Try.ntmps33
  go_wp2_with fail
  refine (pboth2 _ _ _ _ _ _ (fun _ _ => rfl) G0.out G1.out).mono ?_
  rintro e w3 ⟨rfl, hb⟩
  have U3 := Lib.hid ((U2.out.bel hb).bel ((Below.refl _ _).alloc (Nat.le_refl _) (Obj.cells #[.int .i64 (X : Int), .int .i64 Y] 44)))
  have D3 := Lib.hid ((D1.out.trans (hb.mono D1.out.size)).alloc (Nat.le_trans D1.out.size hb.size) (Obj.cells #[.int .i64 (X : Int), .int .i64 Y] 44))
  have T3 := Lib.hid (PairAt.new w3 (X : Int) Y)
  have hlt : w.heap.size + 1 + 1 < w3.heap.size := by have := hb.size; simp at this; omega
  have n1 : ¬ (w.heap.size + 1 + 1 = w3.heap.size) := by omega
  have n2 : ¬ (w3.heap.size = w.heap.size + 1 + 1) := by omega
  clear hb D1 G0 G1 U2 hlt
  go_wp2_with fail
  have u0 := U3.out.c0
  have u1 := U3.out.c1
  have g0 := U3.out.fz 0
  have g1 := U3.out.fz 1
  have c0 := T3.out.c0
  have c1 := T3.out.c1
  generalize hw4 : w3.alloc (Obj.cells #[.int .i64 (X : Int), .int .i64 Y] 44) = w4 at *
  have W4 : PairAt (w.heap.size + 1 + 1) (X : Int) Y ((w4.setCell ⟨w.heap.size + 1 + 1, 0, none⟩ (.int .i64 (X : Int))).setCell ⟨w.heap.size + 1 + 1, 1, none⟩ (.int .i64 Y)) := U3.out.set _ _
  have W5 := Lib.hid W4.drew
  clear W4
  go_region
  go_wp2_with fail
  refine bodyPost_ret (results_pair rfl _ _ (w.heap.size + 1 + 1) _ _ _ rfl rfl W5.out) rfl ?_
  exact ⟨rfl, Below.drew ((D3.out.setCell (p := ⟨w.heap.size + 1 + 1, 0, none⟩) (by show w.heap.size ≤ w.heap.size + 1 + 1; omega) _).setCell (p := ⟨w.heap.size + 1 + 1, 1, none⟩) (by show w.heap.size ≤ w.heap.size + 1 + 1; omega) _)⟩
set_option maxHeartbeats 1000000 in
theorem pmoved_up (x y p q : Int) (X : Nat) (hx : 0 ≤ x ∧ x < 32) (hy : 0 ≤ y ∧ y < 32) (hp : -31 ≤ p ∧ p ≤ 31) (hq : -31 ≤ q ∧ q ≤ 31) (Y : Int) (hX : X = (x + p + 32).toNat % 32) (hY : Y = y + q) (hk : Y < 0) (w : World) : Calls Try.prog 33 #[.agg #[.int .i64 x, .int .i64 y], .agg #[.int .i64 p, .int .i64 q]] w fun e w' => e = .returned (.tuple #[.agg #[.int .i64 (X : Int), .int .i64 Y], .bool false]) ∧ Below w.heap.size w w' := by
  have hmf : ∀ (fn : Fn) (first cap : Array Value) (w : World), (Instr.makeFunc fn first cap).run Try.prog w = .ok (.func fn first cap) w := fun _ _ _ _ => rfl
  have k0 := fun B C w' hP hQ => pmoved1_0 B C x y p q hx hp w' hP hQ
  have k1 := fun B C w' hP hQ => pmoved1_1 B C x y p q hy hq w' hP hQ
  obtain ⟨X', hX'⟩ : ∃ X', X' = x + p := ⟨_, rfl⟩
  have f1 : IntKind.i64.wrap (X' + 32) = X' + 32 := IntWalk.i64_in _ (by omega)
  have e1 : Int.tmod (X' + 32) 32 = (X : Int) := by rw [Int.tmod_eq_emod_of_nonneg (by omega)]; omega
  have f2 : IntKind.i64.wrap (X : Int) = (X : Int) := IntWalk.i64_in _ (by omega)
  rw [← hX'] at k0
  rw [← hY] at k1
  have K0 := Lib.hid k0
  have K1 := Lib.hid k1
  clear k0 k1
  have t1 : decide (0 ≤ Y) = false := decide_eq_false (by omega)
  clear hx hy hp hq hX hX' hY hk
  have D1 := Lib.hid (((((Below.refl w.heap.size w).alloc (Nat.le_refl _) (Obj.cells #[.int .i64 x, .int .i64 y] 44)).alloc (by simp) (Obj.cells #[.int .i64 p, .int .i64 q] 44)).alloc (by simp; omega) (Obj.cells #[.int .i64 0, .int .i64 0] 44)))
  have W1 := Lib.hid (PairAt.new w x y)
  have W2 := Lib.hid ((W1.out.bel ((Below.refl _ _).alloc (Nat.le_refl _) (Obj.cells #[.int .i64 p, .int .i64 q] 44))).bel ((Below.refl _ _).alloc (Nat.le_refl _) (Obj.cells #[.int .i64 0, .int .i64 0] 44)))
  have V1 := Lib.hid (PairAt.new' (w := w.alloc (Obj.cells #[.int .i64 x, .int .i64 y] 44)) (B := w.heap.size + 1) (by simp) p q)
  have V2 := Lib.hid (V1.out.bel ((Below.refl _ _).alloc (Nat.le_refl _) (Obj.cells #[.int .i64 0, .int .i64 0] 44)))
  have U2 := Lib.hid (PairAt.new' (w := (w.alloc (Obj.cells #[.int .i64 x, .int .i64 y] 44)).alloc (Obj.cells #[.int .i64 p, .int .i64 q] 44)) (B := w.heap.size + 1 + 1) (by simp) 0 0)
  clear W1 V1
  have G0 := Lib.hid (fun w' (hw : Below ((((w.alloc (Obj.cells #[.int .i64 x, .int .i64 y] 44)).alloc (Obj.cells #[.int .i64 p, .int .i64 q] 44)).alloc (Obj.cells #[.int .i64 0, .int .i64 0] 44))).heap.size (((w.alloc (Obj.cells #[.int .i64 x, .int .i64 y] 44)).alloc (Obj.cells #[.int .i64 p, .int .i64 q] 44)).alloc (Obj.cells #[.int .i64 0, .int .i64 0] 44)) w') => K0.out w.heap.size (w.heap.size + 1) w' (W2.out.bel hw) (V2.out.bel hw))
  have G1 := Lib.hid (fun w' (hw : Below ((((w.alloc (Obj.cells #[.int .i64 x, .int .i64 y] 44)).alloc (Obj.cells #[.int .i64 p, .int .i64 q] 44)).alloc (Obj.cells #[.int .i64 0, .int .i64 0] 44))).heap.size (((w.alloc (Obj.cells #[.int .i64 x, .int .i64 y] 44)).alloc (Obj.cells #[.int .i64 p, .int .i64 q] 44)).alloc (Obj.cells #[.int .i64 0, .int .i64 0] 44)) w') => K1.out w.heap.size (w.heap.size + 1) w' (W2.out.bel hw) (V2.out.bel hw))
  clear K0 K1 W2 V2
  go_enter Try.func33, Try.ntmps33
  go_wp2_with fail
  refine (pboth2 _ _ _ _ _ _ (fun _ _ => rfl) G0.out G1.out).mono ?_
  rintro e w3 ⟨rfl, hb⟩
  have U3 := Lib.hid ((U2.out.bel hb).bel ((Below.refl _ _).alloc (Nat.le_refl _) (Obj.cells #[.int .i64 (X : Int), .int .i64 Y] 44)))
  have D3 := Lib.hid ((D1.out.trans (hb.mono D1.out.size)).alloc (Nat.le_trans D1.out.size hb.size) (Obj.cells #[.int .i64 (X : Int), .int .i64 Y] 44))
  have T3 := Lib.hid (PairAt.new w3 (X : Int) Y)
  have hlt : w.heap.size + 1 + 1 < w3.heap.size := by have := hb.size; simp at this; omega
  have n1 : ¬ (w.heap.size + 1 + 1 = w3.heap.size) := by omega
  have n2 : ¬ (w3.heap.size = w.heap.size + 1 + 1) := by omega
  clear hb D1 G0 G1 U2 hlt
  go_wp2_with fail
  have u0 := U3.out.c0
  have u1 := U3.out.c1
  have g0 := U3.out.fz 0
  have g1 := U3.out.fz 1
  have c0 := T3.out.c0
  have c1 := T3.out.c1
  generalize hw4 : w3.alloc (Obj.cells #[.int .i64 (X : Int), .int .i64 Y] 44) = w4 at *
  have W4 : PairAt (w.heap.size + 1 + 1) (X : Int) Y ((w4.setCell ⟨w.heap.size + 1 + 1, 0, none⟩ (.int .i64 (X : Int))).setCell ⟨w.heap.size + 1 + 1, 1, none⟩ (.int .i64 Y)) := U3.out.set _ _
  have W5 := Lib.hid W4.drew
  clear W4
  go_region
  go_wp2_with fail
  refine bodyPost_ret (results_pair rfl _ _ (w.heap.size + 1 + 1) _ _ _ rfl rfl W5.out) rfl ?_
  exact ⟨rfl, Below.drew ((D3.out.setCell (p := ⟨w.heap.size + 1 + 1, 0, none⟩) (by show w.heap.size ≤ w.heap.size + 1 + 1; omega) _).setCell (p := ⟨w.heap.size + 1 + 1, 1, none⟩) (by show w.heap.size ≤ w.heap.size + 1 + 1; omega) _)⟩
set_option maxHeartbeats 1000000 in
theorem pmoved_down (x y p q : Int) (X : Nat) (hx : 0 ≤ x ∧ x < 32) (hy : 0 ≤ y ∧ y < 32) (hp : -31 ≤ p ∧ p ≤ 31) (hq : -31 ≤ q ∧ q ≤ 31) (Y : Int) (hX : X = (x + p + 32).toNat % 32) (hY : Y = y + q) (hk : 16 ≤ Y) (w : World) : Calls Try.prog 33 #[.agg #[.int .i64 x, .int .i64 y], .agg #[.int .i64 p, .int .i64 q]] w fun e w' => e = .returned (.tuple #[.agg #[.int .i64 (X : Int), .int .i64 Y], .bool false]) ∧ Below w.heap.size w w' := by
  have hmf : ∀ (fn : Fn) (first cap : Array Value) (w : World), (Instr.makeFunc fn first cap).run Try.prog w = .ok (.func fn first cap) w := fun _ _ _ _ => rfl
  have k0 := fun B C w' hP hQ => pmoved1_0 B C x y p q hx hp w' hP hQ
  have k1 := fun B C w' hP hQ => pmoved1_1 B C x y p q hy hq w' hP hQ
  obtain ⟨X', hX'⟩ : ∃ X', X' = x + p := ⟨_, rfl⟩
  have f1 : IntKind.i64.wrap (X' + 32) = X' + 32 := IntWalk.i64_in _ (by omega)
  have e1 : Int.tmod (X' + 32) 32 = (X : Int) := by rw [Int.tmod_eq_emod_of_nonneg (by omega)]; omega
  have f2 : IntKind.i64.wrap (X : Int) = (X : Int) := IntWalk.i64_in _ (by omega)
  rw [← hX'] at k0
  rw [← hY] at k1
  have K0 := Lib.hid k0
  have K1 := Lib.hid k1
  clear k0 k1
  have t1 : decide (0 ≤ Y) = true := decide_eq_true (by omega)
  have t2 : decide (Y < 16) = false := decide_eq_false (by omega)
  clear hx hy hp hq hX hX' hY hk
  have D1 := Lib.hid (((((Below.refl w.heap.size w).alloc (Nat.le_refl _) (Obj.cells #[.int .i64 x, .int .i64 y] 44)).alloc (by simp) (Obj.cells #[.int .i64 p, .int .i64 q] 44)).alloc (by simp; omega) (Obj.cells #[.int .i64 0, .int .i64 0] 44)))
  have W1 := Lib.hid (PairAt.new w x y)
  have W2 := Lib.hid ((W1.out.bel ((Below.refl _ _).alloc (Nat.le_refl _) (Obj.cells #[.int .i64 p, .int .i64 q] 44))).bel ((Below.refl _ _).alloc (Nat.le_refl _) (Obj.cells #[.int .i64 0, .int .i64 0] 44)))
  have V1 := Lib.hid (PairAt.new' (w := w.alloc (Obj.cells #[.int .i64 x, .int .i64 y] 44)) (B := w.heap.size + 1) (by simp) p q)
  have V2 := Lib.hid (V1.out.bel ((Below.refl _ _).alloc (Nat.le_refl _) (Obj.cells #[.int .i64 0, .int .i64 0] 44)))
  have U2 := Lib.hid (PairAt.new' (w := (w.alloc (Obj.cells #[.int .i64 x, .int .i64 y] 44)).alloc (Obj.cells #[.int .i64 p, .int .i64 q] 44)) (B := w.heap.size + 1 + 1) (by simp) 0 0)
  clear W1 V1
  have G0 := Lib.hid (fun w' (hw : Below ((((w.alloc (Obj.cells #[.int .i64 x, .int .i64 y] 44)).alloc (Obj.cells #[.int .i64 p, .int .i64 q] 44)).alloc (Obj.cells #[.int .i64 0, .int .i64 0] 44))).heap.size (((w.alloc (Obj.cells #[.int .i64 x, .int .i64 y] 44)).alloc (Obj.cells #[.int .i64 p, .int .i64 q] 44)).alloc (Obj.cells #[.int .i64 0, .int .i64 0] 44)) w') => K0.out w.heap.size (w.heap.size + 1) w' (W2.out.bel hw) (V2.out.bel hw))
  have G1 := Lib.hid (fun w' (hw : Below ((((w.alloc (Obj.cells #[.int .i64 x, .int .i64 y] 44)).alloc (Obj.cells #[.int .i64 p, .int .i64 q] 44)).alloc (Obj.cells #[.int .i64 0, .int .i64 0] 44))).heap.size (((w.alloc (Obj.cells #[.int .i64 x, .int .i64 y] 44)).alloc (Obj.cells #[.int .i64 p, .int .i64 q] 44)).alloc (Obj.cells #[.int .i64 0, .int .i64 0] 44)) w') => K1.out w.heap.size (w.heap.size + 1) w' (W2.out.bel hw) (V2.out.bel hw))
  clear K0 K1 W2 V2
  go_enter Try.func33, Try.ntmps33
  go_wp2_with fail
  refine (pboth2 _ _ _ _ _ _ (fun _ _ => rfl) G0.out G1.out).mono ?_
  rintro e w3 ⟨rfl, hb⟩
  have U3 := Lib.hid ((U2.out.bel hb).bel ((Below.refl _ _).alloc (Nat.le_refl _) (Obj.cells #[.int .i64 (X : Int), .int .i64 Y] 44)))
  have D3 := Lib.hid ((D1.out.trans (hb.mono D1.out.size)).alloc (Nat.le_trans D1.out.size hb.size) (Obj.cells #[.int .i64 (X : Int), .int .i64 Y] 44))
  have T3 := Lib.hid (PairAt.new w3 (X : Int) Y)
  have hlt : w.heap.size + 1 + 1 < w3.heap.size := by have := hb.size; simp at this; omega
  have n1 : ¬ (w.heap.size + 1 + 1 = w3.heap.size) := by omega
  have n2 : ¬ (w3.heap.size = w.heap.size + 1 + 1) := by omega
  clear hb D1 G0 G1 U2 hlt
  go_wp2_with fail
  have u0 := U3.out.c0
  have u1 := U3.out.c1
  have g0 := U3.out.fz 0
  have g1 := U3.out.fz 1
  have c0 := T3.out.c0
  have c1 := T3.out.c1
  generalize hw4 : w3.alloc (Obj.cells #[.int .i64 (X : Int), .int .i64 Y] 44) = w4 at *
  have W4 : PairAt (w.heap.size + 1 + 1) (X : Int) Y ((w4.setCell ⟨w.heap.size + 1 + 1, 0, none⟩ (.int .i64 (X : Int))).setCell ⟨w.heap.size + 1 + 1, 1, none⟩ (.int .i64 Y)) := U3.out.set _ _
  have W5 := Lib.hid W4.drew
  clear W4
  go_region
  go_wp2_with fail
  refine bodyPost_ret (results_pair rfl _ _ (w.heap.size + 1 + 1) _ _ _ rfl rfl W5.out) rfl ?_
  exact ⟨rfl, Below.drew ((D3.out.setCell (p := ⟨w.heap.size + 1 + 1, 0, none⟩) (by show w.heap.size ≤ w.heap.size + 1 + 1; omega) _).setCell (p := ⟨w.heap.size + 1 + 1, 1, none⟩) (by show w.heap.size ≤ w.heap.size + 1 + 1; omega) _)⟩
theorem pmoved_no (x y p q : Int) (X : Nat) (hx : 0 ≤ x ∧ x < 32) (hy : 0 ≤ y ∧ y < 32) (hp : -31 ≤ p ∧ p ≤ 31) (hq : -31 ≤ q ∧ q ≤ 31) (Y : Int) (hX : X = (x + p + 32).toNat % 32) (hY : Y = y + q) (hk : ¬ (0 ≤ Y ∧ Y < 16)) (w : World) : Calls Try.prog 33 #[.agg #[.int .i64 x, .int .i64 y], .agg #[.int .i64 p, .int .i64 q]] w fun e w' => e = .returned (.tuple #[.agg #[.int .i64 (X : Int), .int .i64 Y], .bool false]) ∧ Below w.heap.size w w' := by
  by_cases h : Y < 0
  · exact pmoved_up x y p q X hx hy hp hq Y hX hY h w
  · exact pmoved_down x y p q X hx hy hp hq Y hX hY (by omega) w
end Go.Proofs.Ytaebejhncjadhaa.Sk
