/-
  The program's sky (layer 10): tiles, cells, centres, distances.
-/
import Derived.Test.YtaebejhncjadhaaSkPA
set_option linter.unusedVariables false
set_option maxRecDepth 100000
namespace Go.Proofs.Ytaebejhncjadhaa.Sk
open Go.RowKit
theorem ptile1_0 (B : Nat) (x y : Nat) (hx : x < 5760) (hy : y < 5760) (w : World) (h : PairAt B (x : Int) (y : Int) w) : Calls Try.prog 25 #[.int .i64 0, .pointer (some ⟨B, 0, none⟩)] w fun e w' => e = .returned (.int .i64 ((x / 180 : Nat) : Int)) ∧ Below w.heap.size w w' := by
  have c0 := h.c0
  clear h
  have e1 : Int.tdiv (x : Int) 180 = ((x / 180 : Nat) : Int) := by rw [Int.tdiv_eq_ediv_of_nonneg (by omega)]; omega
  have f1 : IntKind.i64.wrap ((x / 180 : Nat) : Int) = ((x / 180 : Nat) : Int) := IntWalk.i64_in _ (by omega)
  go_enter Try.func25, Try.ntmps25
  go_wp2_with fail
  go_ret
  exact ⟨by push_cast; rfl, Below.refl _ _⟩
theorem ptile1_1 (B : Nat) (x y : Nat) (hx : x < 5760) (hy : y < 5760) (w : World) (h : PairAt B (x : Int) (y : Int) w) : Calls Try.prog 25 #[.int .i64 1, .pointer (some ⟨B, 0, none⟩)] w fun e w' => e = .returned (.int .i64 ((y / 180 : Nat) : Int)) ∧ Below w.heap.size w w' := by
  have c1 := h.c1
  clear h
  have e1 : Int.tdiv (y : Int) 180 = ((y / 180 : Nat) : Int) := by rw [Int.tdiv_eq_ediv_of_nonneg (by omega)]; omega
  have f1 : IntKind.i64.wrap ((y / 180 : Nat) : Int) = ((y / 180 : Nat) : Int) := IntWalk.i64_in _ (by omega)
  go_enter Try.func25, Try.ntmps25
  go_wp2_with fail
  go_ret
  exact ⟨by push_cast; rfl, Below.refl _ _⟩
theorem pcell1_0 (B : Nat) (x y : Nat) (hx : x < 5760) (hy : y < 5760) (w : World) (h : PairAt B (x : Int) (y : Int) w) : Calls Try.prog 27 #[.int .i64 0, .pointer (some ⟨B, 0, none⟩)] w fun e w' => e = .returned (.int .i64 ((x % 180 / 90 : Nat) : Int)) ∧ Below w.heap.size w w' := by
  have c0 := h.c0
  clear h
  have e1 : Int.tmod (x : Int) 180 = ((x % 180 : Nat) : Int) := by rw [Int.tmod_eq_emod_of_nonneg (by omega)]; omega
  have e2 : Int.tdiv ((x % 180 : Nat) : Int) 90 = ((x % 180 / 90 : Nat) : Int) := by rw [Int.tdiv_eq_ediv_of_nonneg (by omega)]; omega
  have f1 : IntKind.i64.wrap ((x % 180 : Nat) : Int) = ((x % 180 : Nat) : Int) := IntWalk.i64_in _ (by omega)
  have f2 : IntKind.i64.wrap ((x % 180 / 90 : Nat) : Int) = ((x % 180 / 90 : Nat) : Int) := IntWalk.i64_in _ (by omega)
  go_enter Try.func27, Try.ntmps27
  go_wp2_with fail
  go_ret
  exact ⟨by push_cast; rfl, Below.refl _ _⟩
theorem pcell1_1 (B : Nat) (x y : Nat) (hx : x < 5760) (hy : y < 5760) (w : World) (h : PairAt B (x : Int) (y : Int) w) : Calls Try.prog 27 #[.int .i64 1, .pointer (some ⟨B, 0, none⟩)] w fun e w' => e = .returned (.int .i64 ((y % 180 / 90 : Nat) : Int)) ∧ Below w.heap.size w w' := by
  have c1 := h.c1
  clear h
  have e1 : Int.tmod (y : Int) 180 = ((y % 180 : Nat) : Int) := by rw [Int.tmod_eq_emod_of_nonneg (by omega)]; omega
  have e2 : Int.tdiv ((y % 180 : Nat) : Int) 90 = ((y % 180 / 90 : Nat) : Int) := by rw [Int.tdiv_eq_ediv_of_nonneg (by omega)]; omega
  have f1 : IntKind.i64.wrap ((y % 180 : Nat) : Int) = ((y % 180 : Nat) : Int) := IntWalk.i64_in _ (by omega)
  have f2 : IntKind.i64.wrap ((y % 180 / 90 : Nat) : Int) = ((y % 180 / 90 : Nat) : Int) := IntWalk.i64_in _ (by omega)
  go_enter Try.func27, Try.ntmps27
  go_wp2_with fail
  go_ret
  exact ⟨by push_cast; rfl, Below.refl _ _⟩
theorem pcentre1_0 (B : Nat) (x y : Nat) (hx : x < 5760) (hy : y < 5760) (w : World) (h : PairAt B (x : Int) (y : Int) w) : Calls Try.prog 29 #[.int .i64 0, .pointer (some ⟨B, 0, none⟩)] w fun e w' => e = .returned (.int .i64 ((x * 180 + 90 : Nat) : Int)) ∧ Below w.heap.size w w' := by
  have c0 := h.c0
  clear h
  have f1 : IntKind.i64.wrap ((x : Int) * 180) = (x : Int) * 180 := IntWalk.i64_in _ (by omega)
  have f2 : IntKind.i64.wrap ((x : Int) * 180 + 90) = (x : Int) * 180 + 90 := IntWalk.i64_in _ (by omega)
  go_enter Try.func29, Try.ntmps29
  go_wp2_with fail
  go_ret
  exact ⟨by push_cast; rfl, Below.refl _ _⟩
theorem pcentre1_1 (B : Nat) (x y : Nat) (hx : x < 5760) (hy : y < 5760) (w : World) (h : PairAt B (x : Int) (y : Int) w) : Calls Try.prog 29 #[.int .i64 1, .pointer (some ⟨B, 0, none⟩)] w fun e w' => e = .returned (.int .i64 ((y * 180 + 90 : Nat) : Int)) ∧ Below w.heap.size w w' := by
  have c1 := h.c1
  clear h
  have f1 : IntKind.i64.wrap ((y : Int) * 180) = (y : Int) * 180 := IntWalk.i64_in _ (by omega)
  have f2 : IntKind.i64.wrap ((y : Int) * 180 + 90) = (y : Int) * 180 + 90 := IntWalk.i64_in _ (by omega)
  go_enter Try.func29, Try.ntmps29
  go_wp2_with fail
  go_ret
  exact ⟨by push_cast; rfl, Below.refl _ _⟩
theorem pdist1_0 (B C : Nat) (x y u v : Nat) (hx : x < 32) (hy : y < 32) (hu : u < 32) (hv : v < 32) (w : World) (h : PairAt B (x : Int) (y : Int) w) (k : PairAt C (u : Int) (v : Int) w) : Calls Try.prog 31 #[.int .i64 0, .pointer (some ⟨B, 0, none⟩), .pointer (some ⟨C, 0, none⟩)] w fun e w' => e = .returned (.int .i64 (((x - u) + (u - x) : Nat) : Int)) ∧ Below w.heap.size w w' := by
  have c0 := h.c0
  have d0 := k.c0
  clear h k
  have f1 : IntKind.i64.wrap ((x : Int) - (u : Int)) = (x : Int) - (u : Int) := IntWalk.i64_in _ (by omega)
  have f2 : IntKind.i64.wrap ((u : Int) - (x : Int)) = (u : Int) - (x : Int) := IntWalk.i64_in _ (by omega)
  have D0 := Lib.hid (Below.refl w.heap.size w)
  have R0 : Hid (max ((x : Int) - (u : Int)) ((u : Int) - (x : Int)) = (((x - u) + (u - x) : Nat) : Int)) := Lib.hid (by omega)
  go_enter Try.func31, Try.ntmps31
  go_wp2_with fail
  go_quiet (fail)
  go_wp2_with fail
  go_ret
  exact ⟨by rw [← R0.out]; rfl, below_drewN D0.out _⟩
theorem pdist1_1 (B C : Nat) (x y u v : Nat) (hx : x < 32) (hy : y < 32) (hu : u < 32) (hv : v < 32) (w : World) (h : PairAt B (x : Int) (y : Int) w) (k : PairAt C (u : Int) (v : Int) w) : Calls Try.prog 31 #[.int .i64 1, .pointer (some ⟨B, 0, none⟩), .pointer (some ⟨C, 0, none⟩)] w fun e w' => e = .returned (.int .i64 (((y - v) + (v - y) : Nat) : Int)) ∧ Below w.heap.size w w' := by
  have c1 := h.c1
  have d1 := k.c1
  clear h k
  have f1 : IntKind.i64.wrap ((y : Int) - (v : Int)) = (y : Int) - (v : Int) := IntWalk.i64_in _ (by omega)
  have f2 : IntKind.i64.wrap ((v : Int) - (y : Int)) = (v : Int) - (y : Int) := IntWalk.i64_in _ (by omega)
  have D0 := Lib.hid (Below.refl w.heap.size w)
  have R0 : Hid (max ((y : Int) - (v : Int)) ((v : Int) - (y : Int)) = (((y - v) + (v - y) : Nat) : Int)) := Lib.hid (by omega)
  go_enter Try.func31, Try.ntmps31
  go_wp2_with fail
  go_quiet (fail)
  go_wp2_with fail
  go_ret
  exact ⟨by rw [← R0.out]; rfl, below_drewN D0.out _⟩
set_option maxHeartbeats 1000000 in
theorem pTile_any (x y : Int) (hx : I64 x) (hy : I64 y) (w : World) : Calls Try.prog 9 #[.agg #[.int .i64 x, .int .i64 y]] w (GivesN (tilA x y).1 (tilA x y).2 w) := by
  have hmf : ∀ (fn : Fn) (first cap : Array Value) (w : World), (Instr.makeFunc fn first cap).run Try.prog w = .ok (.func fn first cap) w := fun _ _ _ _ => rfl
  have cU := Lib.hid (fun w => punits_any x y w)
  have D0 := Lib.hid ((Below.refl w.heap.size w).alloc (Nat.le_refl _) (Obj.cells #[.int .i64 x, .int .i64 y] 23))
  cases h : okP x y with
  | false =>
    have HA : Hid (tilA x y = (0, 1)) := Lib.hid (by unfold tilA; rw [h]; rfl)
    rw [HA.out]
    rw [h] at cU
    clear h hx hy
    go_enter Try.func9, Try.ntmps9
    go_wp2_with fail
    refine (cU.out _).mono ?_
    rintro e w1 ⟨rfl, hb⟩
    have D1 := Lib.hid (D0.out.trans (hb.mono (by simp)))
    clear hb D0
    go_wp2_with fail
    go_ret2
    exact ⟨rfl, D1.out.alloc D1.out.size _⟩
  | true =>
    obtain ⟨x, y, rfl, rfl, h1, h2⟩ := okP_yes h
    have HA : Hid (tilA (x : Int) (y : Int) = _) := Lib.hid (tilA_ok h1 h2)
    rw [HA.out]
    rw [h] at cU
    clear h hx hy
    go_enter Try.func9, Try.ntmps9
    go_wp2_with fail
    refine (cU.out _).mono ?_
    rintro e w1 ⟨rfl, hb⟩
    have D1 := Lib.hid (D0.out.trans (hb.mono (by simp)))
    have P1 := Lib.hid (PairAt.new w1 (x : Int) (y : Int))
    have D2 := Lib.hid (D1.out.alloc D1.out.size (Obj.cells #[.int .i64 (x : Int), .int .i64 (y : Int)] 44))
    have k0 := Lib.hid (fun w' (hw : Below (w1.alloc (Obj.cells #[.int .i64 (x : Int), .int .i64 (y : Int)] 44)).heap.size (w1.alloc (Obj.cells #[.int .i64 (x : Int), .int .i64 (y : Int)] 44)) w') => ptile1_0 w1.heap.size x y h1 (by omega) w' (P1.out.bel hw))
    have k1 := Lib.hid (fun w' (hw : Below (w1.alloc (Obj.cells #[.int .i64 (x : Int), .int .i64 (y : Int)] 44)).heap.size (w1.alloc (Obj.cells #[.int .i64 (x : Int), .int .i64 (y : Int)] 44)) w') => ptile1_1 w1.heap.size x y h1 (by omega) w' (P1.out.bel hw))
    clear hb D0 D1 P1
    go_wp2_with fail
    refine (pboth1 _ _ _ _ _ (fun _ _ => rfl) k0.out k1.out).mono ?_
    rintro e w2 ⟨rfl, hb⟩
    have D3 := Lib.hid (D2.out.trans (hb.mono D2.out.size))
    clear hb D2 k0 k1
    have HB := Lib.hid (ptileAt_any (x / 180) (y / 180) (by omega) (by omega))
    have HX : Hid (((tilN x y : Nat) : Int) = ((32 * (y / 180) + x / 180 : Nat) : Int)) := Lib.hid rfl
    generalize x / 180 = X at *
    generalize y / 180 = Y at *
    go_wp2_with fail
    refine (HB.out w2).mono ?_
    rintro e w3 ⟨rfl, hb⟩
    have D4 := Lib.hid (D3.out.trans (hb.mono D3.out.size))
    clear hb D3
    go_wp2_with fail
    go_ret2
    exact ⟨by rw [HX.out]; rfl, D4.out⟩
theorem pCell_any (x y : Int) (hx : I64 x) (hy : I64 y) (w : World) : Calls Try.prog 11 #[.agg #[.int .i64 x, .int .i64 y]] w (GivesN (celA x y).1 (celA x y).2 w) := by
  have hmf : ∀ (fn : Fn) (first cap : Array Value) (w : World), (Instr.makeFunc fn first cap).run Try.prog w = .ok (.func fn first cap) w := fun _ _ _ _ => rfl
  have cU := Lib.hid (fun w => punits_any x y w)
  have D0 := Lib.hid ((Below.refl w.heap.size w).alloc (Nat.le_refl _) (Obj.cells #[.int .i64 x, .int .i64 y] 23))
  cases h : okP x y with
  | false =>
    have HA : Hid (celA x y = (0, 1)) := Lib.hid (by unfold celA; rw [h]; rfl)
    rw [HA.out]
    rw [h] at cU
    clear h hx hy
    go_enter Try.func11, Try.ntmps11
    go_wp2_with fail
    refine (cU.out _).mono ?_
    rintro e w1 ⟨rfl, hb⟩
    have D1 := Lib.hid (D0.out.trans (hb.mono (by simp)))
    clear hb D0
    go_wp2_with fail
    go_ret2
    exact ⟨rfl, D1.out.alloc D1.out.size _⟩
  | true =>
    obtain ⟨x, y, rfl, rfl, h1, h2⟩ := okP_yes h
    have HA : Hid (celA (x : Int) (y : Int) = _) := Lib.hid (celA_ok h1 h2)
    rw [HA.out]
    rw [h] at cU
    clear h hx hy
    go_enter Try.func11, Try.ntmps11
    go_wp2_with fail
    refine (cU.out _).mono ?_
    rintro e w1 ⟨rfl, hb⟩
    have D1 := Lib.hid (D0.out.trans (hb.mono (by simp)))
    have P1 := Lib.hid (PairAt.new w1 (x : Int) (y : Int))
    have D2 := Lib.hid (D1.out.alloc D1.out.size (Obj.cells #[.int .i64 (x : Int), .int .i64 (y : Int)] 44))
    have k0 := Lib.hid (fun w' (hw : Below (w1.alloc (Obj.cells #[.int .i64 (x : Int), .int .i64 (y : Int)] 44)).heap.size (w1.alloc (Obj.cells #[.int .i64 (x : Int), .int .i64 (y : Int)] 44)) w') => pcell1_0 w1.heap.size x y h1 (by omega) w' (P1.out.bel hw))
    have k1 := Lib.hid (fun w' (hw : Below (w1.alloc (Obj.cells #[.int .i64 (x : Int), .int .i64 (y : Int)] 44)).heap.size (w1.alloc (Obj.cells #[.int .i64 (x : Int), .int .i64 (y : Int)] 44)) w') => pcell1_1 w1.heap.size x y h1 (by omega) w' (P1.out.bel hw))
    clear hb D0 D1 P1
    go_wp2_with fail
    refine (pboth1 _ _ _ _ _ (fun _ _ => rfl) k0.out k1.out).mono ?_
    rintro e w2 ⟨rfl, hb⟩
    have D3 := Lib.hid (D2.out.trans (hb.mono D2.out.size))
    clear hb D2 k0 k1
    have HX : Hid (((celN x y : Nat) : Int) = 2 * ((y % 180 / 90 : Nat) : Int) + ((x % 180 / 90 : Nat) : Int)) := Lib.hid (by unfold celN; omega)
    have f1 : IntKind.i64.wrap (2 * ((y % 180 / 90 : Nat) : Int)) = 2 * ((y % 180 / 90 : Nat) : Int) := IntWalk.i64_in _ (by omega)
    have f2 : IntKind.i64.wrap (2 * ((y % 180 / 90 : Nat) : Int) + ((x % 180 / 90 : Nat) : Int)) = 2 * ((y % 180 / 90 : Nat) : Int) + ((x % 180 / 90 : Nat) : Int) := IntWalk.i64_in _ (by omega)
    generalize x % 180 / 90 = X at *
    generalize y % 180 / 90 = Y at *
    go_wp2_with fail
    go_ret2
    exact ⟨by rw [HX.out]; rfl, D3.out.alloc D3.out.size _⟩
theorem pCentre_any (t : Int) (ht : I64 t) (w : World) : Calls Try.prog 13 #[.int .i64 t] w (GivesP (cenA t).1 (cenA t).2.1 (cenA t).2.2 w) := by
  have hmf : ∀ (fn : Fn) (first cap : Array Value) (w : World), (Instr.makeFunc fn first cap).run Try.prog w = .ok (.func fn first cap) w := fun _ _ _ _ => rfl
  have P0 := Lib.hid (PosAt.new w 0 0)
  have D0 := Lib.hid ((Below.refl w.heap.size w).alloc (Nat.le_refl _) (Obj.cells #[.int .i64 0, .int .i64 0] 23))
  cases h : isT t with
  | false =>
    have HA : Hid (cenA t = (0, 0, 1)) := Lib.hid (by unfold cenA; rw [h]; rfl)
    rw [HA.out]
    have cU := Lib.hid (fun w => pplace_no t h w)
    clear h ht
    go_enter Try.func13, Try.ntmps13
    go_wp2_with fail
    refine (cU.out _).mono ?_
    rintro e w1 ⟨rfl, hb⟩
    have D1 := Lib.hid ((D0.out.trans (hb.mono (by simp))).alloc (by have := hb.size; simp at this; omega) (Obj.cells #[.int .i64 0, .int .i64 0] 44))
    have P1 := Lib.hid ((P0.out.bel hb).bel ((Below.refl _ _).alloc (Nat.le_refl _) (Obj.cells #[.int .i64 0, .int .i64 0] 44)))
    have c0 := P1.out.c0
    have c1 := P1.out.c1
    have f0 := P1.out.fz 0
    have f1 := P1.out.fz 1
    clear hb D0 P0
    go_wp2_with fail
    refine bodyPost_ret (results_pos rfl _ _ w.heap.size _ _ _ rfl rfl (P1.out.set _ _)) rfl ?_
    exact ⟨rfl, PosAt.below D1.out (Nat.le_refl _) _ _⟩
  | true =>
    obtain ⟨k, rfl, hk⟩ := isT_yes h
    have HA : Hid (cenA (k : Int) = _) := Lib.hid (cenA_ok hk)
    rw [HA.out]
    have cU := Lib.hid (fun w => pplace_ok k hk w)
    obtain ⟨c, hc⟩ : ∃ c, c = k % 32 := ⟨_, rfl⟩
    obtain ⟨b, hb⟩ : ∃ b, b = k / 32 := ⟨_, rfl⟩
    have hc32 : c < 5760 := by omega
    have hb16 : b < 5760 := by omega
    rw [← hc, ← hb] at cU ⊢
    clear h ht hc hb
    go_enter Try.func13, Try.ntmps13
    go_wp2_with fail
    refine (cU.out _).mono ?_
    rintro e w1 ⟨rfl, hb⟩
    have D2 := Lib.hid ((D0.out.trans (hb.mono (by simp))).alloc (by have := hb.size; simp at this; omega) (Obj.cells #[.int .i64 (c : Int), .int .i64 (b : Int)] 44))
    have Q2 := Lib.hid ((P0.out.bel hb).bel ((Below.refl _ _).alloc (Nat.le_refl _) (Obj.cells #[.int .i64 (c : Int), .int .i64 (b : Int)] 44)))
    have P1 := Lib.hid (PairAt.new w1 (c : Int) (b : Int))
    have k0 := Lib.hid (fun w' (hw : Below (w1.alloc (Obj.cells #[.int .i64 (c : Int), .int .i64 (b : Int)] 44)).heap.size (w1.alloc (Obj.cells #[.int .i64 (c : Int), .int .i64 (b : Int)] 44)) w') => pcentre1_0 w1.heap.size c b hc32 hb16 w' (P1.out.bel hw))
    have k1 := Lib.hid (fun w' (hw : Below (w1.alloc (Obj.cells #[.int .i64 (c : Int), .int .i64 (b : Int)] 44)).heap.size (w1.alloc (Obj.cells #[.int .i64 (c : Int), .int .i64 (b : Int)] 44)) w') => pcentre1_1 w1.heap.size c b hc32 hb16 w' (P1.out.bel hw))
    clear hb D0 P1 P0
    go_wp2_with fail
    refine (pboth1 _ _ _ _ _ (fun _ _ => rfl) k0.out k1.out).mono ?_
    rintro e w2 ⟨rfl, hb⟩
    have D3 := Lib.hid ((D2.out.trans (hb.mono D2.out.size)).alloc (Nat.le_trans D2.out.size hb.size) (Obj.cells #[.int .i64 ((c * 180 + 90 : Nat) : Int), .int .i64 ((b * 180 + 90 : Nat) : Int)] 44))
    have Q3 := Lib.hid ((Q2.out.bel hb).bel ((Below.refl _ _).alloc (Nat.le_refl _) (Obj.cells #[.int .i64 ((c * 180 + 90 : Nat) : Int), .int .i64 ((b * 180 + 90 : Nat) : Int)] 44)))
    clear hb D2 k0 k1 Q2
    generalize c * 180 + 90 = X at *
    generalize b * 180 + 90 = Y at *
    have c0 := Q3.out.c0
    have c1 := Q3.out.c1
    have f0 := Q3.out.fz 0
    have f1 := Q3.out.fz 1
    go_wp2_with fail
    refine bodyPost_ret (results_pos rfl _ _ w.heap.size _ _ _ rfl rfl (Q3.out.set _ _)) rfl ?_
    exact ⟨rfl, PosAt.below D3.out (Nat.le_refl _) _ _⟩
end Go.Proofs.Ytaebejhncjadhaa.Sk
