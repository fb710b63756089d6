/-
  The program's sky (layer 10): tiles, cells, centres, distances.
-/
import Derived.Test.YtebkifhdbpeeoaaSkPA
set_option linter.unusedVariables false
set_option maxRecDepth 100000
namespace Go.Proofs.Ytebkifhdbpeeoaa.Sk
open Go.RowKit
theorem pcentre1_0 (B : Nat) (x y : Nat) (hx : x < 5760) (hy : y < 5760) (w : World) (h : PairAt B (x : Int) (y : Int) w) : Calls Try.prog 41 #[.int .i64 0, .pointer (some ⟨B, 0, none⟩)] w fun e w' => e = .returned (.int .i64 ((x * 180 + 90 : Nat) : Int)) ∧ Below w.heap.size w w' := by
  have c0 := h.c0
  clear h
  have f1 : IntKind.i64.wrap ((x : Int) * 180) = (x : Int) * 180 := IntWalk.i64_in _ (by omega)
  have f2 : IntKind.i64.wrap ((x : Int) * 180 + 90) = (x : Int) * 180 + 90 := IntWalk.i64_in _ (by omega)
  go_enter Try.func41, Try.ntmps41
  go_wp2_with fail
  go_ret
  exact ⟨by push_cast; rfl, Below.refl _ _⟩
theorem pcentre1_1 (B : Nat) (x y : Nat) (hx : x < 5760) (hy : y < 5760) (w : World) (h : PairAt B (x : Int) (y : Int) w) : Calls Try.prog 41 #[.int .i64 1, .pointer (some ⟨B, 0, none⟩)] w fun e w' => e = .returned (.int .i64 ((y * 180 + 90 : Nat) : Int)) ∧ Below w.heap.size w w' := by
  have c1 := h.c1
  clear h
  have f1 : IntKind.i64.wrap ((y : Int) * 180) = (y : Int) * 180 := IntWalk.i64_in _ (by omega)
  have f2 : IntKind.i64.wrap ((y : Int) * 180 + 90) = (y : Int) * 180 + 90 := IntWalk.i64_in _ (by omega)
  go_enter Try.func41, Try.ntmps41
  go_wp2_with fail
  go_ret
  exact ⟨by push_cast; rfl, Below.refl _ _⟩
theorem pCentre_any (t : Int) (ht : I64 t) (w : World) : Calls Try.prog 26 #[.int .i64 t] w (GivesP (cenA t).1 (cenA t).2.1 (cenA t).2.2 w) := by
  have hmf : ∀ (fn : Fn) (first cap : Array Value) (w : World), (Instr.makeFunc fn first cap).run Try.prog w = .ok (.func fn first cap) w := fun _ _ _ _ => rfl
  have P0 := Lib.hid (PosAt.new w 0 0)
  have D0 := Lib.hid ((Below.refl w.heap.size w).alloc (Nat.le_refl _) (Obj.cells #[.int .i64 0, .int .i64 0] 43))
  cases h : isT t with
  | false =>
    have HA : Hid (cenA t = (0, 0, 1)) := Lib.hid (by unfold cenA; rw [h]; rfl)
    rw [HA.out]
    have cU := Lib.hid (fun w => pplace_no t h w)
    clear h ht
    go_enter Try.func26, Try.ntmps26
    go_wp2_with fail
    refine (cU.out _).mono ?_
    rintro e w1 ⟨rfl, hb⟩
    have D1 := Lib.hid ((D0.out.trans (hb.mono (by simp))).alloc (by have := hb.size; simp at this; omega) (Obj.cells #[.int .i64 0, .int .i64 0] 55))
    have P1 := Lib.hid ((P0.out.bel hb).bel ((Below.refl _ _).alloc (Nat.le_refl _) (Obj.cells #[.int .i64 0, .int .i64 0] 55)))
    have c0 := P1.out.c0
    have c1 := P1.out.c1
    have f0 := P1.out.fz 0
    have f1 := P1.out.fz 1
    clear hb D0 P0
    go_wp2_with fail
    refine bodyPost_ret (results_pos rfl _ _ w.heap.size _ _ _ rfl rfl (P1.out.set _ _)) rfl ?_
    exact ⟨rfl, PosAt.below D1.out (Nat.le_refl _) _ _⟩
  | true =>
    obtain ⟨k, rfl, hk⟩ := isT_yes h
    have HA : Hid (cenA (k : Int) = _) := Lib.hid (cenA_ok hk)
    rw [HA.out]
    have cU := Lib.hid (fun w => pplace_ok k hk w)
    obtain ⟨c, hc⟩ : ∃ c, c = k % 32 := ⟨_, rfl⟩
    obtain ⟨b, hb⟩ : ∃ b, b = k / 32 := ⟨_, rfl⟩
    have hc32 : c < 5760 := by omega
    have hb16 : b < 5760 := by omega
    rw [← hc, ← hb] at cU ⊢
    clear h ht hc hb
    go_enter Try.func26, Try.ntmps26
    go_wp2_with fail
    refine (cU.out _).mono ?_
    rintro e w1 ⟨rfl, hb⟩
    have D2 := Lib.hid ((D0.out.trans (hb.mono (by simp))).alloc (by have := hb.size; simp at this; omega) (Obj.cells #[.int .i64 (c : Int), .int .i64 (b : Int)] 55))
    have Q2 := Lib.hid ((P0.out.bel hb).bel ((Below.refl _ _).alloc (Nat.le_refl _) (Obj.cells #[.int .i64 (c : Int), .int .i64 (b : Int)] 55)))
    have P1 := Lib.hid (PairAt.new w1 (c : Int) (b : Int))
    have k0 := Lib.hid (fun w' (hw : Below (w1.alloc (Obj.cells #[.int .i64 (c : Int), .int .i64 (b : Int)] 55)).heap.size (w1.alloc (Obj.cells #[.int .i64 (c : Int), .int .i64 (b : Int)] 55)) w') => pcentre1_0 w1.heap.size c b hc32 hb16 w' (P1.out.bel hw))
    have k1 := Lib.hid (fun w' (hw : Below (w1.alloc (Obj.cells #[.int .i64 (c : Int), .int .i64 (b : Int)] 55)).heap.size (w1.alloc (Obj.cells #[.int .i64 (c : Int), .int .i64 (b : Int)] 55)) w') => pcentre1_1 w1.heap.size c b hc32 hb16 w' (P1.out.bel hw))
    clear hb D0 P1 P0
    go_wp2_with fail
    refine (pboth1 _ _ _ _ _ (fun _ _ => rfl) k0.out k1.out).mono ?_
    rintro e w2 ⟨rfl, hb⟩
    have D3 := Lib.hid ((D2.out.trans (hb.mono D2.out.size)).alloc (Nat.le_trans D2.out.size hb.size) (Obj.cells #[.int .i64 ((c * 180 + 90 : Nat) : Int), .int .i64 ((b * 180 + 90 : Nat) : Int)] 55))
    have Q3 := Lib.hid ((Q2.out.bel hb).bel ((Below.refl _ _).alloc (Nat.le_refl _) (Obj.cells #[.int .i64 ((c * 180 + 90 : Nat) : Int), .int .i64 ((b * 180 + 90 : Nat) : Int)] 55)))
    clear hb D2 k0 k1 Q2
    generalize c * 180 + 90 = X at *
    generalize b * 180 + 90 = Y at *
    have c0 := Q3.out.c0
    have c1 := Q3.out.c1
    have f0 := Q3.out.fz 0
    have f1 := Q3.out.fz 1
    go_wp2_with fail
    refine bodyPost_ret (results_pos rfl _ _ w.heap.size _ _ _ rfl rfl (Q3.out.set _ _)) rfl ?_
    exact ⟨rfl, PosAt.below D3.out (Nat.le_refl _) _ _⟩
end Go.Proofs.Ytebkifhdbpeeoaa.Sk
