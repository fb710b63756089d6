/-
  A valid position of two numbers (the laws of layer 10).
-/
import Derived.Test.YtaebejhncjadhaaSkHead
set_option linter.unusedVariables false
set_option maxRecDepth 100000
namespace Go.Proofs.Ytaebejhncjadhaa.Sk
open Go.RowKit
theorem results_pos1 {fn : Func} {p : Tmp} (h : fn.results = #[.cell p 23]) (tmps : Array Value) (w : World) (g : Nat) (x y : Int)
    (hp : tmps.getD p undef = .pointer (some ⟨g, 0, none⟩)) (hg : PosAt g x y w) :
    (results fn tmps).run Try.prog w = .ok (.agg #[.int .i64 x, .int .i64 y]) w := by
  have hp' : tmps[p]?.getD undef = .pointer (some ⟨g, 0, none⟩) := by simpa using hp
  have k0 := hg.c0
  have k1 := hg.c1
  simp [results, h, hp', asAddr, loadVar, go_sem, k0, k1]
theorem place_any (x y : Nat) (hx : x ≤ 65535) (hy : y ≤ 65535) (w : World) : Calls Try.prog 20 #[.int .u16 (x : Int), .int .u16 (y : Int)] w fun e w' => e = .returned (.agg #[.int .i64 ((x % 5760 : Nat) : Int), .int .i64 ((y % 2880 : Nat) : Int)]) ∧ Below w.heap.size w w' := by
  have g1 : IntKind.i64.wrap (x : Int) = (x : Int) := IntWalk.i64_in _ (by omega)
  have g2 : IntKind.i64.wrap (y : Int) = (y : Int) := IntWalk.i64_in _ (by omega)
  have e1 : Int.tmod (x : Int) 5760 = ((x % 5760 : Nat) : Int) := by rw [Int.tmod_eq_emod_of_nonneg (by omega)]; omega
  have e2 : Int.tmod (y : Int) 2880 = ((y % 2880 : Nat) : Int) := by rw [Int.tmod_eq_emod_of_nonneg (by omega)]; omega
  have e3 : (x : Int) % 5760 = ((x % 5760 : Nat) : Int) := by omega
  have e4 : (y : Int) % 2880 = ((y % 2880 : Nat) : Int) := by omega
  generalize x % 5760 = X at e1 e3 ⊢
  generalize y % 2880 = Y at e2 e4 ⊢
  go_enter Try.func20, Try.ntmps20
  go_wp2_with fail
  refine bodyPost_ret (results_pos1 rfl _ _ w.heap.size _ _ rfl (PosAt.new w _ _)) rfl ?_
  exact ⟨rfl, (Below.refl _ _).alloc (Nat.le_refl _) _⟩
end Go.Proofs.Ytaebejhncjadhaa.Sk
