/-
  The document's own answers of layer 10: centres, distances.
-/
import Derived.Test.YtebkifhdbpeeoaaSkRefA
set_option linter.unusedVariables false
set_option maxRecDepth 100000
namespace Go.Proofs.Ytebkifhdbpeeoaa.Sk
open Go.RowKit
theorem results_pos {fn : Func} {p q : Tmp} (h : fn.results = #[.cell p 43, .tmp q]) (tmps : Array Value) (w : World) (g : Nat) (x y e : Int)
    (hp : tmps.getD p undef = .pointer (some ⟨g, 0, none⟩)) (hq : tmps.getD q undef = .int .i64 e) (hg : PosAt g x y w) :
    (results fn tmps).run Try.prog w = .ok (.tuple #[.agg #[.int .i64 x, .int .i64 y], .int .i64 e]) w := by
  have hp' : tmps[p]?.getD undef = .pointer (some ⟨g, 0, none⟩) := by simpa using hp
  have hq' : tmps[q]?.getD undef = .int .i64 e := by simpa using hq
  have k0 := hg.c0
  have k1 := hg.c1
  simp [results, h, hp', hq', asAddr, loadVar, go_sem, k0, k1]
end Go.Proofs.Ytebkifhdbpeeoaa.Sk
