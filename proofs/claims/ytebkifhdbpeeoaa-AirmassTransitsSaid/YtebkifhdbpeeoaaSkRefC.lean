/-
  The document's own answers of layer 10: near tiles; are two lists equal?
-/
import Derived.Test.YtebkifhdbpeeoaaSkRefB
set_option linter.unusedVariables false
set_option maxRecDepth 100000
namespace Go.Proofs.Ytebkifhdbpeeoaa.Sk
open Go.RowKit
theorem below_drewN {w w' : World} {B : Nat} (h : Below B w w') (k : Nat) : Below B w (w'.drewN k) := ⟨h.os, h.tape, h.output, by simpa using h.size, fun j hj => by simpa using h.block j hj⟩
theorem take_more {l m : List Int} {k : Nat} (h : l.take k = m.take k) (h1 : k < l.length) (h2 : k < m.length) (he : l[k] = m[k]) : l.take (k + 1) = m.take (k + 1) := by
  rw [List.take_succ_eq_append_getElem h1, List.take_succ_eq_append_getElem h2, h, he]
theorem take_not {l m : List Int} {k : Nat} (h1 : k < l.length) (h2 : k < m.length) (he : l[k] ≠ m[k]) : l ≠ m := by
  intro e; subst e; exact he rfl
end Go.Proofs.Ytebkifhdbpeeoaa.Sk
