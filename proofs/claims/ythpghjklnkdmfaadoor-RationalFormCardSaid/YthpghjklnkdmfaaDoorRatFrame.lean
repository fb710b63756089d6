/-
  A rational number as an argument of a card: opened, and read again in a later world.
-/
import Derived.Test.YthpghjklnkdmfaaDoorRatP
import Derived.Lib.SmallJoins
set_option maxRecDepth 100000
namespace Go.Proofs.YthpghjklnkdmfaaDoor
open Go.ChangeShapes Go.WideShapes Go.RowKit Go.Deep Go.Joins
open Rt
theorem open_rat {H : Type} {enc : TypeId × Value → H} {W : World} {r : Reach} {b0 base : Nat} {spare : Nat → Bool} {held : Bool} {v : Value} {d : DataW H} {p : List MemPlace}
    (hv : Value.okWide Tryd.prog W r b0 24 v) (h : DataW.Trod enc Tryd.prog W base spare held 24 v d p) :
    ∃ a : Raw, v = .agg #[.bool a.neg, .string a.num, .string a.den] ∧ p = [] ∧ (a.num.size ≤ maxLen ∧ a.den.size ≤ maxLen) ∧
      ∀ (W' : World) (sp : Nat → Bool), DataW.Trod enc Tryd.prog W' base sp held 24 (.agg #[.bool a.neg, .string a.num, .string a.den]) d [] := by
  obtain ⟨v0, v1, v2, y0, y1, y2, n, rfl, rfl, rfl, h0, h1, h2⟩ := open_agg3 Tryd.underlying24 (by kernel_rfl) (by kernel_rfl) hv h
  obtain ⟨b, e0, rfl⟩ := DataW.trod_bool Tryd.underlying4 h0
  obtain ⟨s, e1, rfl, hs⟩ := DataW.trod_string Tryd.underlying22 h1
  obtain ⟨t, e2, rfl, ht⟩ := DataW.trod_string Tryd.underlying22 h2
  simp only [List.cons.injEq, and_true] at e0 e1 e2
  subst e0 e1 e2
  refine ⟨⟨b, s, t⟩, rfl, rfl, ⟨hs, ht⟩, fun W' sp => ?_⟩
  exact shut_agg3 Tryd.underlying24 (by kernel_rfl) (by kernel_rfl)
    ⟨1, by simp [DataW.trod, Tryd.underlying4]⟩ ⟨1, by simp [DataW.trod, Tryd.underlying22, hs]⟩ ⟨1, by simp [DataW.trod, Tryd.underlying22, ht]⟩
end Go.Proofs.YthpghjklnkdmfaaDoor
