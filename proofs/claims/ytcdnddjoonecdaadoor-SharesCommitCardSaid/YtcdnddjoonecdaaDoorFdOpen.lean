/-
  Lists of numbers, lists of points, and a point, as arguments: opened (layer 6).
-/
import Derived.Test.YtcdnddjoonecdaaDoorFdD
import Derived.OpenShut
import Derived.Lib.SmallJoins
import Derived.Deep.Slices
import Derived.Carry
set_option linter.unusedVariables false
set_option maxRecDepth 100000
namespace Go.Proofs.YtcdnddjoonecdaaDoor
open Go.ChangeShapes Go.WideShapes Go.RowKit Go.Deep Go.Joins
section
variable {H : Type} {enc : TypeId × Value → H} {W : World} {base : Nat} {spare : Nat → Bool} {held : Bool}
theorem read_pt {n : Nat} {cs : List Value} {y : DataW H × List MemPlace} (h : DataW.trod enc Tryd.prog W base spare held n 66 cs = some y) :
    ∃ u v : Int, cs = [.int .i64 u, .int .i64 v] ∧ y.2 = [] ∧ (-9223372036854775808 ≤ u ∧ u ≤ 9223372036854775807) ∧ (-9223372036854775808 ≤ v ∧ v ≤ 9223372036854775807) := by
  obtain ⟨xs, m, rfl, rfl, hl, hx, he⟩ := DataW.trod_array Tryd.underlying66 h
  rw [show Tryd.prog.cellsOf 66 = 2 by kernel_rfl] at hl
  have k1 : Tryd.prog.cellsOf 3 = 1 := by kernel_rfl
  match cs, hl, xs, hx with
  | [c0, c1], _, [x0, x1], _ =>
    have h0 := he 0 (by decide)
    have h1 := he 1 (by decide)
    simp only [k1, Nat.zero_mul, Nat.one_mul, List.drop_zero, List.drop_succ_cons, List.take_succ_cons, List.take_zero, List.getElem?_cons_zero, List.getElem?_cons_succ] at h0 h1
    obtain ⟨u, e0, z0, w0⟩ := DataW.trod_int Tryd.underlying3 h0
    obtain ⟨v, e1, z1, w1⟩ := DataW.trod_int Tryd.underlying3 h1
    simp only [List.cons.injEq, and_true] at e0 e1
    subst e0 e1 z0 z1
    exact ⟨u, v, rfl, by simp, by simpa [Lit.wf, IntKind.min, IntKind.max, IntKind.signed, IntKind.bits] using w0, by simpa [Lit.wf, IntKind.min, IntKind.max, IntKind.signed, IntKind.bits] using w1⟩
theorem open_pt {r : Reach} {b0 : Nat} {v : Value} {d : DataW H} {p : List MemPlace} (hv : Value.okWide Tryd.prog W r b0 66 v) (h : DataW.Trod enc Tryd.prog W base spare held 66 v d p) :
    ∃ a b : Int, v = .agg #[.int .i64 a, .int .i64 b] ∧ p = [] ∧ (-9223372036854775808 ≤ a ∧ a ≤ 9223372036854775807) ∧ (-9223372036854775808 ≤ b ∧ b ≤ 9223372036854775807) := by
  have hu := Tryd.underlying66
  simp only [Value.okWide, hu] at hv
  obtain ⟨cs, rfl, _⟩ := hv
  obtain ⟨fuel, hf⟩ := h
  obtain ⟨a, b, e, hp, ha, hb⟩ := read_pt hf
  refine ⟨a, b, ?_, hp, ha, hb⟩
  simp only [Value.cells] at e
  congr 1
  exact Array.toList_inj.1 e
end
theorem open_ints6 {H : Type} {enc : TypeId × Value → H} {W : World} {r : Reach} {b0 : Nat} {v : Value} {d : DataW H} {p : List MemPlace} {spare : Nat → Bool} {held : Bool} {base : Nat}
    (hv : Value.okWide Tryd.prog W r b0 22 v) (h : DataW.Trod enc Tryd.prog W base spare held 22 v d p) : ∃ l : List Int, IntsOk W v l := by
  obtain ⟨a, len, cap, rfl⟩ := okWide_slice Tryd.underlying22 hv
  obtain ⟨fuel, hf⟩ := h
  rcases open_ints Tryd.underlying22 Tryd.underlying3 (by kernel_rfl) hf with ⟨hcs, _⟩ | ⟨x, len', cap', zs, hcs, _, hl, hm, hz, _, hx, _⟩
  · simp [Value.cells] at hcs
    obtain ⟨rfl, rfl, rfl⟩ := hcs
    exact ⟨[], none, 0, rfl, Nat.le_refl _, by unfold maxLen; omega, fun _ => rfl, ints_nil W⟩
  · simp [Value.cells] at hcs
    obtain ⟨rfl, rfl, rfl⟩ := hcs
    have hlz : len ≤ zs.length := by rw [hz]; split <;> omega
    have hlen : (zs.take len).length = len := by simp; omega
    refine ⟨zs.take len, some x, cap, by rw [hlen], by rw [hlen]; exact hl, hm, (fun e => by cases e), rfl, fun h0 => ?_⟩
    rw [hlen] at h0
    obtain ⟨b, off, spot⟩ := x
    have hc0 := hx 0 (by omega)
    have hspot : spot = none := by
      have e : Addr.add ⟨b, off, spot⟩ 0 = ⟨b, off, spot⟩ := by simp [Addr.add]
      rw [e] at hc0
      simpa using World.cell?_spot (v := .int .i64 (zs.getD 0 0)) hc0
    subst hspot
    refine ⟨b, off, rfl, fun j hj => ?_⟩
    have hj' : j < zs.length := by rw [hlen] at hj; omega
    have hc := hx j hj'
    rw [add_none] at hc
    rw [hc]
    simp [List.getElem_take, List.getD, hj']
theorem open_pts6 {H : Type} {enc : TypeId × Value → H} {W : World} {r : Reach} {b0 : Nat} {v : Value} {d : DataW H} {p : List MemPlace} {spare : Nat → Bool} {held : Bool} {base : Nat}
    (hv : Value.okWide Tryd.prog W r b0 63 v) (h : DataW.Trod enc Tryd.prog W base spare held 63 v d p) : ∃ l : List (Int × Int), PtsOk W v l := by
  obtain ⟨a, len, cap, rfl⟩ := okWide_slice Tryd.underlying63 hv
  obtain ⟨fuel, hf⟩ := h
  have k2 : Tryd.prog.cellsOf 66 = 2 := by kernel_rfl
  rcases open_slice Tryd.underlying63 hf with ⟨hcs, _⟩ | ⟨x, len', cap', m, n, D, Pl, hcs, _, hl, hm, hmm, _, hx⟩
  · simp [Value.cells] at hcs
    obtain ⟨rfl, rfl, rfl⟩ := hcs
    exact ⟨[], none, 0, rfl, Nat.le_refl _, by unfold maxLen; omega, fun _ => rfl, pts_nil W⟩
  · simp [Value.cells] at hcs
    obtain ⟨rfl, rfl, rfl⟩ := hcs
    have hlm : len ≤ m := by rw [hmm]; split <;> omega
    obtain ⟨V, hV⟩ := choose_lt (α := Int × Int) (n := len) (p := fun i a => W.cells? base (x.add (i * 2)) 2 = some [.int .i64 a.1, .int .i64 a.2]) (fun i hi => by
      obtain ⟨cs', h1, h2⟩ := hx i (by omega)
      rw [k2] at h1
      obtain ⟨u, v, rfl, _⟩ := read_pt h2
      exact ⟨(u, v), h1⟩)
    have hlen : ((List.range len).map V).length = len := by simp
    refine ⟨(List.range len).map V, some x, cap, by rw [hlen], by rw [hlen]; exact hl, hm, (fun e => by cases e), rfl, fun h0 => ?_⟩
    rw [hlen] at h0
    obtain ⟨b, off, spot⟩ := x
    have hc0 := (World.cells?_some (hV 0 h0)).2.2 0 (by decide)
    have hspot : spot = none := by
      have e : (Addr.add ⟨b, off, spot⟩ (0 * 2)).add 0 = ⟨b, off, spot⟩ := by simp [Addr.add]
      rw [e] at hc0
      simpa using World.cell?_spot (v := .int .i64 (V 0).1) hc0
    subst hspot
    refine ⟨b, off, rfl, fun j hj => ?_⟩
    have hj' : j < len := by rwa [hlen] at hj
    have h1 := (World.cells?_some (hV j hj')).2.2 0 (by decide)
    have h2 := (World.cells?_some (hV j hj')).2.2 1 (by decide)
    rw [add_none, add_none] at h1 h2
    simp only [List.getElem_map, List.getElem_range]
    exact ⟨h1, h2⟩
end Go.Proofs.YtcdnddjoonecdaaDoor
