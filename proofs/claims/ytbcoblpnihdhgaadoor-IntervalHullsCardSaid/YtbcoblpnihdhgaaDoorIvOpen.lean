/-
  An interval, and a list of intervals, as arguments of a card: opened.
-/
import Derived.Test.YtbcoblpnihdhgaaDoorIvPure
import Derived.Test.YtbcoblpnihdhgaaDoorRmF
import Derived.Lib.SmallJoins
import Derived.Deep.Slices
import Derived.Carry
set_option linter.unusedVariables false
set_option maxRecDepth 100000
namespace Go.Proofs.YtbcoblpnihdhgaaDoor
open Go.ChangeShapes Go.WideShapes Go.RowKit Go.Deep Go.Joins
open Rt
/-- the sizes that a text that came in can have -/
abbrev BigR (r : Raw) : Prop := r.num.size ≤ maxLen ∧ r.den.size ≤ maxLen
abbrev BigI (i : Iv) : Prop := BigR i.low ∧ BigR i.high
def ivCells (i : Iv) : List Value := [.bool i.low.neg, .string i.low.num, .string i.low.den, .bool i.high.neg, .string i.high.num, .string i.high.den]
section
variable {H : Type} {enc : TypeId × Value → H} {W : World} {base : Nat} {spare : Nat → Bool} {held : Bool}
theorem read_rat {n : Nat} {cs : List Value} {y : DataW H × List MemPlace} (h : DataW.trod enc Tryd.prog W base spare held n 24 cs = some y) :
    ∃ r : Raw, cs = [.bool r.neg, .string r.num, .string r.den] ∧ y.2 = [] ∧ BigR r := by
  obtain ⟨y0, y1, y2, m, rfl, hl, h0, h1, h2⟩ := trod_struct3 Tryd.underlying24 h
  rw [show Tryd.prog.cellsOf 24 = 3 by kernel_rfl] at hl
  match cs, hl with
  | [c0, c1, c2], _ =>
    have k4 : Tryd.prog.cellsOf 4 = 1 := by kernel_rfl
    have k22 : Tryd.prog.cellsOf 22 = 1 := by kernel_rfl
    simp only [k4, k22, List.drop_zero, List.drop_succ_cons, List.take_succ_cons, List.take_zero] at h0 h1 h2
    obtain ⟨b, e0, rfl⟩ := DataW.trod_bool Tryd.underlying4 h0
    obtain ⟨s, e1, rfl, hs⟩ := DataW.trod_string Tryd.underlying22 h1
    obtain ⟨t, e2, rfl, ht⟩ := DataW.trod_string Tryd.underlying22 h2
    simp only [List.cons.injEq, and_true] at e0 e1 e2
    subst e0 e1 e2
    exact ⟨⟨b, s, t⟩, rfl, rfl, hs, ht⟩
theorem read_iv {n : Nat} {cs : List Value} {y : DataW H × List MemPlace} (h : DataW.trod enc Tryd.prog W base spare held n 26 cs = some y) :
    ∃ i : Iv, cs = ivCells i ∧ y.2 = [] ∧ BigI i := by
  obtain ⟨y0, y1, m, rfl, hl, h0, h1⟩ := trod_struct2 Tryd.underlying26 h
  rw [show Tryd.prog.cellsOf 26 = 6 by kernel_rfl] at hl
  match cs, hl with
  | [c0, c1, c2, c3, c4, c5], _ =>
    have k : Tryd.prog.cellsOf 24 = 3 := by kernel_rfl
    simp only [k, List.drop_zero, List.drop_succ_cons, List.take_succ_cons, List.take_zero] at h0 h1
    obtain ⟨a, ea, pa, za⟩ := read_rat h0
    obtain ⟨b, eb, pb, zb⟩ := read_rat h1
    simp only [List.cons.injEq, and_true] at ea eb
    obtain ⟨rfl, rfl, rfl⟩ := ea
    obtain ⟨rfl, rfl, rfl⟩ := eb
    exact ⟨⟨a, b⟩, rfl, by simp [pa, pb], za, zb⟩
theorem open_rat5 {r : Reach} {b0 : Nat} {v : Value} {d : DataW H} {p : List MemPlace} (hv : Value.okWide Tryd.prog W r b0 24 v) (h : DataW.Trod enc Tryd.prog W base spare held 24 v d p) :
    ∃ a : Raw, v = .agg #[.bool a.neg, .string a.num, .string a.den] ∧ p = [] ∧ BigR a := by
  obtain ⟨cs, rfl, _⟩ := okWide_struct Tryd.underlying24 hv
  obtain ⟨fuel, hf⟩ := h
  obtain ⟨a, e, hp, hz⟩ := read_rat hf
  refine ⟨a, ?_, hp, hz⟩
  simp only [Value.cells] at e
  congr 1
  exact Array.toList_inj.1 e
theorem open_iv {r : Reach} {b0 : Nat} {v : Value} {d : DataW H} {p : List MemPlace} (hv : Value.okWide Tryd.prog W r b0 26 v) (h : DataW.Trod enc Tryd.prog W base spare held 26 v d p) :
    ∃ a : Iv, v = .agg #[.bool a.low.neg, .string a.low.num, .string a.low.den, .bool a.high.neg, .string a.high.num, .string a.high.den] ∧ p = [] ∧ BigI a := by
  obtain ⟨cs, rfl, _⟩ := okWide_struct Tryd.underlying26 hv
  obtain ⟨fuel, hf⟩ := h
  obtain ⟨a, e, hp, hz⟩ := read_iv hf
  refine ⟨a, ?_, hp, hz⟩
  simp only [Value.cells] at e
  congr 1
  exact Array.toList_inj.1 e
end
/-- the intervals of a list, one after the other -/
def IvsIn (w : World) (b off : Nat) (l : List Iv) : Prop := ∀ j (hj : j < l.length) k (hk : k < 6), w.cell? ⟨b, off + j * 6 + k, none⟩ = some ((ivCells l[j])[k]'hk)
/-- a list of intervals as an argument -/
structure IvsOk (w : World) (v : Value) (l : List Iv) : Prop where
  form : (l = [] ∧ ∃ a cap, v = .slice a 0 cap) ∨ (0 < l.length ∧ ∃ b off cap, v = .slice (some ⟨b, off, none⟩) l.length cap ∧ l.length ≤ cap ∧ cap ≤ maxLen ∧ IvsIn w b off l)
  len : l.length ≤ maxLen
  big : ∀ i ∈ l, BigI i
theorem IvsIn.bel {w w' : World} {b off : Nat} {l : List Iv} (h : IvsIn w b off l) (hb : Below w.heap.size w w') : IvsIn w' b off l := by
  intro j hj k hk
  have h0 := h j hj k hk
  exact (hb.cell (p := ⟨b, off + j * 6 + k, none⟩) (cell_lt h0)).trans h0
theorem IvsOk.bel {w w' : World} {v : Value} {l : List Iv} (h : IvsOk w v l) (hb : Below w.heap.size w w') : IvsOk w' v l :=
  ⟨h.form.imp id (fun ⟨h0, b, off, cap, e, h1, h2, hc⟩ => ⟨h0, b, off, cap, e, h1, h2, hc.bel hb⟩), h.len, h.big⟩
instance : Inhabited Iv := ⟨noI⟩
theorem open_ivs {H : Type} {enc : TypeId × Value → H} {W : World} {r : Reach} {b0 : Nat} {v : Value} {d : DataW H} {p : List MemPlace} {spare : Nat → Bool} {held : Bool} {base : Nat}
    (hv : Value.okWide Tryd.prog W r b0 29 v) (h : DataW.Trod enc Tryd.prog W base spare held 29 v d p) : ∃ l : List Iv, IvsOk W v l := by
  obtain ⟨a, len, cap, rfl⟩ := okWide_slice Tryd.underlying29 hv
  obtain ⟨fuel, hf⟩ := h
  have k6 : Tryd.prog.cellsOf 26 = 6 := by kernel_rfl
  rcases open_slice Tryd.underlying29 hf with ⟨hcs, _⟩ | ⟨x, len', cap', m, n, D, Pl, hcs, _, hl, hm, hmm, _, hx⟩
  · simp [Value.cells] at hcs
    obtain ⟨rfl, rfl, rfl⟩ := hcs
    exact ⟨[], .inl ⟨rfl, _, _, rfl⟩, by simp, by intro i hi; cases hi⟩
  · simp [Value.cells] at hcs
    obtain ⟨rfl, rfl, rfl⟩ := hcs
    have hlm : len ≤ m := by rw [hmm]; split <;> omega
    obtain ⟨V, hV⟩ := choose_lt (α := Iv) (n := len) (p := fun i a => W.cells? base (x.add (i * 6)) 6 = some (ivCells a) ∧ BigI a) (fun i hi => by
      obtain ⟨cs', h1, h2⟩ := hx i (by omega)
      rw [k6] at h1
      obtain ⟨a, rfl, _, hz⟩ := read_iv h2
      exact ⟨a, h1, hz⟩)
    refine ⟨(List.range len).map V, ?_, by simp; omega, ?_⟩
    · by_cases h0 : len = 0
      · subst h0; exact .inl ⟨by simp, _, _, rfl⟩
      · right
        obtain ⟨b, off, spot⟩ := x
        have hc0 := (World.cells?_some (hV 0 (by omega)).1).2.2 0 (by omega)
        have hspot : spot = none := by
          have e : (Addr.add ⟨b, off, spot⟩ (0 * 6)).add 0 = ⟨b, off, spot⟩ := by simp [Addr.add]
          rw [e] at hc0
          simpa using World.cell?_spot (v := .bool (V 0).low.neg) hc0
        subst hspot
        refine ⟨by simp; omega, b, off, cap, by simp, by simpa using hl, hm, fun j hj k hk => ?_⟩
        have hj' : j < len := by simpa using hj
        have hc := (World.cells?_some (hV j hj').1).2.2 k hk
        rw [add_add, show (⟨b, off, none⟩ : Addr).add (j * 6 + k) = ⟨b, off + j * 6 + k, none⟩ from by unfold Addr.add; split <;> simp_all [Nat.add_assoc]] at hc
        rw [hc]
        simp only [List.getElem_map, List.getElem_range]
        exact List.getElem?_eq_getElem hk
    · intro i hi
      rw [List.mem_map] at hi
      obtain ⟨j, hj, rfl⟩ := hi
      exact (hV j (by simpa using hj)).2
end Go.Proofs.YtbcoblpnihdhgaaDoor
