/-
  Intervals in memory.
-/
import Derived.Test.YtbcoblpnihdhgaaGreatDoorRmF
import Derived.Test.YtbcoblpnihdhgaaGreatDoorIvA1
import Derived.Lib.SmallJoins
import Derived.Deep.Slices
import Derived.Carry
import Derived.Test.YtbcoblpnihdhgaaGreatDoorRmG
import Derived.Deep.RegionHeld3
import Derived.Deep.DeepCutAuto
set_option linter.unusedVariables false
set_option maxRecDepth 100000
namespace Go.Proofs.YtbcoblpnihdhgaaGreatDoor
open Go.RowKit
open Rt
/-- an interval lies in a block -/
structure IvAt (B : Nat) (i : Iv) (w : World) : Prop where
  cells : w.heap[B]? = some (.cells #[.bool i.low.neg, .string i.low.num, .string i.low.den, .bool i.high.neg, .string i.high.num, .string i.high.den] 26 (0, 0))
theorem IvAt.bel {B : Nat} {i : Iv} {w w' : World} (h : IvAt B i w) (hb : Below w.heap.size w w') : IvAt B i w' := ⟨(hb.block _ (blk_lt h.cells)).trans h.cells⟩
theorem IvAt.bes {B C : Nat} {i : Iv} {w w' : World} (h : IvAt B i w) (hb : Bes C w w') (hne : B ≠ C) : IvAt B i w' := ⟨(hb.block _ (blk_lt h.cells) hne).trans h.cells⟩
theorem IvAt.c0 {B : Nat} {i : Iv} {w : World} (h : IvAt B i w) : w.cell? ⟨B, 0, none⟩ = some (.bool i.low.neg) := by rw [Lib.cell_of_heap h.cells]; rfl
theorem IvAt.c1 {B : Nat} {i : Iv} {w : World} (h : IvAt B i w) : w.cell? ⟨B, 1, none⟩ = some (.string i.low.num) := by rw [Lib.cell_of_heap h.cells]; rfl
theorem IvAt.c2 {B : Nat} {i : Iv} {w : World} (h : IvAt B i w) : w.cell? ⟨B, 2, none⟩ = some (.string i.low.den) := by rw [Lib.cell_of_heap h.cells]; rfl
theorem IvAt.c3 {B : Nat} {i : Iv} {w : World} (h : IvAt B i w) : w.cell? ⟨B, 3, none⟩ = some (.bool i.high.neg) := by rw [Lib.cell_of_heap h.cells]; rfl
theorem IvAt.c4 {B : Nat} {i : Iv} {w : World} (h : IvAt B i w) : w.cell? ⟨B, 4, none⟩ = some (.string i.high.num) := by rw [Lib.cell_of_heap h.cells]; rfl
theorem IvAt.c5 {B : Nat} {i : Iv} {w : World} (h : IvAt B i w) : w.cell? ⟨B, 5, none⟩ = some (.string i.high.den) := by rw [Lib.cell_of_heap h.cells]; rfl
theorem IvAt.fz {B : Nat} {i : Iv} {w : World} (h : IvAt B i w) (k : Nat) : w.frozen? ⟨B, k, none⟩ = false := Lib.frozen_of_heap h.cells k
theorem IvAt.setOther {B C k : Nat} {i : Iv} {w : World} (h : IvAt B i w) (hne : B ≠ C) (u : Value) : IvAt B i (w.setCell ⟨C, k, none⟩ u) := h.bes (Bes.set w C k u) hne
theorem IvAt.setLow {B : Nat} {i : Iv} {w : World} (h : IvAt B i w) (s : Raw) : IvAt B ⟨s, i.high⟩ (((w.setCell ⟨B, 0, none⟩ (.bool s.neg)).setCell ⟨B, 1, none⟩ (.string s.num)).setCell ⟨B, 2, none⟩ (.string s.den)) := by
  have h1 := heap_setCell_same w B 0 _ _ (.bool s.neg) h.cells
  have h2 := heap_setCell_same _ B 1 _ _ (.string s.num) h1
  have h3 := heap_setCell_same _ B 2 _ _ (.string s.den) h2
  exact ⟨h3⟩
theorem IvAt.setHigh {B : Nat} {i : Iv} {w : World} (h : IvAt B i w) (s : Raw) : IvAt B ⟨i.low, s⟩ (((w.setCell ⟨B, 3, none⟩ (.bool s.neg)).setCell ⟨B, 4, none⟩ (.string s.num)).setCell ⟨B, 5, none⟩ (.string s.den)) := by
  have h1 := heap_setCell_same w B 3 _ _ (.bool s.neg) h.cells
  have h2 := heap_setCell_same _ B 4 _ _ (.string s.num) h1
  have h3 := heap_setCell_same _ B 5 _ _ (.string s.den) h2
  exact ⟨h3⟩
theorem IvAt.set {B : Nat} {i : Iv} {w : World} (h : IvAt B i w) (s : Iv) : IvAt B s ((((((((((((w).setCell ⟨B, 0, none⟩ (.bool s.low.neg))).setCell ⟨B, 1, none⟩ (.string s.low.num))).setCell ⟨B, 2, none⟩ (.string s.low.den))).setCell ⟨B, 3, none⟩ (.bool s.high.neg))).setCell ⟨B, 4, none⟩ (.string s.high.num))).setCell ⟨B, 5, none⟩ (.string s.high.den)) := (h.setLow s.low).setHigh s.high
theorem results_iv {fn : Func} {p q : Tmp} (h : fn.results = #[.cell p 26, .tmp q]) (tmps : Array Value) (w : World) (g : Nat) (r : Iv) (v : Value)
    (hp : tmps.getD p undef = .pointer (some ⟨g, 0, none⟩)) (hq : tmps.getD q undef = v) (hg : IvAt g r w) :
    (results fn tmps).run Tryz.prog w = .ok (.tuple #[.agg #[.bool r.low.neg, .string r.low.num, .string r.low.den, .bool r.high.neg, .string r.high.num, .string r.high.den], v]) w := by
  have hp' : tmps[p]?.getD undef = .pointer (some ⟨g, 0, none⟩) := by simpa using hp
  have hq' : tmps[q]?.getD undef = v := by simpa using hq
  simp [results, h, hp', hq', asAddr, run_loadVar_row w g 26 26 _ (0, 0) _ hg.cells Tryz.underlying26 rfl (by kernel_rfl)]
theorem results_iv1 {fn : Func} {p : Tmp} (h : fn.results = #[.cell p 26]) (tmps : Array Value) (w : World) (g : Nat) (r : Iv)
    (hp : tmps.getD p undef = .pointer (some ⟨g, 0, none⟩)) (hg : IvAt g r w) :
    (results fn tmps).run Tryz.prog w = .ok (.agg #[.bool r.low.neg, .string r.low.num, .string r.low.den, .bool r.high.neg, .string r.high.num, .string r.high.den]) w := by
  have hp' : tmps[p]?.getD undef = .pointer (some ⟨g, 0, none⟩) := by simpa using hp
  simp [results, h, hp', asAddr, run_loadVar_row w g 26 26 _ (0, 0) _ hg.cells Tryz.underlying26 rfl (by kernel_rfl)]
/-- the call answers with an interval and an error -/
def GivesI (r : Iv × Int) (w : World) (e : Ending) (w' : World) : Prop := e = .returned (.tuple #[.agg #[.bool r.1.low.neg, .string r.1.low.num, .string r.1.low.den, .bool r.1.high.neg, .string r.1.high.num, .string r.1.high.den], .int .i64 r.2]) ∧ Below w.heap.size w w'
/-- the call answers with an interval and whether there is one -/
def GivesM (r : Iv × Bool) (w : World) (e : Ending) (w' : World) : Prop := e = .returned (.tuple #[.agg #[.bool r.1.low.neg, .string r.1.low.num, .string r.1.low.den, .bool r.1.high.neg, .string r.1.high.num, .string r.1.high.den], .bool r.2]) ∧ Below w.heap.size w w'
/-- the call answers with an interval -/
def GivesV (r : Iv) (w : World) (e : Ending) (w' : World) : Prop := e = .returned (.agg #[.bool r.low.neg, .string r.low.num, .string r.low.den, .bool r.high.neg, .string r.high.num, .string r.high.den]) ∧ Below w.heap.size w w'
/-- two intervals are equal -/
def sameI (a b : Iv) : Bool := decide (a.low.neg = b.low.neg ∧ a.low.num = b.low.num ∧ a.low.den = b.low.den ∧ a.high.neg = b.high.neg ∧ a.high.num = b.high.num ∧ a.high.den = b.high.den)
theorem sameI_iff {a b : Iv} : sameI a b = true ↔ a = b := by
  obtain ⟨⟨_, _, _⟩, ⟨_, _, _⟩⟩ := a; obtain ⟨⟨_, _, _⟩, ⟨_, _, _⟩⟩ := b; simp [sameI, and_assoc]
end Go.Proofs.YtbcoblpnihdhgaaGreatDoor

/-
  An interval, and a list of intervals, as arguments of a card: opened.
-/
set_option linter.unusedVariables false
set_option maxRecDepth 100000
namespace Go.Proofs.YtbcoblpnihdhgaaGreatDoor
open Go.ChangeShapes Go.WideShapes Go.RowKit Go.Deep Go.Joins
open Rt
/-- the sizes that a text that came in can have -/
abbrev BigR (r : Raw) : Prop := r.num.size ≤ maxLen ∧ r.den.size ≤ maxLen
abbrev BigI (i : Iv) : Prop := BigR i.low ∧ BigR i.high
def ivCells (i : Iv) : List Value := [.bool i.low.neg, .string i.low.num, .string i.low.den, .bool i.high.neg, .string i.high.num, .string i.high.den]
section
variable {H : Type} {enc : TypeId × Value → H} {W : World} {base : Nat} {spare : Nat → Bool} {held : Bool}
theorem read_rat {n : Nat} {cs : List Value} {y : DataW H × List MemPlace} (h : DataW.trod enc Tryz.prog W base spare held n 24 cs = some y) :
    ∃ r : Raw, cs = [.bool r.neg, .string r.num, .string r.den] ∧ y.2 = [] ∧ BigR r := by
  obtain ⟨y0, y1, y2, m, rfl, hl, h0, h1, h2⟩ := trod_struct3 Tryz.underlying24 h
  rw [show Tryz.prog.cellsOf 24 = 3 by kernel_rfl] at hl
  match cs, hl with
  | [c0, c1, c2], _ =>
    have k4 : Tryz.prog.cellsOf 4 = 1 := by kernel_rfl
    have k22 : Tryz.prog.cellsOf 22 = 1 := by kernel_rfl
    simp only [k4, k22, List.drop_zero, List.drop_succ_cons, List.take_succ_cons, List.take_zero] at h0 h1 h2
    obtain ⟨b, e0, rfl⟩ := DataW.trod_bool Tryz.underlying4 h0
    obtain ⟨s, e1, rfl, hs⟩ := DataW.trod_string Tryz.underlying22 h1
    obtain ⟨t, e2, rfl, ht⟩ := DataW.trod_string Tryz.underlying22 h2
    simp only [List.cons.injEq, and_true] at e0 e1 e2
    subst e0 e1 e2
    exact ⟨⟨b, s, t⟩, rfl, rfl, hs, ht⟩
theorem read_iv {n : Nat} {cs : List Value} {y : DataW H × List MemPlace} (h : DataW.trod enc Tryz.prog W base spare held n 26 cs = some y) :
    ∃ i : Iv, cs = ivCells i ∧ y.2 = [] ∧ BigI i := by
  obtain ⟨y0, y1, m, rfl, hl, h0, h1⟩ := trod_struct2 Tryz.underlying26 h
  rw [show Tryz.prog.cellsOf 26 = 6 by kernel_rfl] at hl
  match cs, hl with
  | [c0, c1, c2, c3, c4, c5], _ =>
    have k : Tryz.prog.cellsOf 24 = 3 := by kernel_rfl
    simp only [k, List.drop_zero, List.drop_succ_cons, List.take_succ_cons, List.take_zero] at h0 h1
    obtain ⟨a, ea, pa, za⟩ := read_rat h0
    obtain ⟨b, eb, pb, zb⟩ := read_rat h1
    simp only [List.cons.injEq, and_true] at ea eb
    obtain ⟨rfl, rfl, rfl⟩ := ea
    obtain ⟨rfl, rfl, rfl⟩ := eb
    exact ⟨⟨a, b⟩, rfl, by simp [pa, pb], za, zb⟩
theorem open_rat5 {r : Reach} {b0 : Nat} {v : Value} {d : DataW H} {p : List MemPlace} (hv : Value.okWide Tryz.prog W r b0 24 v) (h : DataW.Trod enc Tryz.prog W base spare held 24 v d p) :
    ∃ a : Raw, v = .agg #[.bool a.neg, .string a.num, .string a.den] ∧ p = [] ∧ BigR a := by
  obtain ⟨cs, rfl, _⟩ := okWide_struct Tryz.underlying24 hv
  obtain ⟨fuel, hf⟩ := h
  obtain ⟨a, e, hp, hz⟩ := read_rat hf
  refine ⟨a, ?_, hp, hz⟩
  simp only [Value.cells] at e
  congr 1
  exact Array.toList_inj.1 e
theorem open_iv {r : Reach} {b0 : Nat} {v : Value} {d : DataW H} {p : List MemPlace} (hv : Value.okWide Tryz.prog W r b0 26 v) (h : DataW.Trod enc Tryz.prog W base spare held 26 v d p) :
    ∃ a : Iv, v = .agg #[.bool a.low.neg, .string a.low.num, .string a.low.den, .bool a.high.neg, .string a.high.num, .string a.high.den] ∧ p = [] ∧ BigI a := by
  obtain ⟨cs, rfl, _⟩ := okWide_struct Tryz.underlying26 hv
  obtain ⟨fuel, hf⟩ := h
  obtain ⟨a, e, hp, hz⟩ := read_iv hf
  refine ⟨a, ?_, hp, hz⟩
  simp only [Value.cells] at e
  congr 1
  exact Array.toList_inj.1 e
end
/-- the intervals of a list, one after the other -/
def IvsIn (w : World) (b off : Nat) (l : List Iv) : Prop := ∀ j (hj : j < l.length) k (hk : k < 6), w.cell? ⟨b, off + j * 6 + k, none⟩ = some ((ivCells l[j])[k]'hk)
/-- a list of intervals as an argument -/
structure IvsOk (w : World) (v : Value) (l : List Iv) : Prop where
  form : (l = [] ∧ ∃ a cap, v = .slice a 0 cap) ∨ (0 < l.length ∧ ∃ b off cap, v = .slice (some ⟨b, off, none⟩) l.length cap ∧ l.length ≤ cap ∧ cap ≤ maxLen ∧ IvsIn w b off l)
  len : l.length ≤ maxLen
  big : ∀ i ∈ l, BigI i
theorem IvsIn.bel {w w' : World} {b off : Nat} {l : List Iv} (h : IvsIn w b off l) (hb : Below w.heap.size w w') : IvsIn w' b off l := by
  intro j hj k hk
  have h0 := h j hj k hk
  exact (hb.cell (p := ⟨b, off + j * 6 + k, none⟩) (cell_lt h0)).trans h0
theorem IvsOk.bel {w w' : World} {v : Value} {l : List Iv} (h : IvsOk w v l) (hb : Below w.heap.size w w') : IvsOk w' v l :=
  ⟨h.form.imp id (fun ⟨h0, b, off, cap, e, h1, h2, hc⟩ => ⟨h0, b, off, cap, e, h1, h2, hc.bel hb⟩), h.len, h.big⟩
instance : Inhabited Iv := ⟨noI⟩
theorem open_ivs {H : Type} {enc : TypeId × Value → H} {W : World} {r : Reach} {b0 : Nat} {v : Value} {d : DataW H} {p : List MemPlace} {spare : Nat → Bool} {held : Bool} {base : Nat}
    (hv : Value.okWide Tryz.prog W r b0 27 v) (h : DataW.Trod enc Tryz.prog W base spare held 27 v d p) : ∃ l : List Iv, IvsOk W v l := by
  obtain ⟨a, len, cap, rfl⟩ := okWide_slice Tryz.underlying27 hv
  obtain ⟨fuel, hf⟩ := h
  have k6 : Tryz.prog.cellsOf 26 = 6 := by kernel_rfl
  rcases open_slice Tryz.underlying27 hf with ⟨hcs, _⟩ | ⟨x, len', cap', m, n, D, Pl, hcs, _, hl, hm, hmm, _, hx⟩
  · simp [Value.cells] at hcs
    obtain ⟨rfl, rfl, rfl⟩ := hcs
    exact ⟨[], .inl ⟨rfl, _, _, rfl⟩, by simp, by intro i hi; cases hi⟩
  · simp [Value.cells] at hcs
    obtain ⟨rfl, rfl, rfl⟩ := hcs
    have hlm : len ≤ m := by rw [hmm]; split <;> omega
    obtain ⟨V, hV⟩ := choose_lt (α := Iv) (n := len) (p := fun i a => W.cells? base (x.add (i * 6)) 6 = some (ivCells a) ∧ BigI a) (fun i hi => by
      obtain ⟨cs', h1, h2⟩ := hx i (by omega)
      rw [k6] at h1
      obtain ⟨a, rfl, _, hz⟩ := read_iv h2
      exact ⟨a, h1, hz⟩)
    refine ⟨(List.range len).map V, ?_, by simp; omega, ?_⟩
    · by_cases h0 : len = 0
      · subst h0; exact .inl ⟨by simp, _, _, rfl⟩
      · right
        obtain ⟨b, off, spot⟩ := x
        have hc0 := (World.cells?_some (hV 0 (by omega)).1).2.2 0 (by omega)
        have hspot : spot = none := by
          have e : (Addr.add ⟨b, off, spot⟩ (0 * 6)).add 0 = ⟨b, off, spot⟩ := by simp [Addr.add]
          rw [e] at hc0
          simpa using World.cell?_spot (v := .bool (V 0).low.neg) hc0
        subst hspot
        refine ⟨by simp; omega, b, off, cap, by simp, by simpa using hl, hm, fun j hj k hk => ?_⟩
        have hj' : j < len := by simpa using hj
        have hc := (World.cells?_some (hV j hj').1).2.2 k hk
        rw [add_add, show (⟨b, off, none⟩ : Addr).add (j * 6 + k) = ⟨b, off + j * 6 + k, none⟩ from by unfold Addr.add; split <;> simp_all [Nat.add_assoc]] at hc
        rw [hc]
        simp only [List.getElem_map, List.getElem_range]
        exact List.getElem?_eq_getElem hk
    · intro i hi
      rw [List.mem_map] at hi
      obtain ⟨j, hj, rfl⟩ := hi
      exact (hV j (by simpa using hj)).2
end Go.Proofs.YtbcoblpnihdhgaaGreatDoor

/-
  What the statements of layer 5 share: intervals of quotients, the check of the sizes.
-/
set_option linter.unusedVariables false
set_option maxRecDepth 100000
namespace Go.Proofs.YtbcoblpnihdhgaaGreatDoor
open Go.RowKit
open Rt
set_option maxHeartbeats 2000000 in
theorem piof_any (a b c d : Int) (w : World) (ha : -9223372036854775808 ≤ a ∧ a ≤ 9223372036854775807) (hb : -9223372036854775808 ≤ b ∧ b ≤ 9223372036854775807) (hc : -9223372036854775808 ≤ c ∧ c ≤ 9223372036854775807) (hd : -9223372036854775808 ≤ d ∧ d ≤ 9223372036854775807) (ht : TabOk w) :
    Calls Tryz.prog 18 #[.int .i64 a, .int .i64 b, .int .i64 c, .int .i64 d] w (GivesV ⟨(ofE a b).1, (ofE c d).1⟩ w) := by
  obtain ⟨x, e, hx⟩ : ∃ x e, ofE a b = (x, e) := ⟨_, _, rfl⟩
  obtain ⟨y, f, hy⟩ : ∃ y f, ofE c d = (y, f) := ⟨_, _, rfl⟩
  rw [hx, hy]
  have HX := Lib.hid hx; have HY := Lib.hid hy; have HT := Lib.hid ht
  have HB := Lib.hid (And.intro ha (And.intro hb (And.intro hc hd)))
  clear hx hy ht ha hb hc hd
  have D0 := Lib.hid (Below.refl w.heap.size w)
  go_enter Tryz.func18, Tryz.ntmps18
  go_wp2_with fail
  obtain ⟨B1, hB1⟩ : ∃ B, B = w.heap.size := ⟨_, rfl⟩
  obtain ⟨W1_0, hW1_0⟩ : ∃ W, W = w.alloc (Obj.cells #[Value.bool false, Value.string ⟨#[]⟩, Value.string ⟨#[]⟩, Value.bool false, Value.string ⟨#[]⟩, Value.string ⟨#[]⟩] 26) := ⟨_, rfl⟩
  have hb : Below w.heap.size w W1_0 := by rw [hW1_0]; exact (Below.refl _ _).alloc (Nat.le_refl _) _
  have hzW1_0 : w.heap.size = B1 := by rw [hB1]
  have hlW1_0 : IvAt (B1) noI W1_0 := by rw [← hzW1_0, hW1_0]; exact ⟨heap_lastM _ _⟩
  have D1 := Lib.hid (D0.out.trans (hb.mono D0.out.size))
  clear hb
  have z_1 := Lib.hid hlW1_0
  clear hlW1_0
  rw [← hW1_0]
  simp only [← hB1]
  have HW1_0 := Lib.hid hW1_0
  clear hW1_0 hzW1_0
  have HB1 := Lib.hid hB1
  clear hB1
  refine (pof_any a b _ HB.out.1.1 HB.out.1.2 HB.out.2.1.1 HB.out.2.1.2 (HT.out.below D1.out)).mono ?_
  rintro e v2 ⟨rfl, hb⟩
  have D2 := Lib.hid (D1.out.trans (hb.mono D1.out.size))
  have z_2 := Lib.hid (z_1.out.bel hb)
  clear D1 z_1
  clear hb
  simp only [HX.out]
  go_wp2_with fail
  obtain ⟨B2, hB2⟩ : ∃ B, B = v2.heap.size := ⟨_, rfl⟩
  obtain ⟨W2_0, hW2_0⟩ : ∃ W, W = v2.alloc (Obj.cells #[Value.bool x.neg, Value.string x.num, Value.string x.den] 24) := ⟨_, rfl⟩
  have hb : Below v2.heap.size v2 W2_0 := by rw [hW2_0]; exact (Below.refl _ _).alloc (Nat.le_refl _) _
  have hzW2_0 : v2.heap.size = B2 := by rw [hB2]
  have hlW2_0 : RatAt (B2) x W2_0 := by rw [← hzW2_0, hW2_0]; exact ⟨heap_lastM _ _⟩
  have D3 := Lib.hid (D2.out.trans (hb.mono D2.out.size))
  have z_3 := Lib.hid (z_2.out.bel hb)
  clear D2 z_2
  clear hb
  have x_3 := Lib.hid hlW2_0
  clear hlW2_0
  rw [← hW2_0]
  simp only [← hB2]
  have HW2_0 := Lib.hid hW2_0
  clear hW2_0 hzW2_0
  have HB2 := Lib.hid hB2
  clear hB2
  refine (pof_any c d _ HB.out.2.2.1.1 HB.out.2.2.1.2 HB.out.2.2.2.1 HB.out.2.2.2.2 (HT.out.below D3.out)).mono ?_
  rintro e v4 ⟨rfl, hb⟩
  have D4 := Lib.hid (D3.out.trans (hb.mono D3.out.size))
  have z_4 := Lib.hid (z_3.out.bel hb)
  have x_4 := Lib.hid (x_3.out.bel hb)
  clear D3 z_3 x_3
  clear hb
  simp only [HY.out]
  have xc0 := x_4.out.c0
  have xc1 := x_4.out.c1
  have xc2 := x_4.out.c2
  have xz := blk_lt x_4.out.cells
  have zl := blk_lt z_4.out.cells
  have zc0 := z_4.out.c0
  have zf0 := z_4.out.fz 0
  have zc1 := z_4.out.c1
  have zf1 := z_4.out.fz 1
  have zc2 := z_4.out.c2
  have zf2 := z_4.out.fz 2
  have zc3 := z_4.out.c3
  have zf3 := z_4.out.fz 3
  have zc4 := z_4.out.c4
  have zf4 := z_4.out.fz 4
  have zc5 := z_4.out.c5
  have zf5 := z_4.out.fz 5
  have hnz : B1 ≠ v4.heap.size := by omega
  go_wp2_with fail
  (try simp only [Exit.inBlock, Exit.then])
  refine bodyPost_ret (results_iv1 rfl _ _ (B1) ⟨⟨_, _, _⟩, ⟨_, _, _⟩⟩ rfl ((z_4.out.set ⟨⟨_, _, _⟩, ⟨_, _, _⟩⟩).bel ((Below.refl _ _).alloc (Nat.le_refl _) _))) rfl ?_
  exact ⟨rfl, ((((((D4.out.setCell (p := ⟨B1, 0, none⟩) (by have := HB1.out; show w.heap.size ≤ B1; omega) _).setCell (p := ⟨B1, 1, none⟩) (by have := HB1.out; show w.heap.size ≤ B1; omega) _).setCell (p := ⟨B1, 2, none⟩) (by have := HB1.out; show w.heap.size ≤ B1; omega) _).setCell (p := ⟨B1, 3, none⟩) (by have := HB1.out; show w.heap.size ≤ B1; omega) _).setCell (p := ⟨B1, 4, none⟩) (by have := HB1.out; show w.heap.size ≤ B1; omega) _).setCell (p := ⟨B1, 5, none⟩) (by have := HB1.out; show w.heap.size ≤ B1; omega) _).alloc (by have := D4.out.size; simpa using this) _⟩
end Go.Proofs.YtbcoblpnihdhgaaGreatDoor

/-
  The check of the sizes in the statements of layer 5.
-/
set_option linter.unusedVariables false
set_option maxRecDepth 100000
namespace Go.Proofs.YtbcoblpnihdhgaaGreatDoor
open Go.RowKit
open Rt
/-- numbers that lie one after the other -/
def RatsIn (w : World) (b : Nat) (l : List Raw) : Prop := ∀ j (hj : j < l.length), w.cell? ⟨b, j * 3 + 1, none⟩ = some (.string l[j].num) ∧ w.cell? ⟨b, j * 3 + 2, none⟩ = some (.string l[j].den)
def fewS (l : List Raw) : Bool := l.all fun r => decide (r.num.size ≤ 60) && decide (r.den.size ≤ 60)
theorem fewS_iff {l : List Raw} : fewS l = true ↔ ∀ r ∈ l, Sz r := by
  unfold fewS; rw [List.all_eq_true]
  constructor
  · intro h r hr; have := h r hr; simpa [Bool.and_eq_true] using this
  · intro h r hr; have := h r hr; simpa [Bool.and_eq_true] using this
set_option maxHeartbeats 1000000 in
theorem refrats_any (b cap : Nat) (l : List Raw) (w : World) (h0 : 0 < l.length) (hl : l.length ≤ 1000) (hsz : ∀ r ∈ l, BigR r) (hc : RatsIn w b l) :
    Calls Tryz.prog 20 #[.int .i64 60, .slice (some ⟨b, 0, none⟩) l.length cap] w fun e w' => e = .returned (.bool (fewS l)) ∧ w = w' := by
  have HC := Lib.hid hc
  have HS := Lib.hid hsz
  clear hc hsz
  go_enter Tryz.func20, Tryz.ntmps20
  go_wp2_with fail
  go_loop [5] (fun i => ∃ k : Nat, k ≤ l.length ∧ i = .int .i64 k ∧ Hid (∀ j (hj : j < l.length), j < k → l[j].num.size ≤ 60 ∧ l[j].den.size ≤ 60)) (fun i => l.length - (intOf i).toNat)
  case atStart => exact ⟨0, by omega, rfl, (show _ from fun j _ h => absurd h (by omega))⟩
  case round =>
    obtain ⟨k, hk, rfl, hx⟩ := hrel
    by_cases hlt : k < l.length
    · obtain ⟨hc1, hc2⟩ := HC.out k hlt
      have hs := HS.out _ (List.getElem_mem hlt)
      unfold BigR maxLen at hs
      obtain ⟨hs1, hs2⟩ := hs
      by_cases hm : l[k].num.size ≤ 60
      · have t1 : decide (60 < l[k].num.size) = false := decide_eq_false (by omega)
        by_cases hm2 : l[k].den.size ≤ 60
        · have t2 : decide (60 < l[k].den.size) = false := decide_eq_false (by omega)
          go_wp2_with fail
          go_round
          case rel =>
            refine ⟨k + 1, by omega, by go_num, (show _ from fun j hj h => ?_)⟩
            by_cases e : j = k
            · subst e; exact ⟨hm, hm2⟩
            · exact hx.out j hj (by omega)
          case measure => simp [intOf]; omega
        · have t2 : decide (60 < l[k].den.size) = true := decide_eq_true (by omega)
          have hB : fewS l = false := by
            unfold fewS
            rw [List.all_eq_false]
            exact ⟨l[k], List.getElem_mem hlt, by simp [hm2]⟩
          have HB := Lib.hid hB
          clear hB
          go_wp2_with fail
          go_ret
          exact ⟨by rw [HB.out]; rfl, rfl⟩
      · have t1 : decide (60 < l[k].num.size) = true := decide_eq_true (by omega)
        have hB : fewS l = false := by
          unfold fewS
          rw [List.all_eq_false]
          exact ⟨l[k], List.getElem_mem hlt, by simp [hm]⟩
        have HB := Lib.hid hB
        clear hB
        go_wp2_with fail
        go_ret
        exact ⟨by rw [HB.out]; rfl, rfl⟩
    · have hB : fewS l = true := by
        unfold fewS
        rw [List.all_eq_true]
        intro s hs
        obtain ⟨j, hj, rfl⟩ := List.getElem_of_mem hs
        have := hx.out j hj (by omega)
        simp [this.1, this.2]
      have HB := Lib.hid hB
      clear hB
      go_wp2_with fail
      go_ret
      exact ⟨by rw [HB.out]; rfl, rfl⟩
theorem refrats_nil (w : World) : Calls Tryz.prog 20 #[.int .i64 60, .slice none 0 0] w fun e w' => e = .returned (.bool (fewS [])) ∧ w = w' := by
  go_enter Tryz.func20, Tryz.ntmps20
  go_wp2_with fail
  go_loop [5] (fun i => i = .int .i64 0) (fun _ => 0)
  case atStart => rfl
  case round =>
    subst hrel
    go_wp2_with fail
    go_ret
    exact ⟨rfl, rfl⟩
theorem cell_lt' {w : World} {a : Addr} {x : Value} (h : w.cell? a = some x) : a.block < w.heap.size := by
  rcases Nat.lt_or_ge a.block w.heap.size with h' | h'
  · exact h'
  · simp [World.cell?, Array.getElem?_eq_none h'] at h
theorem refrats_two (a b : Raw) (w : World) (ha : BigR a) (hb : BigR b) :
    Calls Tryz.prog 20 #[.int .i64 60, .slice (some ⟨w.heap.size, 0, none⟩) 2 2] (w.alloc (Obj.cells #[.bool a.neg, .string a.num, .string a.den, .bool b.neg, .string b.num, .string b.den] 24)) fun e w' => e = .returned (.bool (fewS [a, b])) ∧ Below w.heap.size w w' := by
  refine (refrats_any w.heap.size 2 [a, b] _ (by simp) (by simp) (by intro r hr; simp only [List.mem_cons, List.not_mem_nil, or_false] at hr; rcases hr with rfl | rfl <;> assumption) ?_).mono ?_
  · intro j hj
    match j, hj with
    | 0, _ => simp
    | 1, _ => simp
  · rintro e w' ⟨rfl, rfl⟩
    exact ⟨rfl, (Below.refl _ _).alloc (Nat.le_refl _) _⟩
theorem RatsIn.bel {w w' : World} {b : Nat} {l : List Raw} (h : RatsIn w b l) (hb : Below w.heap.size w w') : RatsIn w' b l := fun j hj => by
  obtain ⟨h1, h2⟩ := h j hj
  exact ⟨(hb.cell (p := ⟨b, j * 3 + 1, none⟩) (cell_lt' h1)).trans h1, (hb.cell (p := ⟨b, j * 3 + 2, none⟩) (cell_lt' h2)).trans h2⟩
theorem refrats_twoD (a b : Raw) (w : World) (ha : BigR a) (hb : BigR b) :
    Calls Tryz.prog 20 #[.int .i64 60, .slice (some ⟨w.heap.size, 0, none⟩) 2 2] (w.alloc (Obj.cells #[.bool a.neg, .string a.num, .string a.den, .bool b.neg, .string b.num, .string b.den] 24)).drew fun e w' => e = .returned (.bool (fewS [a, b])) ∧ Below w.heap.size w w' := by
  have hr : RatsIn (w.alloc (Obj.cells #[.bool a.neg, .string a.num, .string a.den, .bool b.neg, .string b.num, .string b.den] 24)) w.heap.size [a, b] := by
    intro j hj
    match j, hj with
    | 0, _ => simp
    | 1, _ => simp
  refine (refrats_any w.heap.size 2 [a, b] _ (by simp) (by simp) (by intro r hr; simp only [List.mem_cons, List.not_mem_nil, or_false] at hr; rcases hr with rfl | rfl <;> assumption) (hr.bel ((Below.refl _ _).drew))).mono ?_
  rintro e w' ⟨rfl, rfl⟩
  exact ⟨rfl, ((Below.refl _ _).alloc (Nat.le_refl _) _).drew⟩
theorem next6 {W w' w'' : World} {b o : Nat} {x0 x1 x2 x3 x4 x5 : Value} (hb : Below w'.heap.size w' w'') (h : Below W.heap.size W w' ∧ w'.cell? ⟨b, o, none⟩ = some x0 ∧ w'.cell? ⟨b, o + 1, none⟩ = some x1 ∧ w'.cell? ⟨b, o + 2, none⟩ = some x2 ∧ w'.cell? ⟨b, o + 3, none⟩ = some x3 ∧ w'.cell? ⟨b, o + 4, none⟩ = some x4 ∧ w'.cell? ⟨b, o + 5, none⟩ = some x5) :
    Below W.heap.size W w'' ∧ w''.cell? ⟨b, o, none⟩ = some x0 ∧ w''.cell? ⟨b, o + 1, none⟩ = some x1 ∧ w''.cell? ⟨b, o + 2, none⟩ = some x2 ∧ w''.cell? ⟨b, o + 3, none⟩ = some x3 ∧ w''.cell? ⟨b, o + 4, none⟩ = some x4 ∧ w''.cell? ⟨b, o + 5, none⟩ = some x5 := by
  obtain ⟨h, h0, h1, h2, h3, h4, h5⟩ := h
  have k : ∀ {a : Addr} {x : Value}, w'.cell? a = some x → w''.cell? a = some x := fun {a x} hc => (hb.cell (p := a) (cell_lt' hc)).trans hc
  exact ⟨h.trans (hb.mono h.size), k h0, k h1, k h2, k h3, k h4, k h5⟩
def fewI (l : List Iv) : Bool := decide (l.length ≤ 12) && l.all fun i => fewS [i.low, i.high]
theorem fewI_iff {l : List Iv} : fewI l = true ↔ l.length ≤ 12 ∧ ∀ i ∈ l, SzI i := by
  unfold fewI
  rw [Bool.and_eq_true, decide_eq_true_eq, List.all_eq_true]
  constructor
  · rintro ⟨h, h'⟩
    exact ⟨h, fun i hi => by have := fewS_iff.1 (h' i hi); exact ⟨this i.low (by simp), this i.high (by simp)⟩⟩
  · rintro ⟨h, h'⟩
    refine ⟨h, fun i hi => fewS_iff.2 (fun r hr => ?_)⟩
    have := h' i hi
    simp only [List.mem_cons, List.not_mem_nil, or_false] at hr
    rcases hr with rfl | rfl
    · exact this.1
    · exact this.2
theorem ivsCell {w : World} {b off : Nat} {l : List Iv} (h : IvsIn w b off l) (j : Nat) (hj : j < l.length) :
    w.cell? ⟨b, off + j * 6, none⟩ = some (.bool l[j].low.neg) ∧ w.cell? ⟨b, off + j * 6 + 1, none⟩ = some (.string l[j].low.num) ∧ w.cell? ⟨b, off + j * 6 + 2, none⟩ = some (.string l[j].low.den) ∧
    w.cell? ⟨b, off + j * 6 + 3, none⟩ = some (.bool l[j].high.neg) ∧ w.cell? ⟨b, off + j * 6 + 4, none⟩ = some (.string l[j].high.num) ∧ w.cell? ⟨b, off + j * 6 + 5, none⟩ = some (.string l[j].high.den) :=
  ⟨h j hj 0 (by omega), h j hj 1 (by omega), h j hj 2 (by omega), h j hj 3 (by omega), h j hj 4 (by omega), h j hj 5 (by omega)⟩
set_option maxHeartbeats 4000000 in
theorem refivs_some (b off cap : Nat) (l : List Iv) (w : World) (h0 : 0 < l.length) (hl : l.length ≤ cap) (hcap : cap ≤ maxLen) (hsz : ∀ i ∈ l, BigI i) (hc : IvsIn w b off l) :
    Calls Tryz.prog 19 #[.slice (some ⟨b, off, none⟩) l.length cap] w (GivesB (fewI l) w) := by
  have HC := Lib.hid hc
  have HS := Lib.hid hsz
  clear hc hsz
  unfold maxLen at hcap
  go_enter Tryz.func19, Tryz.ntmps19
  go_wp2_with fail
  go_loopw [3] (fun i wr => ∃ k : Nat, k ≤ l.length ∧ k ≤ 12 ∧ i = .int .i64 k ∧ Hid (Below w.heap.size w wr) ∧ Hid (∀ j (hj : j < l.length), j < k → SzI l[j])) (fun i _ => l.length - (intOf i).toNat)
  case atStart => exact ⟨0, by omega, by omega, rfl, Lib.hid (Below.refl _ _), Lib.hid (fun j _ h => absurd h (by omega))⟩
  case round =>
    obtain ⟨k, hk, hk12, rfl, hB, hx⟩ := hrel
    by_cases hlt : k < l.length
    · by_cases h12 : k < 12
      · obtain ⟨c0, c1, c2, c3, c4, c5⟩ := ivsCell (HC.out.bel hB.out) k hlt
        have hbg := HS.out _ (List.getElem_mem hlt)
        have HBG := Lib.hid hbg
        have HCC := Lib.hid (And.intro c0 (And.intro c1 (And.intro c2 (And.intro c3 (And.intro c4 c5)))))
        clear hbg c0 c1 c2 c3 c4 c5
        have HDR : Hid (Below wr.heap.size wr wr.drew) := Lib.hid ((Below.refl _ _).drew)
        go_upto_region 4 with fail
        go_cut [26] (fun s26 wx => s26 = .bool (!fewS [l[k].low, l[k].high]) ∧ Hid (Below wr.heap.size wr wx))
        case first =>
          go_region_held3 (fun w' => Below wr.heap.size wr w' ∧ w'.cell? ⟨b, off + k * 6, none⟩ = some (.bool l[k].low.neg) ∧ w'.cell? ⟨b, off + k * 6 + 1, none⟩ = some (.string l[k].low.num) ∧ w'.cell? ⟨b, off + k * 6 + 2, none⟩ = some (.string l[k].low.den) ∧ w'.cell? ⟨b, off + k * 6 + 3, none⟩ = some (.bool l[k].high.neg) ∧ w'.cell? ⟨b, off + k * 6 + 4, none⟩ = some (.string l[k].high.num) ∧ w'.cell? ⟨b, off + k * 6 + 5, none⟩ = some (.string l[k].high.den)) (first | (with_reducible assumption) | exact next6 hb1 ⟨Below.refl _ _, HCC.out.1, HCC.out.2.1, HCC.out.2.2.1, HCC.out.2.2.2.1, HCC.out.2.2.2.2.1, HCC.out.2.2.2.2.2⟩ | exact next6 HDR.out ⟨Below.refl _ _, HCC.out.1, HCC.out.2.1, HCC.out.2.2.1, HCC.out.2.2.2.1, HCC.out.2.2.2.2.1, HCC.out.2.2.2.2.2⟩ | exact next6 (by assumption) (by assumption) | exact next6 ((Below.refl _ _).alloc (Nat.le_refl _) _) (by assumption)) (first | (go_at_call 20; ((with_reducible refine (refrats_twoD _ _ _ HBG.out.1 HBG.out.2).mono ?_); rintro e y1 ⟨rfl, hb1⟩)) | fail "no arm")
          all_goals (go_wp2_with fail; go_meet; exact ⟨rfl, Lib.hid (by assumption)⟩)
        case rest =>
          obtain ⟨rfl, hcutB⟩ := hcut
          have HBN := Lib.hid (hB.out.trans (hcutB.out.mono hB.out.size))
          clear hcutB
          by_cases hf : fewS [l[k].low, l[k].high] = true
          · have HF := Lib.hid hf
            rw [hf]
            clear hf
            go_wp2_with fail
            go_roundw
            case rel =>
              refine ⟨k + 1, by omega, by omega, by go_num, HBN, Lib.hid (fun j hj h => ?_)⟩
              by_cases e : j = k
              · subst e
                have := fewS_iff.1 HF.out
                exact ⟨this _ (by simp), this _ (by simp)⟩
              · exact hx.out j hj (by omega)
            case measure => simp [intOf]; omega
          · have hf := Bool.eq_false_iff.2 hf
            have HR : Hid (fewI l = false) := Lib.hid (by
              rw [Bool.eq_false_iff]
              intro h
              have h' := (fewI_iff.1 h).2 _ (List.getElem_mem hlt)
              rw [Bool.eq_false_iff] at hf
              refine hf (fewS_iff.2 (fun r hr => ?_))
              simp only [List.mem_cons, List.not_mem_nil, or_false] at hr
              rcases hr with rfl | rfl
              · exact h'.1
              · exact h'.2)
            rw [hf]
            clear hf
            go_wp2_with fail
            go_ret
            exact ⟨by rw [HR.out]; rfl, HBN.out⟩
      · have HR : Hid (fewI l = false) := Lib.hid (by
          rw [Bool.eq_false_iff]
          intro h
          have := (fewI_iff.1 h).1
          omega)
        have hn : decide ((l.length : Int) ≤ 12) = false := decide_eq_false (by omega)
        go_wp2_with fail
        go_ret
        exact ⟨by rw [HR.out]; rfl, hB.out⟩
    · have HR : Hid (fewI l = decide (l.length ≤ 12)) := Lib.hid (by
        unfold fewI
        rw [show (l.all fun i => fewS [i.low, i.high]) = true from ?_, Bool.and_true]
        rw [List.all_eq_true]
        intro i hi
        obtain ⟨j, hj, rfl⟩ := List.getElem_of_mem hi
        have := hx.out j hj (by omega)
        refine fewS_iff.2 (fun r hr => ?_)
        simp only [List.mem_cons, List.not_mem_nil, or_false] at hr
        rcases hr with rfl | rfl
        · exact this.1
        · exact this.2)
      go_wp2_with fail
      go_ret
      exact ⟨by rw [HR.out]; first | rfl | (simp; omega), hB.out⟩
theorem refivs_none (a : Option Addr) (cap : Nat) (w : World) : Calls Tryz.prog 19 #[.slice a 0 cap] w (GivesB (fewI []) w) := by
  go_enter Tryz.func19, Tryz.ntmps19
  go_wp2_with fail
  go_loop [3] (fun i => i = .int .i64 0) (fun _ => 0)
  case atStart => rfl
  case round =>
    subst hrel
    go_wp2_with fail
    go_ret
    exact ⟨rfl, Below.refl _ _⟩
theorem refivs_any (v : Value) (l : List Iv) (w : World) (h : IvsOk w v l) : Calls Tryz.prog 19 #[v] w (GivesB (fewI l) w) := by
  rcases h.form with ⟨rfl, a, cap, rfl⟩ | ⟨h0, b, off, cap, rfl, h1, h2, hc⟩
  · exact refivs_none a cap w
  · exact refivs_some b off cap l w h0 h1 h2 h.big hc
/-- numbers as a list of arguments -/
structure NumsOk (w : World) (v : Value) (ns : List Raw) : Prop where
  form : (ns = [] ∧ v = .slice none 0 0) ∨ (0 < ns.length ∧ ∃ b cap, v = .slice (some ⟨b, 0, none⟩) ns.length cap ∧ RatsIn w b ns)
  len : ns.length ≤ 1000
  big : ∀ r ∈ ns, BigR r
theorem NumsOk.bel {w w' : World} {v : Value} {ns : List Raw} (h : NumsOk w v ns) (hb : Below w.heap.size w w') : NumsOk w' v ns :=
  ⟨h.form.imp id (fun ⟨h0, b, cap, e, hr⟩ => ⟨h0, b, cap, e, hr.bel hb⟩), h.len, h.big⟩
theorem refnums_any (v : Value) (ns : List Raw) (w : World) (h : NumsOk w v ns) : Calls Tryz.prog 20 #[.int .i64 60, v] w fun e w' => e = .returned (.bool (fewS ns)) ∧ w = w' := by
  rcases h.form with ⟨rfl, rfl⟩ | ⟨h0, b, cap, rfl, hr⟩
  · exact refrats_nil w
  · exact refrats_any b cap ns w h0 h.len h.big hr
theorem few5_any (v v2 : Value) (l : List Iv) (ns : List Raw) (w : World) (h : IvsOk w v l) (h2 : NumsOk w v2 ns) : Calls Tryz.prog 5 #[v, v2] w (GivesB (fewI l && fewS ns) w) := by
  have hf := Lib.hid (refivs_any v l w h)
  have HN := Lib.hid h2
  obtain ⟨b1, hb1⟩ : ∃ b, b = fewI l := ⟨_, rfl⟩
  rw [← hb1] at hf ⊢
  clear h h2 hb1
  cases b1
  · go_enter Tryz.func5, Tryz.ntmps5
    go_wp2_with fail
    refine hf.out.mono ?_
    rintro e w1 ⟨rfl, hb⟩
    have HB := Lib.hid hb
    clear hb
    go_wp2_with fail
    go_ret
    exact ⟨rfl, HB.out⟩
  · go_enter Tryz.func5, Tryz.ntmps5
    go_wp2_with fail
    refine hf.out.mono ?_
    rintro e w1 ⟨rfl, hb⟩
    have HB := Lib.hid hb
    clear hb
    go_wp2_with fail
    refine (refnums_any v2 ns _ (HN.out.bel HB.out)).mono ?_
    rintro e w2 ⟨rfl, rfl⟩
    go_wp2_with fail
    go_ret
    exact ⟨by simp, HB.out⟩
end Go.Proofs.YtbcoblpnihdhgaaGreatDoor
