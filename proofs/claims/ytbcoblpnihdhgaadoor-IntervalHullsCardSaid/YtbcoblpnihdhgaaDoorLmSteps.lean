/-
  The walk of the program's stepsOf.
-/
import Derived.Test.YtbcoblpnihdhgaaDoorLmPlus
import Derived.Test.YtbcoblpnihdhgaaDoorLmLeh
set_option linter.unusedVariables false
set_option maxRecDepth 100000
namespace Go.Proofs.YtbcoblpnihdhgaaDoor
open Go.RowKit
def co (plus : Bool) (n : Nat) : Int := if plus then (n : Int) else -(n : Int)
/-- the four coefficients in memory -/
def FourAt (B : Nat) (a b c d : Int) (w : World) : Prop := w.heap[B]? = some (.cells #[.int .i64 a, .int .i64 b, .int .i64 c, .int .i64 d] 89 (0, 0))
theorem FourAt.c0 {B : Nat} {a b c d : Int} {w : World} (h : FourAt B a b c d w) : w.cell? ⟨B, 0, none⟩ = some (.int .i64 a) := by rw [Lib.cell_of_heap h]; rfl
theorem FourAt.c1 {B : Nat} {a b c d : Int} {w : World} (h : FourAt B a b c d w) : w.cell? ⟨B, 1, none⟩ = some (.int .i64 b) := by rw [Lib.cell_of_heap h]; rfl
theorem FourAt.c2 {B : Nat} {a b c d : Int} {w : World} (h : FourAt B a b c d w) : w.cell? ⟨B, 2, none⟩ = some (.int .i64 c) := by rw [Lib.cell_of_heap h]; rfl
theorem FourAt.c3 {B : Nat} {a b c d : Int} {w : World} (h : FourAt B a b c d w) : w.cell? ⟨B, 3, none⟩ = some (.int .i64 d) := by rw [Lib.cell_of_heap h]; rfl
theorem FourAt.fz {B : Nat} {a b c d : Int} {w : World} (h : FourAt B a b c d w) (j : Nat) : w.frozen? ⟨B, j, none⟩ = false := Lib.frozen_of_heap h j
theorem FourAt.set {B : Nat} {a b c d : Int} {w : World} (h : FourAt B a b c d w) (a' b' c' d' : Int) : FourAt B a' b' c' d' ((((w.setCell ⟨B, 0, none⟩ (.int .i64 a')).setCell ⟨B, 1, none⟩ (.int .i64 b')).setCell ⟨B, 2, none⟩ (.int .i64 c')).setCell ⟨B, 3, none⟩ (.int .i64 d')) := by
  unfold FourAt at h ⊢
  have h0 := heap_setCell_same w B 0 _ _ (.int .i64 a') h
  have h1 := heap_setCell_same _ B 1 _ _ (.int .i64 b') h0
  have h2 := heap_setCell_same _ B 2 _ _ (.int .i64 c') h1
  have h3 := heap_setCell_same _ B 3 _ _ (.int .i64 d') h2
  rw [h3]; rfl
theorem FourAt.lt {B : Nat} {a b c d : Int} {w : World} (h : FourAt B a b c d w) : B < w.heap.size := cell_lt h.c0
theorem FourAt.keep {B : Nat} {a b c d : Int} {w w' : World} (h : FourAt B a b c d w) (hb : w'.heap[B]? = w.heap[B]?) : FourAt B a b c d w' := hb.trans h
theorem four_other (w : World) {R B : Nat} (h : R ≠ B) (a b c d : Value) : ((((w.setCell ⟨B, 0, none⟩ a).setCell ⟨B, 1, none⟩ b).setCell ⟨B, 2, none⟩ c).setCell ⟨B, 3, none⟩ d).heap[R]? = w.heap[R]? :=
  (Below.heap_setCell _ _ _ _ h).trans ((Below.heap_setCell _ _ _ _ h).trans ((Below.heap_setCell _ _ _ _ h).trans (Below.heap_setCell _ _ _ _ h)))
/-- the worlds of stepsOf -/
structure StW (w : World) (R B : Nat) (a b c d : Int) (wr : World) : Prop where
  res : FourAt R 0 0 0 0 wr
  four : FourAt B a b c d wr
  bel : Below w.heap.size w wr
  hr : w.heap.size ≤ R
  hb : w.heap.size ≤ B
  ne : R ≠ B
/-- a state of the steps, first or later -/
structure StS (X Y x y p q r s : Nat) (plus : Bool) : Prop where
  leh : Lim.Leh X Y x y p q r s plus
  one : (plus = true ∧ p = 1 ∧ q = 0 ∧ r = 0 ∧ s = 1 ∧ x = X ∧ y = Y) ∨ Lim.Leh1 x y p q r s plus
  bp : p ≤ 1000000000
  bq : q ≤ 1000000000
  br : r ≤ 1000000000
  bs : s ≤ 1000000000
  bx : x < 1000000000000000000
  by_ : y < 1000000000000000000
/-- what stepsOf returns -/
def Steps (X Y : Nat) (e : Ending) : Prop := ∃ x y p q r s plus, e = .returned (.agg #[.int .i64 (co plus p), .int .i64 (co (!plus) q), .int .i64 (co (!plus) r), .int .i64 (co plus s)]) ∧ StS X Y x y p q r s plus
set_option maxHeartbeats 8000000 in
theorem stepsOf_any (X Y : Nat) (w : World) (hX : X < 1000000000000000000) (hY : Y < 1000000000000000000) :
    Calls Tryd.prog 64 #[.int .i64 (X : Int), .int .i64 (Y : Int)] w fun e w' => Steps X Y e ∧ Below w.heap.size w w' := by
  go_enter Tryd.func64, Tryd.ntmps64
  go_wp2_with fail
  obtain ⟨R, hR⟩ : ∃ R, R = w.heap.size := ⟨_, rfl⟩
  obtain ⟨B, hB⟩ : ∃ B, B = w.heap.size + 1 := ⟨_, rfl⟩
  obtain ⟨w1, hw1⟩ : ∃ w1, w1 = ((w.alloc (Obj.cells #[Value.int .i64 0, Value.int .i64 0, Value.int .i64 0, Value.int .i64 0] 89)).alloc (Obj.cells #[Value.int .i64 1, Value.int .i64 0, Value.int .i64 0, Value.int .i64 1] 89)) := ⟨_, rfl⟩
  have hW1 : Hid (StW w R B (co true 1) (co false 0) (co false 0) (co true 1) w1) := Lib.hid (by
    have h2 := heap_lastM (w.alloc (Obj.cells #[Value.int .i64 0, Value.int .i64 0, Value.int .i64 0, Value.int .i64 0] 89)) (Obj.cells #[Value.int .i64 1, Value.int .i64 0, Value.int .i64 0, Value.int .i64 1] 89)
    have h1 := (alloc_below (w.alloc (Obj.cells #[Value.int .i64 0, Value.int .i64 0, Value.int .i64 0, Value.int .i64 0] 89)) (Obj.cells #[Value.int .i64 1, Value.int .i64 0, Value.int .i64 0, Value.int .i64 1] 89)).block w.heap.size (by simp)
    rw [hw1]
    refine ⟨?_, ?_, ((Below.refl _ _).alloc (Nat.le_refl _) _).alloc (by simp) _, by omega, by omega, by omega⟩
    · rw [hR]; exact h1.trans (heap_lastM w _)
    · rw [hB]; unfold FourAt; rw [← show (w.alloc (Obj.cells #[Value.int .i64 0, Value.int .i64 0, Value.int .i64 0, Value.int .i64 0] 89)).heap.size = w.heap.size + 1 by simp]; exact h2)
  have hS1 : Hid (StS X Y X Y 1 0 0 1 true) := Lib.hid ⟨Lim.Leh.start X Y, .inl ⟨rfl, rfl, rfl, rfl, rfl, rfl, rfl⟩, by omega, by omega, by omega, by omega, hX, hY⟩
  rw [← hw1]
  simp only [← hB]
  simp only [← hR]
  clear hw1 hR hB
  go_loopw [0, 1] (fun xx yy wr => ∃ (x y p q r s : Nat) (plus : Bool), xx = .int .i64 (x : Int) ∧ yy = .int .i64 (y : Int) ∧ Hid (StS X Y x y p q r s plus) ∧ Hid (StW w R B (co plus p) (co (!plus) q) (co (!plus) r) (co plus s) wr)) (fun _ yy _ => (intOf yy).toNat)
  case atStart => exact ⟨X, Y, 1, 0, 0, 1, true, rfl, rfl, hS1, hW1⟩
  case round =>
    clear hS1 hW1
    obtain ⟨x, y, p, q, r, s, plus, rfl, rfl, hS, hW⟩ := hrel
    have bp := hS.out.bp
    have bq := hS.out.bq
    have br := hS.out.br
    have bs := hS.out.bs
    have bx := hS.out.bx
    have by' := hS.out.by_
    have hlo := hS.out.leh.lo
    have z0 := hW.out.res.c0
    have z1 := hW.out.res.c1
    have z2 := hW.out.res.c2
    have z3 := hW.out.res.c3
    have zf0 := hW.out.res.fz 0
    have zf1 := hW.out.res.fz 1
    have zf2 := hW.out.res.fz 2
    have zf3 := hW.out.res.fz 3
    have c0 := hW.out.four.c0
    have c1 := hW.out.four.c1
    have c2 := hW.out.four.c2
    have c3 := hW.out.four.c3
    have cf0 := hW.out.four.fz 0
    have cf1 := hW.out.four.fz 1
    have cf2 := hW.out.four.fz 2
    have cf3 := hW.out.four.fz 3
    cases plus with
    | true =>
      simp only [if_true] at hlo
      simp only [co, Bool.not_true, if_true, if_false, Bool.false_eq_true] at c0 c1 c2 c3
      obtain ⟨u1, hu1⟩ : ∃ u1 : Nat, u1 = y - r := ⟨_, rfl⟩
      obtain ⟨u2, hu2⟩ : ∃ u2 : Nat, u2 = y + s := ⟨_, rfl⟩
      obtain ⟨n1, hn1⟩ : ∃ n1 : Nat, n1 = x + p := ⟨_, rfl⟩
      obtain ⟨n2, hn2⟩ : ∃ n2 : Nat, n2 = x - q := ⟨_, rfl⟩
      have e1 : (y : Int) + -(r : Int) = (u1 : Int) := by omega
      have e2 : (y : Int) + (s : Int) = (u2 : Int) := by omega
      have e3 : (x : Int) + (p : Int) = (n1 : Int) := by omega
      have e4 : (x : Int) + -(q : Int) = (n2 : Int) := by omega
      have w1 : IntKind.i64.wrap (u1 : Int) = (u1 : Int) := IntWalk.i64_in _ (by omega)
      have w2 : IntKind.i64.wrap (u2 : Int) = (u2 : Int) := IntWalk.i64_in _ (by omega)
      have w3 : IntKind.i64.wrap (n1 : Int) = (n1 : Int) := IntWalk.i64_in _ (by omega)
      have w4 : IntKind.i64.wrap (n2 : Int) = (n2 : Int) := IntWalk.i64_in _ (by omega)
      by_cases k1 : u1 = 0
      · have k1' : ((u1 : Int) == 0) = true := by rw [k1]; rfl
        have k1'' : ((u1 : Int) != 0) = false := by rw [k1]; rfl
        clear hu1 hu2 hn1 hn2
        clear k1
        go_wp2_with fail
        have hfin := hW.out.res.set ((p : Int)) (-(q : Int)) (-(r : Int)) ((s : Int))
        (try simp only [Exit.inBlock, Exit.then])
        refine bodyPost_ret (results_cell_row rfl _ _ R 89 _ (0, 0) _ rfl hfin Tryd.underlying89 rfl (by kernel_rfl)) rfl ?_
        exact ⟨⟨x, y, p, q, r, s, true, rfl, hS.out⟩, (((hW.out.bel.setCell (p := ⟨R, 0, none⟩) hW.out.hr _).setCell (p := ⟨R, 1, none⟩) hW.out.hr _).setCell (p := ⟨R, 2, none⟩) hW.out.hr _).setCell (p := ⟨R, 3, none⟩) hW.out.hr _⟩
      by_cases k2 : u2 = 0
      · have k1'' : ((u1 : Int) != 0) = true := by simp [k1]
        have k2'' : ((u2 : Int) != 0) = false := by rw [k2]; rfl
        clear hu1 hu2 hn1 hn2
        clear k2
        go_wp2_with fail
        have hfin := hW.out.res.set ((p : Int)) (-(q : Int)) (-(r : Int)) ((s : Int))
        (try simp only [Exit.inBlock, Exit.then])
        refine bodyPost_ret (results_cell_row rfl _ _ R 89 _ (0, 0) _ rfl hfin Tryd.underlying89 rfl (by kernel_rfl)) rfl ?_
        exact ⟨⟨x, y, p, q, r, s, true, rfl, hS.out⟩, (((hW.out.bel.setCell (p := ⟨R, 0, none⟩) hW.out.hr _).setCell (p := ⟨R, 1, none⟩) hW.out.hr _).setCell (p := ⟨R, 2, none⟩) hW.out.hr _).setCell (p := ⟨R, 3, none⟩) hW.out.hr _⟩
      have k1'' : ((u1 : Int) != 0) = true := by simp [k1]
      have k2'' : ((u2 : Int) != 0) = true := by simp [k2]
      have k1' : ((u1 : Int) == 0) = false := beq_eq_false_iff_ne.2 (by omega)
      have k2' : ((u2 : Int) == 0) = false := beq_eq_false_iff_ne.2 (by omega)
      obtain ⟨k, hk⟩ : ∃ k, n1 / u1 = k := ⟨_, rfl⟩
      obtain ⟨m, hm⟩ : ∃ m, n2 / u2 = m := ⟨_, rfl⟩
      have hkn : k ≤ n1 := by rw [← hk]; exact Nat.div_le_self _ _
      have hmn : m ≤ n2 := by rw [← hm]; exact Nat.div_le_self _ _
      have d1 : ((n1 : Int)).tdiv (u1 : Int) = (k : Int) := by rw [Int.tdiv_eq_ediv_of_nonneg (by omega), ← hk]; exact (Int.natCast_ediv _ _).symm
      have d2 : ((n2 : Int)).tdiv (u2 : Int) = (m : Int) := by rw [Int.tdiv_eq_ediv_of_nonneg (by omega), ← hm]; exact (Int.natCast_ediv _ _).symm
      have w5 : IntKind.i64.wrap (k : Int) = (k : Int) := IntWalk.i64_in _ (by omega)
      have w6 : IntKind.i64.wrap (m : Int) = (m : Int) := IntWalk.i64_in _ (by omega)
      by_cases hkm : k = m
      · have hkm2 : ((k : Int) != (m : Int)) = false := by rw [hkm]; simp
        have hkm3 : ((k : Int) == (m : Int)) = true := by rw [hkm]; exact beq_self_eq_true _
        have hst := hS.out.leh.step_plus (k := k) (by omega) (by rw [← hk, hn1, hu1]) (by rw [hkm, ← hm, hn2, hu2]) (by rcases hS.out.one with h | h; exact .inl ⟨h.2.1, h.2.2.2.1⟩; exact .inr h) (by omega)
        obtain ⟨hky, hleh, hleh1⟩ := hst
        have hbd := hleh.bound hleh1 hX hY
        obtain ⟨kr, hkr⟩ : ∃ kr, kr = k * r := ⟨_, rfl⟩
        obtain ⟨ks, hks⟩ : ∃ ks, ks = k * s := ⟨_, rfl⟩
        obtain ⟨ky, hkyv⟩ : ∃ ky, ky = k * y := ⟨_, rfl⟩
        rw [← hkr, ← hks, ← hkyv] at hleh hleh1 
        rw [← hkr, ← hks] at hbd
        rw [← hkyv] at hky
        obtain ⟨r', hr'⟩ : ∃ r', r' = p + kr := ⟨_, rfl⟩
        obtain ⟨s', hs'⟩ : ∃ s', s' = q + ks := ⟨_, rfl⟩
        obtain ⟨y', hy'⟩ : ∃ y', y' = x - ky := ⟨_, rfl⟩
        rw [← hr', ← hs'] at hleh hleh1 hbd
        rw [← hy'] at hleh hleh1
        have g1 : (k : Int) * -(r : Int) = (-(kr : Int)) := by rw [hkr, Int.natCast_mul] <;> exact Int.mul_neg _ _
        have g2 : (k : Int) * (s : Int) = (ks : Int) := by rw [hks, Int.natCast_mul] <;> exact Int.mul_neg _ _
        have g3 : (k : Int) * (y : Int) = (ky : Int) := by rw [hkyv]; simp
        have g4 : IntKind.i64.wrap ((-(kr : Int))) = (-(kr : Int)) := IntWalk.i64_in _ (by omega)
        have g5 : IntKind.i64.wrap ((ks : Int)) = (ks : Int) := IntWalk.i64_in _ (by omega)
        have g6 : IntKind.i64.wrap (ky : Int) = (ky : Int) := IntWalk.i64_in _ (by omega)
        have g7 : (p : Int) - (-(kr : Int)) = (r' : Int) := by omega
        have g8 : -(q : Int) - (ks : Int) = (-(s' : Int)) := by omega
        have g9 : (x : Int) - (ky : Int) = (y' : Int) := by omega
        have g10 : IntKind.i64.wrap ((r' : Int)) = (r' : Int) := IntWalk.i64_in _ (by omega)
        have g11 : IntKind.i64.wrap ((-(s' : Int))) = (-(s' : Int)) := IntWalk.i64_in _ (by omega)
        have g12 : IntKind.i64.wrap (y' : Int) = (y' : Int) := IntWalk.i64_in _ (by omega)
        have hyd : y' < y := by
          have := hleh1.lt
          simp only [Bool.false_eq_true, if_false] at this
          omega
        have hSn : Hid (StS X Y y y' r s r' s' false) := Lib.hid ⟨hleh, .inr hleh1, br, bs, by omega, by omega, by', by omega⟩
        clear hkr hks hkyv hr' hs' hy' hleh hleh1 hbd hky hk hm hkm hu1 hu2 hn1 hn2
        go_wp2_with fail
        refine ⟨⟨y, y', r, s, r', s', false, rfl, rfl, hSn, Lib.hid ?_⟩, by simp [intOf]; omega⟩
        exact ⟨(hW.out.res.keep (four_other wr hW.out.ne _ _ _ _)), hW.out.four.set _ _ _ _, (((hW.out.bel.setCell (p := ⟨B, 0, none⟩) hW.out.hb _).setCell (p := ⟨B, 1, none⟩) hW.out.hb _).setCell (p := ⟨B, 2, none⟩) hW.out.hb _).setCell (p := ⟨B, 3, none⟩) hW.out.hb _, hW.out.hr, hW.out.hb, hW.out.ne⟩
      · have hkm2 : ((k : Int) != (m : Int)) = true := by simp; omega
        have hkm3 : ((k : Int) == (m : Int)) = false := beq_eq_false_iff_ne.2 (by omega)
        clear hu1 hu2 hn1 hn2
        clear hk hm hkm
        go_wp2_with fail
        have hfin := hW.out.res.set ((p : Int)) (-(q : Int)) (-(r : Int)) ((s : Int))
        (try simp only [Exit.inBlock, Exit.then])
        refine bodyPost_ret (results_cell_row rfl _ _ R 89 _ (0, 0) _ rfl hfin Tryd.underlying89 rfl (by kernel_rfl)) rfl ?_
        exact ⟨⟨x, y, p, q, r, s, true, rfl, hS.out⟩, (((hW.out.bel.setCell (p := ⟨R, 0, none⟩) hW.out.hr _).setCell (p := ⟨R, 1, none⟩) hW.out.hr _).setCell (p := ⟨R, 2, none⟩) hW.out.hr _).setCell (p := ⟨R, 3, none⟩) hW.out.hr _⟩
    | false =>
      simp only [Bool.false_eq_true, if_false] at hlo
      simp only [co, Bool.not_false, if_true, if_false, Bool.false_eq_true] at c0 c1 c2 c3
      obtain ⟨u1, hu1⟩ : ∃ u1 : Nat, u1 = y + r := ⟨_, rfl⟩
      obtain ⟨u2, hu2⟩ : ∃ u2 : Nat, u2 = y - s := ⟨_, rfl⟩
      obtain ⟨n1, hn1⟩ : ∃ n1 : Nat, n1 = x - p := ⟨_, rfl⟩
      obtain ⟨n2, hn2⟩ : ∃ n2 : Nat, n2 = x + q := ⟨_, rfl⟩
      have e1 : (y : Int) + (r : Int) = (u1 : Int) := by omega
      have e2 : (y : Int) + -(s : Int) = (u2 : Int) := by omega
      have e3 : (x : Int) + -(p : Int) = (n1 : Int) := by omega
      have e4 : (x : Int) + (q : Int) = (n2 : Int) := by omega
      have w1 : IntKind.i64.wrap (u1 : Int) = (u1 : Int) := IntWalk.i64_in _ (by omega)
      have w2 : IntKind.i64.wrap (u2 : Int) = (u2 : Int) := IntWalk.i64_in _ (by omega)
      have w3 : IntKind.i64.wrap (n1 : Int) = (n1 : Int) := IntWalk.i64_in _ (by omega)
      have w4 : IntKind.i64.wrap (n2 : Int) = (n2 : Int) := IntWalk.i64_in _ (by omega)
      by_cases k1 : u1 = 0
      · have k1' : ((u1 : Int) == 0) = true := by rw [k1]; rfl
        have k1'' : ((u1 : Int) != 0) = false := by rw [k1]; rfl
        clear hu1 hu2 hn1 hn2
        clear k1
        go_wp2_with fail
        have hfin := hW.out.res.set (-(p : Int)) ((q : Int)) ((r : Int)) (-(s : Int))
        (try simp only [Exit.inBlock, Exit.then])
        refine bodyPost_ret (results_cell_row rfl _ _ R 89 _ (0, 0) _ rfl hfin Tryd.underlying89 rfl (by kernel_rfl)) rfl ?_
        exact ⟨⟨x, y, p, q, r, s, false, rfl, hS.out⟩, (((hW.out.bel.setCell (p := ⟨R, 0, none⟩) hW.out.hr _).setCell (p := ⟨R, 1, none⟩) hW.out.hr _).setCell (p := ⟨R, 2, none⟩) hW.out.hr _).setCell (p := ⟨R, 3, none⟩) hW.out.hr _⟩
      by_cases k2 : u2 = 0
      · have k1'' : ((u1 : Int) != 0) = true := by simp [k1]
        have k2'' : ((u2 : Int) != 0) = false := by rw [k2]; rfl
        clear hu1 hu2 hn1 hn2
        clear k2
        go_wp2_with fail
        have hfin := hW.out.res.set (-(p : Int)) ((q : Int)) ((r : Int)) (-(s : Int))
        (try simp only [Exit.inBlock, Exit.then])
        refine bodyPost_ret (results_cell_row rfl _ _ R 89 _ (0, 0) _ rfl hfin Tryd.underlying89 rfl (by kernel_rfl)) rfl ?_
        exact ⟨⟨x, y, p, q, r, s, false, rfl, hS.out⟩, (((hW.out.bel.setCell (p := ⟨R, 0, none⟩) hW.out.hr _).setCell (p := ⟨R, 1, none⟩) hW.out.hr _).setCell (p := ⟨R, 2, none⟩) hW.out.hr _).setCell (p := ⟨R, 3, none⟩) hW.out.hr _⟩
      have k1'' : ((u1 : Int) != 0) = true := by simp [k1]
      have k2'' : ((u2 : Int) != 0) = true := by simp [k2]
      have k1' : ((u1 : Int) == 0) = false := beq_eq_false_iff_ne.2 (by omega)
      have k2' : ((u2 : Int) == 0) = false := beq_eq_false_iff_ne.2 (by omega)
      obtain ⟨k, hk⟩ : ∃ k, n1 / u1 = k := ⟨_, rfl⟩
      obtain ⟨m, hm⟩ : ∃ m, n2 / u2 = m := ⟨_, rfl⟩
      have hkn : k ≤ n1 := by rw [← hk]; exact Nat.div_le_self _ _
      have hmn : m ≤ n2 := by rw [← hm]; exact Nat.div_le_self _ _
      have d1 : ((n1 : Int)).tdiv (u1 : Int) = (k : Int) := by rw [Int.tdiv_eq_ediv_of_nonneg (by omega), ← hk]; exact (Int.natCast_ediv _ _).symm
      have d2 : ((n2 : Int)).tdiv (u2 : Int) = (m : Int) := by rw [Int.tdiv_eq_ediv_of_nonneg (by omega), ← hm]; exact (Int.natCast_ediv _ _).symm
      have w5 : IntKind.i64.wrap (k : Int) = (k : Int) := IntWalk.i64_in _ (by omega)
      have w6 : IntKind.i64.wrap (m : Int) = (m : Int) := IntWalk.i64_in _ (by omega)
      by_cases hkm : k = m
      · have hkm2 : ((k : Int) != (m : Int)) = false := by rw [hkm]; simp
        have hkm3 : ((k : Int) == (m : Int)) = true := by rw [hkm]; exact beq_self_eq_true _
        have hst := hS.out.leh.step_minus (k := k) (by omega) (by rw [← hk, hn1, hu1]) (by rw [hkm, ← hm, hn2, hu2]) (by rcases hS.out.one with h | h; exact absurd h.1 (by decide); exact h)
        obtain ⟨hky, hleh, hleh1⟩ := hst
        have hbd := hleh.bound hleh1 hX hY
        obtain ⟨kr, hkr⟩ : ∃ kr, kr = k * r := ⟨_, rfl⟩
        obtain ⟨ks, hks⟩ : ∃ ks, ks = k * s := ⟨_, rfl⟩
        obtain ⟨ky, hkyv⟩ : ∃ ky, ky = k * y := ⟨_, rfl⟩
        rw [← hkr, ← hks, ← hkyv] at hleh hleh1 
        rw [← hkr, ← hks] at hbd
        rw [← hkyv] at hky
        obtain ⟨r', hr'⟩ : ∃ r', r' = p + kr := ⟨_, rfl⟩
        obtain ⟨s', hs'⟩ : ∃ s', s' = q + ks := ⟨_, rfl⟩
        obtain ⟨y', hy'⟩ : ∃ y', y' = x - ky := ⟨_, rfl⟩
        rw [← hr', ← hs'] at hleh hleh1 hbd
        rw [← hy'] at hleh hleh1
        have g1 : (k : Int) * (r : Int) = (kr : Int) := by rw [hkr, Int.natCast_mul] <;> exact Int.mul_neg _ _
        have g2 : (k : Int) * -(s : Int) = (-(ks : Int)) := by rw [hks, Int.natCast_mul] <;> exact Int.mul_neg _ _
        have g3 : (k : Int) * (y : Int) = (ky : Int) := by rw [hkyv]; simp
        have g4 : IntKind.i64.wrap ((kr : Int)) = (kr : Int) := IntWalk.i64_in _ (by omega)
        have g5 : IntKind.i64.wrap ((-(ks : Int))) = (-(ks : Int)) := IntWalk.i64_in _ (by omega)
        have g6 : IntKind.i64.wrap (ky : Int) = (ky : Int) := IntWalk.i64_in _ (by omega)
        have g7 : -(p : Int) - (kr : Int) = (-(r' : Int)) := by omega
        have g8 : (q : Int) - (-(ks : Int)) = (s' : Int) := by omega
        have g9 : (x : Int) - (ky : Int) = (y' : Int) := by omega
        have g10 : IntKind.i64.wrap ((-(r' : Int))) = (-(r' : Int)) := IntWalk.i64_in _ (by omega)
        have g11 : IntKind.i64.wrap ((s' : Int)) = (s' : Int) := IntWalk.i64_in _ (by omega)
        have g12 : IntKind.i64.wrap (y' : Int) = (y' : Int) := IntWalk.i64_in _ (by omega)
        have hyd : y' < y := by
          have := hleh1.lt
          simp only [if_true] at this
          omega
        have hSn : Hid (StS X Y y y' r s r' s' true) := Lib.hid ⟨hleh, .inr hleh1, br, bs, by omega, by omega, by', by omega⟩
        clear hkr hks hkyv hr' hs' hy' hleh hleh1 hbd hky hk hm hkm hu1 hu2 hn1 hn2
        go_wp2_with fail
        refine ⟨⟨y, y', r, s, r', s', true, rfl, rfl, hSn, Lib.hid ?_⟩, by simp [intOf]; omega⟩
        exact ⟨(hW.out.res.keep (four_other wr hW.out.ne _ _ _ _)), hW.out.four.set _ _ _ _, (((hW.out.bel.setCell (p := ⟨B, 0, none⟩) hW.out.hb _).setCell (p := ⟨B, 1, none⟩) hW.out.hb _).setCell (p := ⟨B, 2, none⟩) hW.out.hb _).setCell (p := ⟨B, 3, none⟩) hW.out.hb _, hW.out.hr, hW.out.hb, hW.out.ne⟩
      · have hkm2 : ((k : Int) != (m : Int)) = true := by simp; omega
        have hkm3 : ((k : Int) == (m : Int)) = false := beq_eq_false_iff_ne.2 (by omega)
        clear hu1 hu2 hn1 hn2
        clear hk hm hkm
        go_wp2_with fail
        have hfin := hW.out.res.set (-(p : Int)) ((q : Int)) ((r : Int)) (-(s : Int))
        (try simp only [Exit.inBlock, Exit.then])
        refine bodyPost_ret (results_cell_row rfl _ _ R 89 _ (0, 0) _ rfl hfin Tryd.underlying89 rfl (by kernel_rfl)) rfl ?_
        exact ⟨⟨x, y, p, q, r, s, false, rfl, hS.out⟩, (((hW.out.bel.setCell (p := ⟨R, 0, none⟩) hW.out.hr _).setCell (p := ⟨R, 1, none⟩) hW.out.hr _).setCell (p := ⟨R, 2, none⟩) hW.out.hr _).setCell (p := ⟨R, 3, none⟩) hW.out.hr _⟩
end Go.Proofs.YtbcoblpnihdhgaaDoor
