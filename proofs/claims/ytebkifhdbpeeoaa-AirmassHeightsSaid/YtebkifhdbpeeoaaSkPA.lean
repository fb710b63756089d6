/-
  The program's sky (layer 10): pairs of numbers.
-/
import Derived.Test.YtebkifhdbpeeoaaSkRefC
import Derived.Laws.EntriesVeiled
set_option linter.unusedVariables false
set_option maxRecDepth 100000
namespace Go.Proofs.Ytebkifhdbpeeoaa.Sk
open Go.RowKit
/-- a pair in a block -/
structure PairAt (B : Nat) (x y : Int) (w : World) : Prop where
  cells : w.heap[B]? = some (.cells #[.int .i64 x, .int .i64 y] 55 (0, 0))
theorem PairAt.new (w : World) (x y : Int) : PairAt w.heap.size x y (w.alloc (Obj.cells #[.int .i64 x, .int .i64 y] 55)) := ⟨heap_lastS _ _⟩
theorem PairAt.new' {w : World} {B : Nat} (h : B = w.heap.size) (x y : Int) : PairAt B x y (w.alloc (Obj.cells #[.int .i64 x, .int .i64 y] 55)) := by subst h; exact PairAt.new w x y
theorem PairAt.bel {B : Nat} {x y : Int} {w w' : World} (h : PairAt B x y w) (hb : Below w.heap.size w w') : PairAt B x y w' := ⟨(hb.block _ (blk_ltS h.cells)).trans h.cells⟩
theorem PairAt.lt {B : Nat} {x y : Int} {w : World} (h : PairAt B x y w) : B < w.heap.size := blk_ltS h.cells
theorem PairAt.c0 {B : Nat} {x y : Int} {w : World} (h : PairAt B x y w) : w.cell? ⟨B, 0, none⟩ = some (.int .i64 x) := by rw [Lib.cell_of_heap h.cells]; rfl
theorem PairAt.c1 {B : Nat} {x y : Int} {w : World} (h : PairAt B x y w) : w.cell? ⟨B, 1, none⟩ = some (.int .i64 y) := by rw [Lib.cell_of_heap h.cells]; rfl
theorem PairAt.fz {B : Nat} {x y : Int} {w : World} (h : PairAt B x y w) (k : Nat) : w.frozen? ⟨B, k, none⟩ = false := Lib.frozen_of_heap h.cells k
theorem PairAt.set0 {B : Nat} {x y : Int} {w : World} (h : PairAt B x y w) (u : Int) : PairAt B u y (w.setCell ⟨B, 0, none⟩ (.int .i64 u)) :=
  ⟨heap_setS w B 0 _ _ (.int .i64 u) h.cells⟩
theorem PairAt.set1 {B : Nat} {x y : Int} {w : World} (h : PairAt B x y w) (u : Int) : PairAt B x u (w.setCell ⟨B, 1, none⟩ (.int .i64 u)) :=
  ⟨heap_setS w B 1 _ _ (.int .i64 u) h.cells⟩
theorem PairAt.set {B : Nat} {x y : Int} {w : World} (h : PairAt B x y w) (u v : Int) : PairAt B u v ((w.setCell ⟨B, 0, none⟩ (.int .i64 u)).setCell ⟨B, 1, none⟩ (.int .i64 v)) := (h.set0 u).set1 v
theorem PairAt.oth {B C : Nat} {x y : Int} {w : World} (h : PairAt B x y w) (hn : C ≠ B) (k : Nat) (v : Value) : PairAt B x y (w.setCell ⟨C, k, none⟩ v) := by
  refine ⟨Eq.trans ?_ h.cells⟩
  show (w.heap.modify C _)[B]? = w.heap[B]?
  rw [Array.getElem?_modify, if_neg hn]
theorem results_pair {fn : Func} {p q : Tmp} (h : fn.results = #[.cell p 55, .tmp q]) (tmps : Array Value) (w : World) (g : Nat) (x y : Int) (v : Value)
    (hp : tmps.getD p undef = .pointer (some ⟨g, 0, none⟩)) (hq : tmps.getD q undef = v) (hg : PairAt g x y w) :
    (results fn tmps).run Try.prog w = .ok (.tuple #[.agg #[.int .i64 x, .int .i64 y], v]) w := by
  have hp' : tmps[p]?.getD undef = .pointer (some ⟨g, 0, none⟩) := by simpa using hp
  have hq' : tmps[q]?.getD undef = v := by simpa using hq
  have k0 := hg.c0
  have k1 := hg.c1
  simp [results, h, hp', hq', asAddr, loadVar, go_sem, k0, k1]
theorem results_pair1 {fn : Func} {p : Tmp} (h : fn.results = #[.cell p 55]) (tmps : Array Value) (w : World) (g : Nat) (x y : Int)
    (hp : tmps.getD p undef = .pointer (some ⟨g, 0, none⟩)) (hg : PairAt g x y w) :
    (results fn tmps).run Try.prog w = .ok (.agg #[.int .i64 x, .int .i64 y]) w := by
  have hp' : tmps[p]?.getD undef = .pointer (some ⟨g, 0, none⟩) := by simpa using hp
  have k0 := hg.c0
  have k1 := hg.c1
  simp [results, h, hp', asAddr, loadVar, go_sem, k0, k1]
/-- a pair -/
def GivesPr (x y : Int) (w : World) (en : Ending) (w' : World) : Prop := en = .returned (.agg #[.int .i64 x, .int .i64 y]) ∧ Below w.heap.size w w'
theorem pplace_ok (t : Nat) (ht : t < 512) (w : World) : Calls Try.prog 39 #[.int .i64 (t : Int)] w (GivesP ((t % 32 : Nat) : Int) ((t / 32 : Nat) : Int) 0 w) := by
  have t1 : decide ((t : Int) < 0) = false := decide_eq_false (by omega)
  have t2 : decide (512 ≤ (t : Int)) = false := decide_eq_false (by omega)
  have t3 : decide (512 ≤ t) = false := decide_eq_false (by omega)
  have e1 : Int.tmod (t : Int) 32 = ((t % 32 : Nat) : Int) := by rw [Int.tmod_eq_emod_of_nonneg (by omega)]; omega
  have e2 : Int.tdiv (t : Int) 32 = ((t / 32 : Nat) : Int) := by rw [Int.tdiv_eq_ediv_of_nonneg (by omega)]; omega
  have f1 : IntKind.i64.wrap ((t % 32 : Nat) : Int) = ((t % 32 : Nat) : Int) := IntWalk.i64_in _ (by omega)
  have f2 : IntKind.i64.wrap ((t / 32 : Nat) : Int) = ((t / 32 : Nat) : Int) := IntWalk.i64_in _ (by omega)
  generalize t % 32 = c at *
  generalize t / 32 = b at *
  go_enter Try.func39, Try.ntmps39
  go_wp2_with fail
  refine bodyPost_ret (results_pair rfl _ _ w.heap.size _ _ _ rfl rfl (PairAt.new w _ _)) rfl ?_
  exact ⟨rfl, (Below.refl _ _).alloc (Nat.le_refl _) _⟩
theorem pplace_no (t : Int) (ht : isT t = false) (w : World) : Calls Try.prog 39 #[.int .i64 t] w (GivesP 0 0 1 w) := by
  have HT : ¬ (0 ≤ t ∧ t < 512) := by simpa [isT] using ht
  clear ht
  by_cases h1 : t < 0
  · have t1 : decide (t < 0) = true := decide_eq_true h1
    go_enter Try.func39, Try.ntmps39
    go_wp2_with fail
    refine bodyPost_ret (results_pair rfl _ _ w.heap.size _ _ _ rfl rfl (PairAt.new w _ _)) rfl ?_
    exact ⟨rfl, (Below.refl _ _).alloc (Nat.le_refl _) _⟩
  · have t1 : decide (t < 0) = false := decide_eq_false h1
    have t2 : decide (512 ≤ t) = true := decide_eq_true (by omega)
    clear HT h1
    go_enter Try.func39, Try.ntmps39
    go_wp2_with fail
    refine bodyPost_ret (results_pair rfl _ _ w.heap.size _ _ _ rfl rfl (PairAt.new w _ _)) rfl ?_
    exact ⟨rfl, (Below.refl _ _).alloc (Nat.le_refl _) _⟩
theorem pboth1 (F : Nat) (p : Value) (x y : Int) (w : World)
    (hcf : ∀ (i : Int) (w' : World), (callFunc F #[.int .i64 i, p]).run Try.prog w' = .ok (.enter F #[.int .i64 i, p]) w')
    (h0 : ∀ w', Below w.heap.size w w' → Calls Try.prog F #[.int .i64 0, p] w' fun e w'' => e = .returned (.int .i64 x) ∧ Below w'.heap.size w' w'')
    (h1 : ∀ w', Below w.heap.size w w' → Calls Try.prog F #[.int .i64 1, p] w' fun e w'' => e = .returned (.int .i64 y) ∧ Below w'.heap.size w' w'') :
    Calls Try.prog 40 #[.func (.func F) #[] #[p]] w (GivesPr x y w) := by
  have hcf0 := hcf 0
  have hcf1 := hcf 1
  have H0 := Lib.hid h0
  have H1 := Lib.hid h1
  clear h0 h1 hcf
  have W0 := Lib.hid (PairAt.new w 0 0)
  have D0 := Lib.hid ((Below.refl w.heap.size w).alloc (Nat.le_refl _) (Obj.cells #[.int .i64 0, .int .i64 0] 55))
  have D1 := Lib.hid (D0.out.alloc (by simp) (Obj.cells #[.int .i64 0, .int .i64 0] 55))
  have R1 := Lib.hid (PairAt.bel W0.out ((Below.refl _ _).alloc (Nat.le_refl _) (Obj.cells #[.int .i64 0, .int .i64 0] 55)))
  have P1 := Lib.hid (PairAt.new' (w := w.alloc (Obj.cells #[.int .i64 0, .int .i64 0] 55)) (B := w.heap.size + 1) (by simp) 0 0)
  clear W0 D0
  go_enter Try.func40, Try.ntmps40
  go_wp2_with fail
  go_loopw [5] (fun i wr => ((i = .int .i64 0 ∧ Hid (PairAt (w.heap.size + 1) 0 0 wr)) ∨ (i = .int .i64 1 ∧ Hid (PairAt (w.heap.size + 1) x 0 wr)) ∨ (i = .int .i64 2 ∧ Hid (PairAt (w.heap.size + 1) x y wr))) ∧ Hid (PairAt w.heap.size 0 0 wr) ∧ Hid (Below w.heap.size w wr)) (fun i _ => 2 - (intOf i).toNat)
  case atStart => exact ⟨.inl ⟨rfl, P1⟩, R1, D1⟩
  case round =>
    obtain ⟨hc, hR, hD⟩ := hrel
    clear P1 R1 D1
    rcases hc with ⟨rfl, hP⟩ | ⟨rfl, hP⟩ | ⟨rfl, hP⟩
    · go_wp2_with fail
      refine (H0.out wr hD.out).mono ?_
      rintro e w1 ⟨rfl, hb⟩
      have P2 := Lib.hid (hP.out.bel hb)
      have R2 := Lib.hid (hR.out.bel hb)
      have D2 := Lib.hid (hD.out.trans (hb.mono hD.out.size))
      have f0 := P2.out.fz 0
      have c0 := P2.out.c0
      clear hb hP hR hD
      go_wp2_with fail
      go_roundw
      case rel => exact ⟨.inr (.inl ⟨by go_num, Lib.hid (P2.out.set0 _)⟩), Lib.hid (R2.out.oth (by omega) _ _), Lib.hid (D2.out.setCell (p := ⟨w.heap.size + 1, 0, none⟩) (Nat.le_succ _) _)⟩
      case measure => simp [intOf]
    · go_wp2_with fail
      refine (H1.out wr hD.out).mono ?_
      rintro e w1 ⟨rfl, hb⟩
      have P2 := Lib.hid (hP.out.bel hb)
      have R2 := Lib.hid (hR.out.bel hb)
      have D2 := Lib.hid (hD.out.trans (hb.mono hD.out.size))
      have f1 := P2.out.fz 1
      have c1 := P2.out.c1
      clear hb hP hR hD
      go_wp2_with fail
      go_roundw
      case rel => exact ⟨.inr (.inr ⟨by go_num, Lib.hid (P2.out.set1 _)⟩), Lib.hid (R2.out.oth (by omega) _ _), Lib.hid (D2.out.setCell (p := ⟨w.heap.size + 1, 1, none⟩) (Nat.le_succ _) _)⟩
      case measure => simp [intOf]
    · have c0 := hP.out.c0
      have c1 := hP.out.c1
      have k0 := hR.out.c0
      have k1 := hR.out.c1
      have f0 := hR.out.fz 0
      have f1 := hR.out.fz 1
      go_wp2_with fail
      refine bodyPost_ret (results_pair1 rfl _ _ w.heap.size _ _ rfl (hR.out.set _ _)) rfl ?_
      exact ⟨rfl, (hD.out.setCell (p := ⟨w.heap.size, 0, none⟩) (Nat.le_refl _) _).setCell (p := ⟨w.heap.size, 1, none⟩) (Nat.le_refl _) _⟩
theorem pboth2 (F : Nat) (p q : Value) (x y : Int) (w : World)
    (hcf : ∀ (i : Int) (w' : World), (callFunc F #[.int .i64 i, p, q]).run Try.prog w' = .ok (.enter F #[.int .i64 i, p, q]) w')
    (h0 : ∀ w', Below w.heap.size w w' → Calls Try.prog F #[.int .i64 0, p, q] w' fun e w'' => e = .returned (.int .i64 x) ∧ Below w'.heap.size w' w'')
    (h1 : ∀ w', Below w.heap.size w w' → Calls Try.prog F #[.int .i64 1, p, q] w' fun e w'' => e = .returned (.int .i64 y) ∧ Below w'.heap.size w' w'') :
    Calls Try.prog 40 #[.func (.func F) #[] #[p, q]] w (GivesPr x y w) := by
  have hcf0 := hcf 0
  have hcf1 := hcf 1
  have H0 := Lib.hid h0
  have H1 := Lib.hid h1
  clear h0 h1 hcf
  have W0 := Lib.hid (PairAt.new w 0 0)
  have D0 := Lib.hid ((Below.refl w.heap.size w).alloc (Nat.le_refl _) (Obj.cells #[.int .i64 0, .int .i64 0] 55))
  have D1 := Lib.hid (D0.out.alloc (by simp) (Obj.cells #[.int .i64 0, .int .i64 0] 55))
  have R1 := Lib.hid (PairAt.bel W0.out ((Below.refl _ _).alloc (Nat.le_refl _) (Obj.cells #[.int .i64 0, .int .i64 0] 55)))
  have P1 := Lib.hid (PairAt.new' (w := w.alloc (Obj.cells #[.int .i64 0, .int .i64 0] 55)) (B := w.heap.size + 1) (by simp) 0 0)
  clear W0 D0
  go_enter Try.func40, Try.ntmps40
  go_wp2_with fail
  go_loopw [5] (fun i wr => ((i = .int .i64 0 ∧ Hid (PairAt (w.heap.size + 1) 0 0 wr)) ∨ (i = .int .i64 1 ∧ Hid (PairAt (w.heap.size + 1) x 0 wr)) ∨ (i = .int .i64 2 ∧ Hid (PairAt (w.heap.size + 1) x y wr))) ∧ Hid (PairAt w.heap.size 0 0 wr) ∧ Hid (Below w.heap.size w wr)) (fun i _ => 2 - (intOf i).toNat)
  case atStart => exact ⟨.inl ⟨rfl, P1⟩, R1, D1⟩
  case round =>
    obtain ⟨hc, hR, hD⟩ := hrel
    clear P1 R1 D1
    rcases hc with ⟨rfl, hP⟩ | ⟨rfl, hP⟩ | ⟨rfl, hP⟩
    · go_wp2_with fail
      refine (H0.out wr hD.out).mono ?_
      rintro e w1 ⟨rfl, hb⟩
      have P2 := Lib.hid (hP.out.bel hb)
      have R2 := Lib.hid (hR.out.bel hb)
      have D2 := Lib.hid (hD.out.trans (hb.mono hD.out.size))
      have f0 := P2.out.fz 0
      have c0 := P2.out.c0
      clear hb hP hR hD
      go_wp2_with fail
      go_roundw
      case rel => exact ⟨.inr (.inl ⟨by go_num, Lib.hid (P2.out.set0 _)⟩), Lib.hid (R2.out.oth (by omega) _ _), Lib.hid (D2.out.setCell (p := ⟨w.heap.size + 1, 0, none⟩) (Nat.le_succ _) _)⟩
      case measure => simp [intOf]
    · go_wp2_with fail
      refine (H1.out wr hD.out).mono ?_
      rintro e w1 ⟨rfl, hb⟩
      have P2 := Lib.hid (hP.out.bel hb)
      have R2 := Lib.hid (hR.out.bel hb)
      have D2 := Lib.hid (hD.out.trans (hb.mono hD.out.size))
      have f1 := P2.out.fz 1
      have c1 := P2.out.c1
      clear hb hP hR hD
      go_wp2_with fail
      go_roundw
      case rel => exact ⟨.inr (.inr ⟨by go_num, Lib.hid (P2.out.set1 _)⟩), Lib.hid (R2.out.oth (by omega) _ _), Lib.hid (D2.out.setCell (p := ⟨w.heap.size + 1, 1, none⟩) (Nat.le_succ _) _)⟩
      case measure => simp [intOf]
    · have c0 := hP.out.c0
      have c1 := hP.out.c1
      have k0 := hR.out.c0
      have k1 := hR.out.c1
      have f0 := hR.out.fz 0
      have f1 := hR.out.fz 1
      go_wp2_with fail
      refine bodyPost_ret (results_pair1 rfl _ _ w.heap.size _ _ rfl (hR.out.set _ _)) rfl ?_
      exact ⟨rfl, (hD.out.setCell (p := ⟨w.heap.size, 0, none⟩) (Nat.le_refl _) _).setCell (p := ⟨w.heap.size, 1, none⟩) (Nat.le_refl _) _⟩
end Go.Proofs.Ytebkifhdbpeeoaa.Sk
