/-
  The program's rational package: a computation that keeps its first error (require, do, result).
-/
import Derived.Test.YtbcoblpnihdhgaaDoorRmPure
import Derived.Test.YtbcoblpnihdhgaaDoorRmNat
import Derived.Test.YtbcoblpnihdhgaaDoorLmA
import Derived.Laws.StructEq
import Derived.Test.YtbcoblpnihdhgaaDoorLmPlus
import Derived.Deep.RegionHeld3
set_option linter.unusedVariables false
set_option maxRecDepth 100000
namespace Go.Proofs.YtbcoblpnihdhgaaDoor
open Go.RowKit
open Rt

/-- the error that a computation keeps lies in a block -/
structure CompAt (B : Nat) (e : Int) (w : World) : Prop where
  cells : w.heap[B]? = some (.cells #[.int .i64 e] 56 (0, 0))
theorem blk_lt {w : World} {b : Nat} {o : Obj} (h : w.heap[b]? = some o) : b < w.heap.size := by
  rcases Nat.lt_or_ge b w.heap.size with h' | h'
  · exact h'
  · simp [Array.getElem?_eq_none h'] at h
theorem CompAt.lt {B : Nat} {e : Int} {w : World} (h : CompAt B e w) : B < w.heap.size := blk_lt h.cells
theorem CompAt.cell {B : Nat} {e : Int} {w : World} (h : CompAt B e w) : w.cell? ⟨B, 0, none⟩ = some (.int .i64 e) := by rw [Lib.cell_of_heap h.cells]; rfl
theorem CompAt.froz {B : Nat} {e : Int} {w : World} (h : CompAt B e w) : w.frozen? ⟨B, 0, none⟩ = false := Lib.frozen_of_heap h.cells 0
theorem CompAt.bel {B : Nat} {e : Int} {w w' : World} (h : CompAt B e w) (hb : Below w.heap.size w w') : CompAt B e w' := ⟨(hb.block _ h.lt).trans h.cells⟩
theorem CompAt.set {B : Nat} {e : Int} {w : World} (h : CompAt B e w) (u : Int) : CompAt B u (w.setCell ⟨B, 0, none⟩ (.int .i64 u)) :=
  ⟨by rw [heap_setCell_same w _ 0 _ _ _ h.cells]; rfl⟩
theorem CompAt.bes {B C : Nat} {e : Int} {w w' : World} (h : CompAt B e w) (hb : Bes C w w') (hne : B ≠ C) : CompAt B e w' := ⟨(hb.block _ h.lt hne).trans h.cells⟩
theorem prequire_any (B : Nat) (e : Int) (c : Bool) (er : Int) (w : World) (h : CompAt B e w) :
    Calls Tryd.prog 38 #[.pointer (some ⟨B, 0, none⟩), .bool c, .int .i64 er] w fun en w' => en = .returned (.tuple #[]) ∧ CompAt B (reqR e c er) w' ∧ Bes B w w' := by
  have c0 := h.cell
  have f0 := h.froz
  have HR := Lib.hid h
  clear h
  by_cases he : e = 0
  · subst he
    cases c with
    | true =>
      go_enter Tryd.func38, Tryd.ntmps38
      go_wp2_with fail
      go_end0
      exact ⟨rfl, by rw [req_ok rfl]; exact HR.out, Bes.refl _ _⟩
    | false =>
      go_enter Tryd.func38, Tryd.ntmps38
      go_wp2_with fail
      go_end0
      exact ⟨rfl, by rw [req_bad rfl]; exact HR.out.set _, Bes.set _ _ _ _⟩
  · have t0 : ((e : Int) == 0) = false := beq_eq_false_iff_ne.2 he
    have e0 : reqR e c er = e := req_err he
    rw [e0]
    clear he e0
    go_enter Tryd.func38, Tryd.ntmps38
    go_wp2_with fail
    go_end0
    exact ⟨rfl, HR.out, Bes.refl _ _⟩
/-- a step of a computation has been done -/
def Did (B : Nat) (r : ByteArray × Int) (w : World) (en : Ending) (w' : World) : Prop := en = .returned (.string r.1) ∧ CompAt B r.2 w' ∧ Bes B w w'
theorem pdo_err (B : Nat) (e : Int) (F : Value) (a b : ByteArray) (w : World) (h : CompAt B e w) (he : e ≠ 0) :
    Calls Tryd.prog 40 #[.pointer (some ⟨B, 0, none⟩), F, .string a, .string b] w (Did B (⟨#[]⟩, e) w) := by
  have c0 := h.cell
  have t0 : ((e : Int) != 0) = true := by simpa using he
  have HR := Lib.hid h
  clear h he
  go_enter Tryd.func40, Tryd.ntmps40
  go_wp2_with fail
  go_ret
  exact ⟨rfl, HR.out, Bes.refl _ _⟩
theorem pdo_go (B F : Nat) (op : ByteArray → ByteArray → ByteArray × Int) (a b : ByteArray) (w : World) (h : CompAt B 0 w)
    (hcf : (callFunc F #[.string a, .string b]).run Tryd.prog w = .ok (.enter F #[.string a, .string b]) w)
    (hop : Calls Tryd.prog F #[.string a, .string b] w fun en w' => en = .returned (.tuple #[.string (op a b).1, .int .i64 (op a b).2]) ∧ Below w.heap.size w w') :
    Calls Tryd.prog 40 #[.pointer (some ⟨B, 0, none⟩), .func (.func F) #[] #[], .string a, .string b] w (Did B (op a b) w) := by
  have c0 := h.cell
  have HR := Lib.hid h
  have HOP := Lib.hid hop
  clear h hop
  go_enter Tryd.func40, Tryd.ntmps40
  go_wp2_with fail
  refine HOP.out.mono ?_
  rintro en w1 ⟨rfl, hb⟩
  have h1 := HR.out.bel hb
  have c1 := h1.cell
  have f1 := h1.froz
  have H1 := Lib.hid h1
  have HB := Lib.hid hb
  clear hb h1
  go_wp2_with fail
  go_ret
  exact ⟨rfl, H1.out.set _, (Bes.of HB.out).trans (Bes.set _ _ _ _)⟩
theorem pdo_any (B : Nat) (e : Int) (F : Nat) (op : ByteArray → ByteArray → ByteArray × Int) (a b : ByteArray) (w : World) (h : CompAt B e w)
    (hcf : (callFunc F #[.string a, .string b]).run Tryd.prog w = .ok (.enter F #[.string a, .string b]) w)
    (hop : Calls Tryd.prog F #[.string a, .string b] w fun en w' => en = .returned (.tuple #[.string (op a b).1, .int .i64 (op a b).2]) ∧ Below w.heap.size w w') :
    Calls Tryd.prog 40 #[.pointer (some ⟨B, 0, none⟩), .func (.func F) #[] #[], .string a, .string b] w (Did B (doR op e a b) w) := by
  by_cases he : e = 0
  · subst he; rw [doR_go]; exact pdo_go B F op a b w h hcf hop
  · rw [doR_err _ he]; exact pdo_err B e _ a b w h he
/-- a call answers with a number and an error -/
def GivesR (r : Raw × Int) (w : World) (e : Ending) (w' : World) : Prop := e = .returned (.tuple #[.agg #[.bool r.1.neg, .string r.1.num, .string r.1.den], .int .i64 r.2]) ∧ Below w.heap.size w w'
theorem presult_ok (B : Nat) (r : Raw) (w : World) (h : CompAt B 0 w) :
    Calls Tryd.prog 39 #[.pointer (some ⟨B, 0, none⟩), .agg #[.bool r.neg, .string r.num, .string r.den]] w (GivesR (r, 0) w) := by
  have c0 := h.cell
  have hl := h.lt
  clear h
  go_enter Tryd.func39, Tryd.ntmps39
  go_wp2_with fail
  refine bodyPost_ret (v := .tuple #[.agg #[.bool r.neg, .string r.num, .string r.den], .int .i64 0]) (by simp [results, Tryd.results39, go_sem]) rfl ⟨rfl, ((Below.refl _ _).alloc (Nat.le_refl _) _).alloc (by simp) _⟩
theorem presult_err (B : Nat) (e : Int) (r : Raw) (w : World) (h : CompAt B e w) (he : e ≠ 0) :
    Calls Tryd.prog 39 #[.pointer (some ⟨B, 0, none⟩), .agg #[.bool r.neg, .string r.num, .string r.den]] w (GivesR (noRaw, e) w) := by
  have c0 := h.cell
  have hl := h.lt
  have t0 : ((e : Int) != 0) = true := by simpa using he
  clear h he
  go_enter Tryd.func39, Tryd.ntmps39
  go_wp2_with fail
  go_region
  all_goals
    go_wp2_with fail
    refine bodyPost_ret (v := .tuple #[.agg #[.bool noRaw.neg, .string noRaw.num, .string noRaw.den], .int .i64 e]) (by simp [results, Tryd.results39, go_sem, noRaw]) rfl ⟨rfl, (((Below.refl _ _).alloc (Nat.le_refl _) _).alloc (by simp) _).drew⟩
theorem presult_any (B : Nat) (e : Int) (r : Raw) (w : World) (h : CompAt B e w) :
    Calls Tryd.prog 39 #[.pointer (some ⟨B, 0, none⟩), .agg #[.bool r.neg, .string r.num, .string r.den]] w (GivesR (resR (r, e)) w) := by
  by_cases he : e = 0
  · subst he; exact presult_ok B r w h
  · rw [resR_err rfl he]; exact presult_err B e r w h he
end Go.Proofs.YtbcoblpnihdhgaaDoor

/-
  The program's rational package: a quotient is brought to lowest terms (exact, reduced and its closure).
-/
set_option linter.unusedVariables false
set_option maxRecDepth 100000
namespace Go.Proofs.YtbcoblpnihdhgaaDoor
open Go.RowKit
open Rt
theorem pexact_any (a b : ByteArray) (w : World) : Calls Tryd.prog 54 #[.string a, .string b] w (Gives2 (exactR a b) w) := by
  go_enter Tryd.func54, Tryd.ntmps54
  go_wp2_with fail
  refine (pDiv_any a b w).mono ?_
  rintro e w1 ⟨rfl, hb⟩
  go_wp2_with fail
  go_ret2
  exact ⟨rfl, hb⟩
/-- what the closure of reduced captures -/
structure CapR (B Bc Bd : Nat) (g : ByteArray) (w : World) : Prop where
  nc : Bc ≠ B
  nd : Bd ≠ B
  c : w.heap[Bc]? = some (.cells #[.pointer (some ⟨B, 0, none⟩)] 66 (0, 0))
  d : w.heap[Bd]? = some (.cells #[.string g] 22 (0, 0))
theorem CapR.bes {B Bc Bd : Nat} {g : ByteArray} {w w' : World} (h : CapR B Bc Bd g w) (hb : Bes B w w') : CapR B Bc Bd g w' :=
  ⟨h.nc, h.nd, (hb.block _ (blk_lt h.c) h.nc).trans h.c, (hb.block _ (blk_lt h.d) h.nd).trans h.d⟩
theorem preduced1_any (B Bc Bd : Nat) (e : Int) (g n : ByteArray) (w : World) (hC : CapR B Bc Bd g w) (h : CompAt B e w) :
    Calls Tryd.prog 53 #[.string n, .pointer (some ⟨Bc, 0, none⟩), .pointer (some ⟨Bd, 0, none⟩)] w (Did B (doR exactR e n g) w) := by
  have c0 := cell_of_one hC.c
  have c1 := cell_of_one hC.d
  have HR := Lib.hid h
  clear h hC
  go_enter Tryd.func53, Tryd.ntmps53
  go_wp2_with fail
  refine (pdo_any B e 54 exactR n g w HR.out (Tryd.call54 _ _) (pexact_any n g w)).mono ?_
  rintro en w1 ⟨rfl, hc, hb⟩
  go_wp2_with fail
  go_ret
  exact ⟨rfl, hc, hb⟩
/-- a number lies in a block -/
structure RatAt (B : Nat) (r : Raw) (w : World) : Prop where
  cells : w.heap[B]? = some (.cells #[.bool r.neg, .string r.num, .string r.den] 24 (0, 0))
theorem RatAt.bes {B C : Nat} {r : Raw} {w w' : World} (h : RatAt B r w) (hb : Bes C w w') (hne : B ≠ C) : RatAt B r w' := ⟨(hb.block _ (blk_lt h.cells) hne).trans h.cells⟩
theorem RatAt.bel {B : Nat} {r : Raw} {w w' : World} (h : RatAt B r w) (hb : Below w.heap.size w w') : RatAt B r w' := ⟨(hb.block _ (blk_lt h.cells)).trans h.cells⟩
theorem RatAt.c0 {B : Nat} {r : Raw} {w : World} (h : RatAt B r w) : w.cell? ⟨B, 0, none⟩ = some (.bool r.neg) := by rw [Lib.cell_of_heap h.cells]; rfl
theorem RatAt.c1 {B : Nat} {r : Raw} {w : World} (h : RatAt B r w) : w.cell? ⟨B, 1, none⟩ = some (.string r.num) := by rw [Lib.cell_of_heap h.cells]; rfl
theorem RatAt.c2 {B : Nat} {r : Raw} {w : World} (h : RatAt B r w) : w.cell? ⟨B, 2, none⟩ = some (.string r.den) := by rw [Lib.cell_of_heap h.cells]; rfl
theorem RatAt.fz {B : Nat} {r : Raw} {w : World} (h : RatAt B r w) (i : Nat) : w.frozen? ⟨B, i, none⟩ = false := Lib.frozen_of_heap h.cells i
theorem RatAt.set {B : Nat} {r : Raw} {w : World} (h : RatAt B r w) (s : Raw) : RatAt B s (((w.setCell ⟨B, 0, none⟩ (.bool s.neg)).setCell ⟨B, 1, none⟩ (.string s.num)).setCell ⟨B, 2, none⟩ (.string s.den)) := by
  have h1 := heap_setCell_same w B 0 _ _ (.bool s.neg) h.cells
  have h2 := heap_setCell_same _ B 1 _ _ (.string s.num) h1
  have h3 := heap_setCell_same _ B 2 _ _ (.string s.den) h2
  exact ⟨h3⟩
def DidQ (B : Nat) (r : Raw × Int) (w : World) (en : Ending) (w' : World) : Prop := en = .returned (.agg #[.bool r.1.neg, .string r.1.num, .string r.1.den]) ∧ CompAt B r.2 w' ∧ Bes B w w'
theorem z_str (s : ByteArray) : (s.toList == [48]) = isZ s := by
  rw [zero_list, str_beq]; rfl
theorem o_str (s : ByteArray) : (s.toList == [49]) = isO s := by
  rw [show ([49] : List UInt8) = (⟨#[49]⟩ : ByteArray).toList by rw [Lib.toList_data], str_beq]; rfl
theorem lastB (w : World) (cs : Array Value) (T : Nat) : (w.alloc (Obj.cells cs T)).heap[w.heap.size]? = some (.cells cs T (0, 0)) := heap_lastM w _
theorem Bes.setNew {B b i : Nat} {w w' : World} (h : Bes B w w') (hb : w.heap.size ≤ b) (u : Value) : Bes B w (w'.setCell ⟨b, i, none⟩ u) := by
  have k := Bes.set w' b i u
  exact ⟨k.os.trans h.os, k.tape.trans h.tape, k.output.trans h.output, Nat.le_trans h.size k.size, fun j hj hn => (k.block j (Nat.lt_of_lt_of_le hj h.size) (by omega)).trans (h.block j hj hn)⟩
theorem CompAt.setO {B b i : Nat} {e : Int} {w : World} (h : CompAt B e w) (hb : B ≠ b) (u : Value) : CompAt B e (w.setCell ⟨b, i, none⟩ u) := h.bes (Bes.set w b i u) hb
theorem red_eq {e : Int} {neg : Bool} {num den : ByteArray} {g n d : ByteArray × Int} (hg : g = doR gcdR e num den) (hn : n = doR exactR g.2 num g.1) (hd : d = doR exactR n.2 den g.1) : redR e neg num den = (⟨neg && !isZ num, n.1, d.1⟩, d.2) := by
  subst hg; subst hn; subst hd; rfl
/-- the first two blocks of reduced -/
def redW (B : Nat) (w : World) : World := (w.alloc (Obj.cells #[Value.pointer (some ⟨B, 0, none⟩)] 66)).alloc (Obj.cells #[Value.bool false, Value.string ⟨#[]⟩, Value.string ⟨#[]⟩] 24)
theorem redW_below (B : Nat) (w : World) : Below w.heap.size w (redW B w) := ((Below.refl _ _).alloc (Nat.le_refl _) _).alloc (by simp) _
theorem redW_size (B : Nat) (w : World) : (redW B w).heap.size = w.heap.size + 1 + 1 := by unfold redW; simp
theorem redW_rat (B : Nat) (w : World) : RatAt (w.heap.size + 1) noRaw (redW B w) := by
  have h := lastB (w.alloc (Obj.cells #[Value.pointer (some ⟨B, 0, none⟩)] 66)) #[Value.bool false, Value.string ⟨#[]⟩, Value.string ⟨#[]⟩] 24
  have e : (w.alloc (Obj.cells #[Value.pointer (some ⟨B, 0, none⟩)] 66)).heap.size = w.heap.size + 1 := by simp
  rw [e] at h
  exact ⟨h⟩
theorem redW_c (B : Nat) (w : World) : (redW B w).heap[w.heap.size]? = some (.cells #[.pointer (some ⟨B, 0, none⟩)] 66 (0, 0)) := by
  unfold redW
  rw [Lib.alloc_old _ _ _ (by simp)]
  exact lastB w _ _
/-- the third one, behind the call -/
theorem capR_of {B : Nat} {e : Int} {g : ByteArray} {w w1 : World} (h : CompAt B e w) (hb : Bes B (redW B w) w1) :
    CapR B w.heap.size w1.heap.size g (w1.alloc (Obj.cells #[Value.string g] 22)) := by
  have hs := hb.size
  rw [redW_size] at hs
  have hB := h.lt
  refine ⟨by omega, by omega, ?_, lastB w1 _ _⟩
  rw [Lib.alloc_old _ _ _ (by omega), hb.block _ (by rw [redW_size]; omega) (by omega)]
  exact redW_c B w
theorem Bes.alloc {B : Nat} (w : World) (o : Obj) : Bes B w (w.alloc o) := Bes.of ((Below.refl _ _).alloc (Nat.le_refl _) _)
set_option maxHeartbeats 1000000 in
theorem preduced_any (B : Nat) (e : Int) (neg : Bool) (num den : ByteArray) (w : World) (h : CompAt B e w) :
    Calls Tryd.prog 43 #[.pointer (some ⟨B, 0, none⟩), .bool neg, .string num, .string den] w (DidQ B (redR e neg num den) w) := by
  have hmf : ∀ (fn : Fn) (first cap : Array Value) (w : World), (Instr.makeFunc fn first cap).run Tryd.prog w = .ok (.func fn first cap) w := fun _ _ _ _ => rfl
  have h0 : Hid (CompAt B e (redW B w)) := Lib.hid (h.bel (redW_below B w))
  have HR := Lib.hid h
  have z0 := z_str num
  have hlt : Hid (B < w.heap.size) := Lib.hid h.lt
  clear h
  cases neg
  all_goals
    go_enter Tryd.func43, Tryd.ntmps43
    go_wp2_with fail
    refine (pdo_any B e 35 gcdR num den (redW B w) h0.out (Tryd.call35 _ _) (pGcd_any num den _)).mono ?_
    rintro en w1 ⟨rfl, hc1, hb1⟩
    obtain ⟨g, hg⟩ : ∃ g, g = doR gcdR e num den := ⟨_, rfl⟩
    rw [← hg] at hc1
    rw [← hg]
    have HG := Lib.hid hg
    have HC1 := Lib.hid hc1
    have HB1 := Lib.hid hb1
    clear hg hc1 hb1
    go_wp2_with fail
    have hcap : Hid (CapR B w.heap.size w1.heap.size g.1 (w1.alloc (Obj.cells #[Value.string g.1] 22))) := Lib.hid (capR_of HR.out HB1.out)
    refine (preduced1_any B w.heap.size w1.heap.size g.2 g.1 num (w1.alloc (Obj.cells #[Value.string g.1] 22)) hcap.out (HC1.out.bel ((Below.refl _ _).alloc (Nat.le_refl _) _))).mono ?_
    rintro en w2 ⟨rfl, hc2, hb2⟩
    obtain ⟨n, hn⟩ : ∃ n, n = doR exactR g.2 num g.1 := ⟨_, rfl⟩
    rw [← hn] at hc2
    rw [← hn]
    have HN := Lib.hid hn
    have HC2 := Lib.hid hc2
    have HB2 := Lib.hid hb2
    clear hn hc2 hb2
    go_wp2_with fail
    refine (preduced1_any B w.heap.size w1.heap.size n.2 g.1 den w2 (hcap.out.bes HB2.out) HC2.out).mono ?_
    rintro en w3 ⟨rfl, hc3, hb3⟩
    obtain ⟨d, hd⟩ : ∃ d, d = doR exactR n.2 den g.1 := ⟨_, rfl⟩
    rw [← hd] at hc3
    rw [← hd]
    have HD := Lib.hid hd
    have HC3 := Lib.hid hc3
    have hbAll : Bes B (redW B w) w3 := ((HB1.out.trans (Bes.alloc w1 _)).trans HB2.out).trans hb3
    have hrat := (redW_rat B w).bes hbAll (by have := hlt.out; omega)
    have r0 := hrat.c0
    have r1 := hrat.c1
    have r2 := hrat.c2
    have g0 := hrat.fz 0
    have g1 := hrat.fz 1
    have g2 := hrat.fz 2
    have HRAT := Lib.hid hrat
    have HBA := Lib.hid hbAll
    clear hd hc3 hb3 hrat hbAll
    go_wp2_with fail
    (try simp only [Exit.inBlock, Exit.then])
    refine bodyPost_ret (results_cell_row rfl _ _ (w.heap.size + 1) 24 _ (0, 0) _ rfl (HRAT.out.set ⟨_, _, _⟩).cells Tryd.underlying24 rfl (by kernel_rfl)) rfl ?_
    rw [red_eq HG.out HN.out HD.out]
    have hl := hlt.out
    exact ⟨rfl, ((HC3.out.setO (by omega) _).setO (by omega) _).setO (by omega) _, ((((Bes.of (redW_below B w)).trans HBA.out).setNew (by omega) _).setNew (by omega) _).setNew (by omega) _⟩
end Go.Proofs.YtbcoblpnihdhgaaDoor

/-
  The program's rational package: product and quotient.
-/
set_option linter.unusedVariables false
set_option maxRecDepth 100000
namespace Go.Proofs.YtbcoblpnihdhgaaDoor
open Go.RowKit
open Rt
theorem below_dn1 (w : World) : Below w.heap.size w w.drew := (Below.refl _ _).drew
theorem Bes.drew {B : Nat} {w w' : World} (h : Bes B w w') : Bes B w w'.drew := h.trans (Bes.of (below_dn1 w'))
/-- a number as it is boxed -/
abbrev ratO (r : Raw) : Obj := Obj.cells #[Value.bool r.neg, Value.string r.num, Value.string r.den] 24
abbrev ratZ : Obj := Obj.cells #[Value.bool false, Value.string ⟨#[]⟩, Value.string ⟨#[]⟩] 24
/-- two numbers and the result's place -/
structure Two (a b : Raw) (w W : World) : Prop where
  below : Below w.heap.size w W
  ha : RatAt w.heap.size a W
  hb : RatAt (w.heap.size + 1) b W
  hz : RatAt (w.heap.size + 1 + 1) noRaw W
theorem two_of (a b : Raw) (w : World) : Two a b w (((w.alloc (ratO a)).alloc (ratO b)).alloc ratZ) := by
  have h0 := heap_lastM w (ratO a)
  have h1 := heap_lastM (w.alloc (ratO a)) (ratO b)
  have h2 := heap_lastM ((w.alloc (ratO a)).alloc (ratO b)) ratZ
  have s1 : (w.alloc (ratO a)).heap.size = w.heap.size + 1 := by simp
  have s2 : ((w.alloc (ratO a)).alloc (ratO b)).heap.size = w.heap.size + 1 + 1 := by simp
  rw [s1] at h1
  rw [s2] at h2
  refine ⟨((Below.refl _ _).alloc (Nat.le_refl _) _).alloc (by simp) _ |>.alloc (by simp; omega) _, ⟨?_⟩, ⟨?_⟩, ⟨h2⟩⟩
  · rw [Lib.alloc_old _ _ _ (by rw [s2]; omega), Lib.alloc_old _ _ _ (by rw [s1]; omega)]; exact h0
  · rw [Lib.alloc_old _ _ _ (by rw [s2]; omega)]; exact h1
def HeldAB (B : Nat) (a b : Raw) (w W w' : World) : Prop := Bes B W w' ∧ w'.cell? ⟨w.heap.size, 1, none⟩ = some (.string a.num) ∧ w'.cell? ⟨w.heap.size, 2, none⟩ = some (.string a.den) ∧ w'.cell? ⟨w.heap.size + 1, 1, none⟩ = some (.string b.num) ∧ w'.cell? ⟨w.heap.size + 1, 2, none⟩ = some (.string b.den)
theorem heldAB {B : Nat} {a b : Raw} {w W w' : World} (h : Two a b w W) (hB : B < w.heap.size) (hb : Bes B W w') : HeldAB B a b w W w' := by
  have h1 := h.ha.bes hb (by omega)
  have h2 := h.hb.bes hb (by omega)
  exact ⟨hb, h1.c1, h1.c2, h2.c1, h2.c2⟩
set_option maxHeartbeats 2000000 in
theorem pproduct_any (B : Nat) (e : Int) (a b : Raw) (w : World) (h : CompAt B e w) :
    Calls Tryd.prog 28 #[.pointer (some ⟨B, 0, none⟩), .agg #[.bool a.neg, .string a.num, .string a.den], .agg #[.bool b.neg, .string b.num, .string b.den]] w (DidQ B (prodF e a b) w) := by
  obtain ⟨r, hr⟩ : ∃ r, r = prodF e a b := ⟨_, rfl⟩
  rw [← hr]
  have HRR := Lib.hid hr
  clear hr
  have hT := two_of a b w
  have hlt : Hid (B < w.heap.size) := Lib.hid h.lt
  obtain ⟨W, hW⟩ : ∃ W, W = ((w.alloc (ratO a)).alloc (ratO b)).alloc ratZ := ⟨_, rfl⟩
  rw [← hW] at hT
  have HC0 := Lib.hid (h.bel hT.below)
  have HW := Lib.hid hW
  have HT := Lib.hid hT
  clear h hT hW
  go_enter Tryd.func28, Tryd.ntmps28
  go_wp2_with fail
  rw [← HW.out]
  go_region_held3 (fun w' => Bes B W w' ∧ w'.cell? ⟨w.heap.size, 1, none⟩ = some (.string a.num) ∧ w'.cell? ⟨w.heap.size, 2, none⟩ = some (.string a.den) ∧ w'.cell? ⟨w.heap.size + 1, 1, none⟩ = some (.string b.num) ∧ w'.cell? ⟨w.heap.size + 1, 2, none⟩ = some (.string b.den)) (first | (with_reducible assumption) | exact heldAB HT.out hlt.out (Bes.refl _ _).drew | exact HK1.out | exact HK2.out) (first | (go_at_call 40; ((with_reducible refine (pdo_any B e 41 mulR a.num b.num _ ?hc (Tryd.call41 _ _) (pMul_any _ _ _)).mono ?_); (case hc => exact HC0.out.bel (below_dn1 _)); rintro en w1 ⟨rfl, hc1, hb1⟩; have HK1 := Lib.hid (heldAB HT.out hlt.out ((Bes.refl _ _).drew.trans hb1)))) | (go_at_call 40; ((with_reducible refine (pdo_any B _ 41 mulR a.den b.den _ hc1 (Tryd.call41 _ _) (pMul_any _ _ _)).mono ?_); rintro en w2 ⟨rfl, hc2, hb2⟩; have HK2 := Lib.hid (heldAB HT.out hlt.out (HK1.out.1.trans hb2)))) | fail "no arm")
  have hbes : Bes B W w2 := HK2.out.1
  have h0 := (HT.out.ha.bes hbes (by have := hlt.out; omega)).c0
  have h1 := (HT.out.hb.bes hbes (by have := hlt.out; omega)).c0
  have HB2 := Lib.hid hbes
  have HC2 := Lib.hid hc2
  generalize hd : doR mulR (doR mulR e a.num b.num).2 a.den b.den = d at *
  generalize hn : doR mulR e a.num b.num = n at *
  have HN := Lib.hid hn
  have HD := Lib.hid hd
  clear hc2 hbes hb2 hc1 hb1 HK1 HK2 hn hd
  go_wp2_with fail
  refine (preduced_any B d.2 (a.neg != b.neg) n.1 d.1 w2 HC2.out).mono ?_
  rintro en w3 ⟨rfl, hc3, hb3⟩
  obtain ⟨q, hq⟩ : ∃ q, q = redR d.2 (a.neg != b.neg) n.1 d.1 := ⟨_, rfl⟩
  rw [← hq] at hc3
  rw [← hq]
  have hrat := HT.out.hz.bes (HB2.out.trans hb3) (by have := hlt.out; omega)
  have r0 := hrat.c0
  have r1 := hrat.c1
  have r2 := hrat.c2
  have g0 := hrat.fz 0
  have g1 := hrat.fz 1
  have g2 := hrat.fz 2
  have HRAT := Lib.hid hrat
  have HC3 := Lib.hid hc3
  have HB3 := Lib.hid hb3
  have HQ := Lib.hid hq
  clear hq hrat hc3 hb3
  go_wp2_with fail
  (try simp only [Exit.inBlock, Exit.then])
  refine bodyPost_ret (results_cell_row rfl _ _ (w.heap.size + 1 + 1) 24 _ (0, 0) _ rfl (HRAT.out.set ⟨_, _, _⟩).cells Tryd.underlying24 rfl (by kernel_rfl)) rfl ?_
  have hl := hlt.out
  have hrq : r = q := by rw [HRR.out, HQ.out, ← HD.out, ← HN.out]; rfl
  rw [hrq]
  exact ⟨rfl, ((HC3.out.setO (by omega) _).setO (by omega) _).setO (by omega) _, ((((Bes.of HT.out.below).trans (HB2.out.trans HB3.out)).setNew (by omega) _).setNew (by omega) _).setNew (by omega) _⟩
end Go.Proofs.YtbcoblpnihdhgaaDoor
