/-
  The program's rational package: sum (with its closure) and difference.
-/
import Derived.Test.YtbcoblpnihdhgaaDoorRmABC
set_option linter.unusedVariables false
set_option maxRecDepth 100000
namespace Go.Proofs.YtbcoblpnihdhgaaDoor
open Go.RowKit
open Rt
theorem CapR.held {B Bc Bd : Nat} {g : ByteArray} {W w' : World} (h : CapR B Bc Bd g W) (hb : Bes B W w') :
    Bes B W w' ∧ w'.cell? ⟨Bc, 0, none⟩ = some (.pointer (some ⟨B, 0, none⟩)) ∧ w'.cell? ⟨Bd, 0, none⟩ = some (.string g) := by
  have h' := h.bes hb
  exact ⟨hb, cell_of_one h'.c, cell_of_one h'.d⟩
structure OpCall (F : Nat) (op : ByteArray → ByteArray → ByteArray × Int) : Prop where
  enter : ∀ (x y : ByteArray) (w : World), (callFunc F #[.string x, .string y]).run Tryd.prog w = .ok (.enter F #[.string x, .string y]) w
  calls : ∀ (x y : ByteArray) (w : World), Calls Tryd.prog F #[.string x, .string y] w fun en w' => en = .returned (.tuple #[.string (op x y).1, .int .i64 (op x y).2]) ∧ Below w.heap.size w w'
set_option maxHeartbeats 2000000 in
theorem psum1_any (B Bc Bd : Nat) (e : Int) (F : Nat) (op : ByteArray → ByteArray → ByteArray × Int) (neg : Bool) (x y d : ByteArray) (w : World) (hop : OpCall F op) (hcap : CapR B Bc Bd d w) (h : CompAt B e w) :
    Calls Tryd.prog 42 #[.bool neg, .func (.func F) #[] #[], .string x, .string y, .pointer (some ⟨Bc, 0, none⟩), .pointer (some ⟨Bd, 0, none⟩)] w (DidQ B (sgnR op e neg x y d) w) := by
  obtain ⟨r, hr⟩ : ∃ r, r = sgnR op e neg x y d := ⟨_, rfl⟩
  rw [← hr]
  obtain ⟨W, hW⟩ : ∃ W, W = w.alloc ratZ := ⟨_, rfl⟩
  have hbW : Below w.heap.size w W := by rw [hW]; exact (Below.refl _ _).alloc (Nat.le_refl _) _
  have hzW : RatAt w.heap.size noRaw W := by rw [hW]; exact ⟨heap_lastM w _⟩
  have HRR := Lib.hid hr
  have HW := Lib.hid hW
  have HBW := Lib.hid hbW
  have HZW := Lib.hid hzW
  have HOP := Lib.hid hop
  have hlt : Hid (B < w.heap.size) := Lib.hid h.lt
  have HC0 := Lib.hid (h.bel hbW)
  have HCAP := Lib.hid hcap
  clear hr hW hbW hzW hop h hcap
  go_enter Tryd.func42, Tryd.ntmps42
  go_wp2_with fail
  rw [← HW.out]
  go_region_held3 (fun w' => Bes B w w' ∧ w'.cell? ⟨Bc, 0, none⟩ = some (.pointer (some ⟨B, 0, none⟩)) ∧ w'.cell? ⟨Bd, 0, none⟩ = some (.string d)) (first | (with_reducible assumption) | exact HCAP.out.held (Bes.of HBW.out).drew | exact HK1.out | exact HK2.out | exact HCAP.out.held (((HK2.out.1.setNew (Nat.le_refl _) _).setNew (Nat.le_refl _) _).setNew (Nat.le_refl _) _)) (first | (go_at_call 40; ((with_reducible refine (pdo_any B e F op x y _ ?hc (HOP.out.enter _ _ _) (HOP.out.calls _ _ _)).mono ?_); (case hc => exact HC0.out.bel (below_dn1 _)); rintro en w1 ⟨rfl, hc1, hb1⟩; have HK1 := Lib.hid (HCAP.out.held ((Bes.of HBW.out).drew.trans hb1)); have HZ1 := Lib.hid (HZW.out.bes ((Bes.refl _ _).drew.trans hb1) (Nat.ne_of_gt hlt.out)))) | (go_at_call 43; ((with_reducible refine (preduced_any B _ neg _ d _ hc1).mono ?_); rintro en w2 ⟨rfl, hc2, hb2⟩; have HK2 := Lib.hid (HCAP.out.held (HK1.out.1.trans hb2)); have HZ2 := Lib.hid (HZ1.out.bes hb2 (Nat.ne_of_gt hlt.out)); have r0 := HZ2.out.c0; have r1 := HZ2.out.c1; have r2 := HZ2.out.c2; have g0 := HZ2.out.fz 0; have g1 := HZ2.out.fz 1; have g2 := HZ2.out.fz 2)) | fail "no arm")
  go_wp2_with fail
  (try simp only [Exit.inBlock, Exit.then])
  refine bodyPost_ret (results_cell_row rfl _ _ w.heap.size 24 _ (0, 0) _ rfl (HZ2.out.set ⟨_, _, _⟩).cells Tryd.underlying24 rfl (by kernel_rfl)) rfl ?_
  have hl := hlt.out
  have hrq : r = redR (doR op e x y).2 neg (doR op e x y).1 d := HRR.out
  rw [hrq]
  exact ⟨rfl, ((hc2.setO (by omega) _).setO (by omega) _).setO (by omega) _, ((HK2.out.1.setNew (Nat.le_refl _) _).setNew (Nat.le_refl _) _).setNew (Nat.le_refl _) _⟩
abbrev cptr (B : Nat) : Obj := Obj.cells #[Value.pointer (some ⟨B, 0, none⟩)] 66
/-- the computation, two numbers and the result's place -/
structure Three (B : Nat) (a b : Raw) (w W : World) : Prop where
  below : Below w.heap.size w W
  hc : W.heap[w.heap.size]? = some (cptr B)
  ha : RatAt (w.heap.size + 1) a W
  hb : RatAt (w.heap.size + 1 + 1) b W
  hz : RatAt (w.heap.size + 1 + 1 + 1) noRaw W
theorem three_of (B : Nat) (a b : Raw) (w : World) : Three B a b w ((((w.alloc (cptr B)).alloc (ratO a)).alloc (ratO b)).alloc ratZ) := by
  have hT := two_of a b (w.alloc (cptr B))
  have h0 := heap_lastM w (cptr B)
  have s0 : (w.alloc (cptr B)).heap.size = w.heap.size + 1 := by simp
  have h1 := hT.ha
  have h2 := hT.hb
  have h3 := hT.hz
  rw [s0] at h1 h2 h3
  have hb0 : Below w.heap.size w (w.alloc (cptr B)) := (Below.refl _ _).alloc (Nat.le_refl _) _
  exact ⟨hb0.trans (hT.below.mono (by omega)), (hT.below.block _ (by omega)).trans h0, h1, h2, h3⟩
theorem heldC {B : Nat} {a b : Raw} {w W w' : World} (h : Three B a b w W) (hB : B < w.heap.size) (hb : Bes B W w') :
    Bes B W w' ∧ w'.cell? ⟨w.heap.size, 0, none⟩ = some (.pointer (some ⟨B, 0, none⟩)) ∧ w'.cell? ⟨w.heap.size + 1, 1, none⟩ = some (.string a.num) ∧ w'.cell? ⟨w.heap.size + 1, 2, none⟩ = some (.string a.den) ∧ w'.cell? ⟨w.heap.size + 1 + 1, 1, none⟩ = some (.string b.num) ∧ w'.cell? ⟨w.heap.size + 1 + 1, 2, none⟩ = some (.string b.den) := by
  have h0 := (hb.block _ (blk_lt h.hc) (by omega)).trans h.hc
  have h1 := h.ha.bes hb (by omega)
  have h2 := h.hb.bes hb (by omega)
  exact ⟨hb, cell_of_one h0, h1.c1, h1.c2, h2.c1, h2.c2⟩
theorem mulCall : OpCall 41 mulR := ⟨fun _ _ _ => Tryd.call41 _ _, fun _ _ _ => pMul_any _ _ _⟩
theorem addCall : OpCall 44 addR := ⟨fun _ _ _ => Tryd.call44 _ _, fun _ _ _ => pAdd_any _ _ _⟩
theorem subCall : OpCall 46 subR := ⟨fun _ _ _ => Tryd.call46 _ _, fun _ _ _ => pSub_any _ _ _⟩
set_option maxHeartbeats 4000000 in
theorem psum_any (B : Nat) (e : Int) (a b : Raw) (w : World) (h : CompAt B e w) :
    Calls Tryd.prog 27 #[.pointer (some ⟨B, 0, none⟩), .agg #[.bool a.neg, .string a.num, .string a.den], .agg #[.bool b.neg, .string b.num, .string b.den]] w (DidQ B (sumF e a b) w) := by
  have hmf : ∀ (fn : Fn) (first cap : Array Value) (w : World), (Instr.makeFunc fn first cap).run Tryd.prog w = .ok (.func fn first cap) w := fun _ _ _ _ => rfl
  obtain ⟨r, hr⟩ : ∃ r, r = sumF e a b := ⟨_, rfl⟩
  rw [← hr]
  have hT := three_of B a b w
  have hlt : Hid (B < w.heap.size) := Lib.hid h.lt
  obtain ⟨W, hW⟩ : ∃ W, W = (((w.alloc (cptr B)).alloc (ratO a)).alloc (ratO b)).alloc ratZ := ⟨_, rfl⟩
  rw [← hW] at hT
  have HC0 := Lib.hid (h.bel hT.below)
  have HRR := Lib.hid hr
  have HW := Lib.hid hW
  have HT := Lib.hid hT
  clear h hT hW hr
  go_enter Tryd.func27, Tryd.ntmps27
  go_wp2_with fail
  rw [← HW.out]
  go_region_held3 (fun w' => Bes B W w' ∧ w'.cell? ⟨w.heap.size, 0, none⟩ = some (.pointer (some ⟨B, 0, none⟩)) ∧ w'.cell? ⟨w.heap.size + 1, 1, none⟩ = some (.string a.num) ∧ w'.cell? ⟨w.heap.size + 1, 2, none⟩ = some (.string a.den) ∧ w'.cell? ⟨w.heap.size + 1 + 1, 1, none⟩ = some (.string b.num) ∧ w'.cell? ⟨w.heap.size + 1 + 1, 2, none⟩ = some (.string b.den)) (first | (with_reducible assumption) | exact heldC HT.out hlt.out (Bes.refl _ _).drew | exact HK1.out | exact HK2.out) (first | (go_at_call 40; ((with_reducible refine (pdo_any B e 41 mulR a.num b.den _ ?hc (mulCall.enter _ _ _) (mulCall.calls _ _ _)).mono ?_); (case hc => exact HC0.out.bel (below_dn1 _)); rintro en w1 ⟨rfl, hc1, hb1⟩; have HK1 := Lib.hid (heldC HT.out hlt.out ((Bes.refl _ _).drew.trans hb1)))) | (go_at_call 40; ((with_reducible refine (pdo_any B _ 41 mulR b.num a.den _ hc1 (mulCall.enter _ _ _) (mulCall.calls _ _ _)).mono ?_); rintro en w2 ⟨rfl, hc2, hb2⟩; have HK2 := Lib.hid (heldC HT.out hlt.out (HK1.out.1.trans hb2)))) | fail "no arm")
  have hLL : Hid (sumL e a b = doR mulR e a.num b.den) := Lib.hid rfl
  have hRR2 : Hid (sumR e a b = doR mulR (doR mulR e a.num b.den).2 b.num a.den) := Lib.hid rfl
  have hDD : Hid (sumD e a b = doR mulR (doR mulR (doR mulR e a.num b.den).2 b.num a.den).2 a.den b.den) := Lib.hid rfl
  generalize doR mulR (doR mulR e a.num b.den).2 b.num a.den = rr at *
  generalize doR mulR e a.num b.den = l at *
  have hB2 : Bes B W w2 := HK2.out.1
  have ha2 := HT.out.ha.bes hB2 (by have := hlt.out; omega)
  have hb2' := HT.out.hb.bes hB2 (by have := hlt.out; omega)
  have hcc := cell_of_one ((hB2.block _ (blk_lt HT.out.hc) (by have := hlt.out; omega)).trans HT.out.hc)
  have a2 := ha2.c2
  have b2 := hb2'.c2
  have HC2 := Lib.hid hc2
  have HB2 := Lib.hid hB2
  clear hc2 hB2 ha2 hb2' hb2 hb1 hc1 HK1 HK2
  go_wp2_with fail
  refine (pdo_any B rr.2 41 mulR a.den b.den w2 HC2.out (mulCall.enter _ _ _) (mulCall.calls _ _ _)).mono ?_
  rintro en w3 ⟨rfl, hc3, hb3⟩
  generalize doR mulR rr.2 a.den b.den = d at *
  obtain ⟨W3, hW3⟩ : ∃ W3, W3 = w3.alloc (Obj.cells #[Value.string d.1] 22) := ⟨_, rfl⟩
  have hb33 : Below w3.heap.size w3 W3 := by rw [hW3]; exact (Below.refl _ _).alloc (Nat.le_refl _) _
  have hBW : Bes B W W3 := (HB2.out.trans hb3).trans (Bes.of hb33)
  have hs3 := (HB2.out.trans hb3).size
  have hcap : Hid (CapR B w.heap.size w3.heap.size d.1 W3) := Lib.hid (by
    have hl := hlt.out
    have hs := HT.out.below.size
    refine ⟨by omega, by omega, (hBW.block _ (blk_lt HT.out.hc) (by omega)).trans HT.out.hc, ?_⟩
    rw [hW3]; exact heap_lastM w3 _)
  have ha3 := HT.out.ha.bes (HB2.out.trans hb3) (by have := hlt.out; omega)
  have hb3' := HT.out.hb.bes (HB2.out.trans hb3) (by have := hlt.out; omega)
  have HZ3 := Lib.hid (HT.out.hz.bes hBW (by have := hlt.out; omega))
  have HC3 := Lib.hid (hc3.bel hb33)
  have HB3 : Hid (Bes B w W3) := Lib.hid ((Bes.of HT.out.below).trans hBW)
  have z3 : w.heap.size + 1 + 1 + 1 < w3.heap.size := Nat.lt_of_lt_of_le (blk_lt HT.out.hz.cells) hs3
  have z2 : w.heap.size + 1 + 1 < w3.heap.size := by omega
  have z1 : w.heap.size + 1 < w3.heap.size := by omega
  have x0 := ha3.c0
  have y0 := hb3'.c0
  have HW3 := Lib.hid hW3
  clear hW3 hb33 hBW hs3 ha3 hb3' hc3 hb3 a2 b2 hcc HB2 HC2
  by_cases hn : a.neg = b.neg
  · have t0 : (a.neg == b.neg) = true := by rw [hn]; exact beq_self_eq_true _
    have HN := Lib.hid hn
    clear hn
    go_wp2_with fail
    rw [← HW3.out]
    refine (psum1_any B w.heap.size w3.heap.size d.2 44 addR a.neg l.1 rr.1 d.1 W3 addCall hcap.out HC3.out).mono ?_
    rintro en w4 ⟨rfl, hc4, hb4⟩
    obtain ⟨q, hq⟩ : ∃ q, q = sgnR addR d.2 a.neg l.1 rr.1 d.1 := ⟨_, rfl⟩
    rw [← hq] at hc4
    rw [← hq]
    have hrat := HZ3.out.bes hb4 (by have := hlt.out; omega)
    have r0 := hrat.c0
    have r1 := hrat.c1
    have r2 := hrat.c2
    have k0 := hrat.fz 0
    have k1 := hrat.fz 1
    have k2 := hrat.fz 2
    have HRAT := Lib.hid hrat
    have HC4 := Lib.hid hc4
    have HB4 := Lib.hid (HB3.out.trans hb4)
    have HQ := Lib.hid hq
    clear hq hrat hc4 hb4 z1 z2 z3
    go_wp2_with fail
    (try simp only [Exit.inBlock, Exit.then])
    refine bodyPost_ret (results_cell_row rfl _ _ (w.heap.size + 1 + 1 + 1) 24 _ (0, 0) _ rfl (HRAT.out.set ⟨_, _, _⟩).cells Tryd.underlying24 rfl (by kernel_rfl)) rfl ?_
    have hl := hlt.out
    have hrq : r = q := by rw [HRR.out, HQ.out]; unfold sumF; rw [hDD.out, hRR2.out, hLL.out]; rw [if_pos HN.out]
    rw [hrq]
    exact ⟨rfl, ((HC4.out.setO (by omega) _).setO (by omega) _).setO (by omega) _, ((HB4.out.setNew (by omega) _).setNew (by omega) _).setNew (by omega) _⟩
  · have t0 : (a.neg == b.neg) = false := by simpa using hn
    have HN := Lib.hid hn
    clear hn
    go_wp2_with fail
    refine (pCompare_same l.1 rr.1 _).mono ?_
    rintro en w9 ⟨rfl, rfl⟩
    by_cases hcm : cmpR l.1 rr.1 < 0
    · have HM := Lib.hid hcm
      go_wp2_with fail
      rw [← HW3.out]
      refine (psum1_any B w.heap.size w3.heap.size d.2 46 subR b.neg rr.1 l.1 d.1 W3 subCall hcap.out HC3.out).mono ?_
      clear hcm
      rintro en w4 ⟨rfl, hc4, hb4⟩
      obtain ⟨q, hq⟩ : ∃ q, q = sgnR subR d.2 b.neg rr.1 l.1 d.1 := ⟨_, rfl⟩
      rw [← hq] at hc4
      rw [← hq]
      have hrat := HZ3.out.bes hb4 (by have := hlt.out; omega)
      have r0 := hrat.c0
      have r1 := hrat.c1
      have r2 := hrat.c2
      have k0 := hrat.fz 0
      have k1 := hrat.fz 1
      have k2 := hrat.fz 2
      have HRAT := Lib.hid hrat
      have HC4 := Lib.hid hc4
      have HB4 := Lib.hid (HB3.out.trans hb4)
      have HQ := Lib.hid hq
      clear hq hrat hc4 hb4 z1 z2 z3
      go_wp2_with fail
      (try simp only [Exit.inBlock, Exit.then])
      refine bodyPost_ret (results_cell_row rfl _ _ (w.heap.size + 1 + 1 + 1) 24 _ (0, 0) _ rfl (HRAT.out.set ⟨_, _, _⟩).cells Tryd.underlying24 rfl (by kernel_rfl)) rfl ?_
      have hl := hlt.out
      have hrq : r = q := by rw [HRR.out, HQ.out]; unfold sumF; rw [hDD.out, hRR2.out, hLL.out]; rw [if_neg HN.out, if_pos HM.out]
      rw [hrq]
      exact ⟨rfl, ((HC4.out.setO (by omega) _).setO (by omega) _).setO (by omega) _, ((HB4.out.setNew (by omega) _).setNew (by omega) _).setNew (by omega) _⟩
    · have HM := Lib.hid hcm
      go_wp2_with fail
      rw [← HW3.out]
      refine (psum1_any B w.heap.size w3.heap.size d.2 46 subR a.neg l.1 rr.1 d.1 W3 subCall hcap.out HC3.out).mono ?_
      clear hcm
      rintro en w4 ⟨rfl, hc4, hb4⟩
      obtain ⟨q, hq⟩ : ∃ q, q = sgnR subR d.2 a.neg l.1 rr.1 d.1 := ⟨_, rfl⟩
      rw [← hq] at hc4
      rw [← hq]
      have hrat := HZ3.out.bes hb4 (by have := hlt.out; omega)
      have r0 := hrat.c0
      have r1 := hrat.c1
      have r2 := hrat.c2
      have k0 := hrat.fz 0
      have k1 := hrat.fz 1
      have k2 := hrat.fz 2
      have HRAT := Lib.hid hrat
      have HC4 := Lib.hid hc4
      have HB4 := Lib.hid (HB3.out.trans hb4)
      have HQ := Lib.hid hq
      clear hq hrat hc4 hb4 z1 z2 z3
      go_wp2_with fail
      (try simp only [Exit.inBlock, Exit.then])
      refine bodyPost_ret (results_cell_row rfl _ _ (w.heap.size + 1 + 1 + 1) 24 _ (0, 0) _ rfl (HRAT.out.set ⟨_, _, _⟩).cells Tryd.underlying24 rfl (by kernel_rfl)) rfl ?_
      have hl := hlt.out
      have hrq : r = q := by rw [HRR.out, HQ.out]; unfold sumF; rw [hDD.out, hRR2.out, hLL.out]; rw [if_neg HN.out, if_neg (Int.not_lt.2 HM.out)]
      rw [hrq]
      exact ⟨rfl, ((HC4.out.setO (by omega) _).setO (by omega) _).setO (by omega) _, ((HB4.out.setNew (by omega) _).setNew (by omega) _).setNew (by omega) _⟩
end Go.Proofs.YtbcoblpnihdhgaaDoor
