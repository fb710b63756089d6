/-
  The program's rational package: the four operations and Make.
-/
import Derived.Test.YtbcoblpnihdhgaaDoorRmD
import Derived.Test.YtbcoblpnihdhgaaDoorRmE
set_option linter.unusedVariables false
set_option maxRecDepth 100000
namespace Go.Proofs.YtbcoblpnihdhgaaDoor
open Go.RowKit
open Rt
/-- an operation of a computation -/
structure QCall (F : Nat) (f : Int → Raw → Raw → Raw × Int) : Prop where
  enter : ∀ (B : Nat) (a b : Raw) (w : World), (callFunc F #[.pointer (some ⟨B, 0, none⟩), .agg #[.bool a.neg, .string a.num, .string a.den], .agg #[.bool b.neg, .string b.num, .string b.den]]).run Tryd.prog w = .ok (.enter F #[.pointer (some ⟨B, 0, none⟩), .agg #[.bool a.neg, .string a.num, .string a.den], .agg #[.bool b.neg, .string b.num, .string b.den]]) w
  calls : ∀ (B : Nat) (e : Int) (a b : Raw) (w : World), CompAt B e w → Calls Tryd.prog F #[.pointer (some ⟨B, 0, none⟩), .agg #[.bool a.neg, .string a.num, .string a.den], .agg #[.bool b.neg, .string b.num, .string b.den]] w (DidQ B (f e a b) w)
theorem sumCall : QCall 27 sumF := ⟨fun _ _ _ _ => Tryd.call27 _ _, psum_any⟩
theorem prodCall : QCall 28 prodF := ⟨fun _ _ _ _ => Tryd.call28 _ _, pproduct_any⟩
theorem results_rat {fn : Func} {p q : Tmp} (h : fn.results = #[.cell p 24, .tmp q]) (tmps : Array Value) (w : World) (g : Nat) (r : Raw) (v : Value)
    (hp : tmps.getD p undef = .pointer (some ⟨g, 0, none⟩)) (hq : tmps.getD q undef = v) (hg : RatAt g r w) :
    (results fn tmps).run Tryd.prog w = .ok (.tuple #[.agg #[.bool r.neg, .string r.num, .string r.den], v]) w := by
  have hp' : tmps[p]?.getD undef = .pointer (some ⟨g, 0, none⟩) := by simpa using hp
  have hq' : tmps[q]?.getD undef = v := by simpa using hq
  simp [results, h, hp', hq', asAddr, run_loadVar_row w g 24 24 _ (0, 0) _ hg.cells Tryd.underlying24 rfl (by kernel_rfl)]
theorem Bes.setOwn {w w' : World} {B i : Nat} (h : Below B w w') (u : Value) : Below B w (w'.setCell ⟨B, i, none⟩ u) := h.setCell (p := ⟨B, i, none⟩) (Nat.le_refl _) _
def Applied (B : Nat) (r : Raw × Int) (w : World) (en : Ending) (w' : World) : Prop := en = .returned (.tuple #[.agg #[.bool r.1.neg, .string r.1.num, .string r.1.den], .int .i64 r.2]) ∧ Bes B w w'
set_option maxHeartbeats 4000000 in
theorem papply_any (B F : Nat) (f : Int → Raw → Raw → Raw × Int) (a b : Raw) (w : World) (hq : QCall F f) (h : CompAt B 0 w) :
    Calls Tryd.prog 26 #[.pointer (some ⟨B, 0, none⟩), .func (.func F) #[.pointer (some ⟨B, 0, none⟩)] #[], .agg #[.bool a.neg, .string a.num, .string a.den], .agg #[.bool b.neg, .string b.num, .string b.den]] w (Applied B (applyF f a b) w) := by
  obtain ⟨r, hr⟩ : ∃ r, r = applyF f a b := ⟨_, rfl⟩
  rw [← hr]
  have HRR := Lib.hid hr
  have hcf := hq.enter B a b
  have hT := two_of a b w
  have hlt : Hid (B < w.heap.size) := Lib.hid h.lt
  have HC0 := Lib.hid (h.bel hT.below)
  have HT := Lib.hid hT
  have HQ := Lib.hid hq
  have hva : Hid (∀ w, Calls Tryd.prog 21 #[.agg #[.bool a.neg, .string a.num, .string a.den]] w (GivesB (okR a) w)) := Lib.hid (fun w => pratvalid_any a w)
  have hvb : Hid (∀ w, Calls Tryd.prog 21 #[.agg #[.bool b.neg, .string b.num, .string b.den]] w (GivesB (okR b) w)) := Lib.hid (fun w => pratvalid_any b w)
  have hap : Hid (applyF f a b = resR (f (reqR 0 (okR a && okR b) 1) a b)) := Lib.hid rfl
  clear h hT hq hr
  generalize okR a = v1 at *
  generalize okR b = v2 at *
  cases v1
  · go_enter Tryd.func26, Tryd.ntmps26
    go_wp2_with fail
    refine (hva.out _).mono ?_
    rintro en w1 ⟨rfl, hb1⟩
    have hA1 := HT.out.ha.bel hb1
    have hB1 := HT.out.hb.bel hb1
    have a0 := hA1.c0
    have a1 := hA1.c1
    have a2 := hA1.c2
    have b0 := hB1.c0
    have b1 := hB1.c1
    have b2 := hB1.c2
    have HC1 := Lib.hid (HC0.out.bel hb1)
    have HZ1 := Lib.hid (HT.out.hz.bel hb1)
    have HW1 : Hid (Bes B w w1) := Lib.hid ((Bes.of HT.out.below).trans (Bes.of hb1))
    have HA1 := Lib.hid hA1
    have HBB1 := Lib.hid hB1
    clear hb1 hA1 hB1
    go_wp2_with fail
    refine (prequire_any B 0 false 1 w1 HC1.out).mono ?_
    rintro en w5 ⟨rfl, hc5, hb5⟩
    have hA5 := HA1.out.bes hb5 (by have := hlt.out; omega)
    have hB5 := HBB1.out.bes hb5 (by have := hlt.out; omega)
    have a0 := hA5.c0
    have a1 := hA5.c1
    have a2 := hA5.c2
    have b0 := hB5.c0
    have b1 := hB5.c1
    have b2 := hB5.c2
    have HZ5 := Lib.hid (HZ1.out.bes hb5 (by have := hlt.out; omega))
    have HW5 : Hid (Bes B w w5) := Lib.hid (HW1.out.trans hb5)
    have HC5 := Lib.hid hc5
    clear hA5 hB5 hc5 hb5
    go_wp2_with fail
    refine (HQ.out.calls B _ a b w5 HC5.out).mono ?_
    rintro en w6 ⟨rfl, hc6, hb6⟩
    obtain ⟨q, hq⟩ : ∃ q, q = f (reqR 0 false 1) a b := ⟨_, rfl⟩
    rw [← hq] at hc6
    rw [← hq]
    have HZ6 := Lib.hid (HZ5.out.bes hb6 (by have := hlt.out; omega))
    have HW6 : Hid (Bes B w w6) := Lib.hid (HW5.out.trans hb6)
    have HC6 := Lib.hid hc6
    have HQQ := Lib.hid hq
    clear hq hc6 hb6 a0 a1 a2 b0 b1 b2
    go_wp2_with fail
    refine (presult_any B q.2 q.1 w6 HC6.out).mono ?_
    rintro en w7 ⟨rfl, hb7⟩
    have hrr : Hid (r = resR (q.1, q.2)) := Lib.hid (by rw [HRR.out, hap.out, HQQ.out]; rfl)
    obtain ⟨t, ht⟩ : ∃ t, t = resR (q.1, q.2) := ⟨_, rfl⟩
    rw [← ht]
    have HTT := Lib.hid (hrr.out.trans ht.symm)
    have hz7 := HZ6.out.bel hb7
    have r0 := hz7.c0
    have r1 := hz7.c1
    have r2 := hz7.c2
    have k0 := hz7.fz 0
    have k1 := hz7.fz 1
    have k2 := hz7.fz 2
    have HZ7 := Lib.hid hz7
    have HW7 : Hid (Bes B w w7) := Lib.hid (HW6.out.trans (Bes.of hb7))
    clear hz7 hb7 ht
    go_wp2_with fail
    (try simp only [Exit.inBlock, Exit.then])
    refine bodyPost_ret (results_rat rfl _ _ (w.heap.size + 1 + 1) ⟨_, _, _⟩ _ rfl rfl (HZ7.out.set ⟨_, _, _⟩)) rfl ?_
    have hl := hlt.out
    rw [HTT.out]
    exact ⟨rfl, ((HW7.out.setNew (by omega) _).setNew (by omega) _).setNew (by omega) _⟩
  · go_enter Tryd.func26, Tryd.ntmps26
    go_wp2_with fail
    refine (hva.out _).mono ?_
    rintro en w1 ⟨rfl, hb1⟩
    have hA1 := HT.out.ha.bel hb1
    have hB1 := HT.out.hb.bel hb1
    have a0 := hA1.c0
    have a1 := hA1.c1
    have a2 := hA1.c2
    have b0 := hB1.c0
    have b1 := hB1.c1
    have b2 := hB1.c2
    have HC1 := Lib.hid (HC0.out.bel hb1)
    have HZ1 := Lib.hid (HT.out.hz.bel hb1)
    have HW1 : Hid (Bes B w w1) := Lib.hid ((Bes.of HT.out.below).trans (Bes.of hb1))
    have HA1 := Lib.hid hA1
    have HBB1 := Lib.hid hB1
    clear hb1 hA1 hB1
    go_wp2_with fail
    clear a0 a1 a2 b0 b1 b2
    refine (hvb.out _).mono ?_
    rintro en w2 ⟨rfl, hb2⟩
    have hA2 := HA1.out.bel hb2
    have hB2 := HBB1.out.bel hb2
    have a0 := hA2.c0
    have a1 := hA2.c1
    have a2 := hA2.c2
    have b0 := hB2.c0
    have b1 := hB2.c1
    have b2 := hB2.c2
    have HC2 := Lib.hid (HC1.out.bel hb2)
    have HZ2 := Lib.hid (HZ1.out.bel hb2)
    have HW2 : Hid (Bes B w w2) := Lib.hid (HW1.out.trans (Bes.of hb2))
    have HA2 := Lib.hid hA2
    have HBB2 := Lib.hid hB2
    clear hb2 hA2 hB2
    go_wp2_with fail
    refine (prequire_any B 0 v2 1 w2 HC2.out).mono ?_
    rintro en w5 ⟨rfl, hc5, hb5⟩
    have hA5 := HA2.out.bes hb5 (by have := hlt.out; omega)
    have hB5 := HBB2.out.bes hb5 (by have := hlt.out; omega)
    have a0 := hA5.c0
    have a1 := hA5.c1
    have a2 := hA5.c2
    have b0 := hB5.c0
    have b1 := hB5.c1
    have b2 := hB5.c2
    have HZ5 := Lib.hid (HZ2.out.bes hb5 (by have := hlt.out; omega))
    have HW5 : Hid (Bes B w w5) := Lib.hid (HW2.out.trans hb5)
    have HC5 := Lib.hid hc5
    clear hA5 hB5 hc5 hb5
    go_wp2_with fail
    refine (HQ.out.calls B _ a b w5 HC5.out).mono ?_
    rintro en w6 ⟨rfl, hc6, hb6⟩
    obtain ⟨q, hq⟩ : ∃ q, q = f (reqR 0 v2 1) a b := ⟨_, rfl⟩
    rw [← hq] at hc6
    rw [← hq]
    have HZ6 := Lib.hid (HZ5.out.bes hb6 (by have := hlt.out; omega))
    have HW6 : Hid (Bes B w w6) := Lib.hid (HW5.out.trans hb6)
    have HC6 := Lib.hid hc6
    have HQQ := Lib.hid hq
    clear hq hc6 hb6 a0 a1 a2 b0 b1 b2
    go_wp2_with fail
    refine (presult_any B q.2 q.1 w6 HC6.out).mono ?_
    rintro en w7 ⟨rfl, hb7⟩
    have hrr : Hid (r = resR (q.1, q.2)) := Lib.hid (by rw [HRR.out, hap.out, HQQ.out]; rfl)
    obtain ⟨t, ht⟩ : ∃ t, t = resR (q.1, q.2) := ⟨_, rfl⟩
    rw [← ht]
    have HTT := Lib.hid (hrr.out.trans ht.symm)
    have hz7 := HZ6.out.bel hb7
    have r0 := hz7.c0
    have r1 := hz7.c1
    have r2 := hz7.c2
    have k0 := hz7.fz 0
    have k1 := hz7.fz 1
    have k2 := hz7.fz 2
    have HZ7 := Lib.hid hz7
    have HW7 : Hid (Bes B w w7) := Lib.hid (HW6.out.trans (Bes.of hb7))
    clear hz7 hb7 ht
    go_wp2_with fail
    (try simp only [Exit.inBlock, Exit.then])
    refine bodyPost_ret (results_rat rfl _ _ (w.heap.size + 1 + 1) ⟨_, _, _⟩ _ rfl rfl (HZ7.out.set ⟨_, _, _⟩)) rfl ?_
    have hl := hlt.out
    rw [HTT.out]
    exact ⟨rfl, ((HW7.out.setNew (by omega) _).setNew (by omega) _).setNew (by omega) _⟩
/-- two numbers, the result's place and a new computation -/
theorem four_of (a b : Raw) (w : World) : Two a b w ((((w.alloc (ratO a)).alloc (ratO b)).alloc ratZ).alloc (Obj.cells #[Value.int .i64 0] 56)) ∧ CompAt (w.heap.size + 1 + 1 + 1) 0 ((((w.alloc (ratO a)).alloc (ratO b)).alloc ratZ).alloc (Obj.cells #[Value.int .i64 0] 56)) := by
  have hT := two_of a b w
  have hs : (((w.alloc (ratO a)).alloc (ratO b)).alloc ratZ).heap.size = w.heap.size + 1 + 1 + 1 := by simp
  generalize ((w.alloc (ratO a)).alloc (ratO b)).alloc ratZ = W at *
  have hb : Below W.heap.size W (W.alloc (Obj.cells #[Value.int .i64 0] 56)) := (Below.refl _ _).alloc (Nat.le_refl _) _
  have h0 := heap_lastM W (Obj.cells #[Value.int .i64 0] 56)
  rw [hs] at h0
  exact ⟨⟨hT.below.trans (hb.mono hT.below.size), hT.ha.bel hb, hT.hb.bel hb, hT.hz.bel hb⟩, ⟨h0⟩⟩
theorem Bes.low {B m : Nat} {w w' : World} (h : Bes B w w') (hm : m ≤ B) (hs : m ≤ w.heap.size) : Below m w w' := ⟨h.os, h.tape, h.output, h.size, fun k hk => h.block k (by omega) (by omega)⟩
set_option maxHeartbeats 2000000 in
theorem pratadd_any (a b : Raw) (w : World) : Calls Tryd.prog 13 #[.agg #[.bool a.neg, .string a.num, .string a.den], .agg #[.bool b.neg, .string b.num, .string b.den]] w (GivesR (addE a b) w) := by
  have hmf : ∀ (fn : Fn) (first cap : Array Value) (w : World), (Instr.makeFunc fn first cap).run Tryd.prog w = .ok (.func fn first cap) w := fun _ _ _ _ => rfl
  obtain ⟨t, ht⟩ : ∃ t, t = addE a b := ⟨_, rfl⟩
  rw [← ht]
  have HTT := Lib.hid ht
  clear ht
  obtain ⟨hT, hC⟩ := four_of a b w
  have HT := Lib.hid hT
  have HC := Lib.hid hC
  clear hT hC
  go_enter Tryd.func13, Tryd.ntmps13
  go_wp2_with fail
  refine (papply_any (w.heap.size + 1 + 1 + 1) 27 sumF a b _ sumCall HC.out).mono ?_
  rintro en w7 ⟨rfl, hb7⟩
  rw [add_is, ← HTT.out]
  have hz7 := HT.out.hz.bes hb7 (by omega)
  have r0 := hz7.c0
  have r1 := hz7.c1
  have r2 := hz7.c2
  have k0 := hz7.fz 0
  have k1 := hz7.fz 1
  have k2 := hz7.fz 2
  have HZ7 := Lib.hid hz7
  have HW7 : Hid (Below w.heap.size w w7) := Lib.hid (HT.out.below.trans (hb7.low (by omega) HT.out.below.size))
  clear hz7 hb7
  go_wp2_with fail
  (try simp only [Exit.inBlock, Exit.then])
  refine bodyPost_ret (results_rat rfl _ _ (w.heap.size + 1 + 1) ⟨_, _, _⟩ _ rfl rfl (HZ7.out.set ⟨_, _, _⟩)) rfl ?_
  exact ⟨rfl, ((HW7.out.setCell (p := ⟨w.heap.size + 1 + 1, 0, none⟩) (by show w.heap.size ≤ w.heap.size + 1 + 1; omega) _).setCell (p := ⟨w.heap.size + 1 + 1, 1, none⟩) (by show w.heap.size ≤ w.heap.size + 1 + 1; omega) _).setCell (p := ⟨w.heap.size + 1 + 1, 2, none⟩) (by show w.heap.size ≤ w.heap.size + 1 + 1; omega) _⟩
set_option maxHeartbeats 2000000 in
theorem pratmul_any (a b : Raw) (w : World) : Calls Tryd.prog 14 #[.agg #[.bool a.neg, .string a.num, .string a.den], .agg #[.bool b.neg, .string b.num, .string b.den]] w (GivesR (mulE a b) w) := by
  have hmf : ∀ (fn : Fn) (first cap : Array Value) (w : World), (Instr.makeFunc fn first cap).run Tryd.prog w = .ok (.func fn first cap) w := fun _ _ _ _ => rfl
  obtain ⟨t, ht⟩ : ∃ t, t = mulE a b := ⟨_, rfl⟩
  rw [← ht]
  have HTT := Lib.hid ht
  clear ht
  obtain ⟨hT, hC⟩ := four_of a b w
  have HT := Lib.hid hT
  have HC := Lib.hid hC
  clear hT hC
  go_enter Tryd.func14, Tryd.ntmps14
  go_wp2_with fail
  refine (papply_any (w.heap.size + 1 + 1 + 1) 28 prodF a b _ prodCall HC.out).mono ?_
  rintro en w7 ⟨rfl, hb7⟩
  rw [mul_is, ← HTT.out]
  have hz7 := HT.out.hz.bes hb7 (by omega)
  have r0 := hz7.c0
  have r1 := hz7.c1
  have r2 := hz7.c2
  have k0 := hz7.fz 0
  have k1 := hz7.fz 1
  have k2 := hz7.fz 2
  have HZ7 := Lib.hid hz7
  have HW7 : Hid (Below w.heap.size w w7) := Lib.hid (HT.out.below.trans (hb7.low (by omega) HT.out.below.size))
  clear hz7 hb7
  go_wp2_with fail
  (try simp only [Exit.inBlock, Exit.then])
  refine bodyPost_ret (results_rat rfl _ _ (w.heap.size + 1 + 1) ⟨_, _, _⟩ _ rfl rfl (HZ7.out.set ⟨_, _, _⟩)) rfl ?_
  exact ⟨rfl, ((HW7.out.setCell (p := ⟨w.heap.size + 1 + 1, 0, none⟩) (by show w.heap.size ≤ w.heap.size + 1 + 1; omega) _).setCell (p := ⟨w.heap.size + 1 + 1, 1, none⟩) (by show w.heap.size ≤ w.heap.size + 1 + 1; omega) _).setCell (p := ⟨w.heap.size + 1 + 1, 2, none⟩) (by show w.heap.size ≤ w.heap.size + 1 + 1; omega) _⟩
end Go.Proofs.YtbcoblpnihdhgaaDoor
