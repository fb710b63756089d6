/-
  The program's calendar (layer 9): Next.
-/
import Derived.Test.YtkjflpkokeckgaaDoorCaPB
set_option linter.unusedVariables false
set_option maxRecDepth 100000
namespace Go.Proofs.YtkjflpkokeckgaaDoor
open Go.RowKit Go.Shelf
open Ca
attribute [local go_sem] Oper.semAt_some
theorem blk_lt9 {w : World} {B : Nat} {o : Obj} (h : w.heap[B]? = some o) : B < w.heap.size := (Array.getElem?_eq_some_iff.1 h).1
theorem boxed_keep {W W' : World} {row : Option Nat} {b : Nat} {t : TypeId} {v : Value} (h : Boxed W b t v) (hg : W.grownBy W' row) (hr : ∀ r, row = some r → ∃ o : Obj, W.heap[r]? = some o ∧ o.isCells = false) : Boxed W' b t v :=
  h.kept hg (fun e => by
    obtain ⟨o, ho, hc⟩ := hr b e.symm
    have h' : W.heap[b]? = some (.cells #[v] t (0, 0)) := h
    rw [h'] at ho
    cases ho; cases hc)
theorem results_c2 {fn : Func} {p q : Tmp} (h : fn.results = #[.cell p 3, .cell q 23]) (tmps : Array Value) (w : World) (g k : Nat) (r e : Int)
    (hp : tmps.getD p undef = .pointer (some ⟨g, 0, none⟩)) (hq : tmps.getD q undef = .pointer (some ⟨k, 0, none⟩)) (hg : w.cell? ⟨g, 0, none⟩ = some (.int .i64 r)) (he : w.cell? ⟨k, 0, none⟩ = some (.int .i64 e)) :
    (results fn tmps).run Tryd.prog w = .ok (.tuple #[.int .i64 r, .int .i64 e]) w := by
  have hp' : tmps[p]?.getD undef = .pointer (some ⟨g, 0, none⟩) := by simpa using hp
  have hq' : tmps[q]?.getD undef = .pointer (some ⟨k, 0, none⟩) := by simpa using hq
  simp [results, h, hp', hq', asAddr, loadVar, go_sem, hg, he]
theorem put_box {W : World} {D b : Nat} {t : TypeId} {v : Value} {o : Obj} (h : Boxed W b t v) (hK : W.heap[D]? = some (.deferred (some []))) : Boxed (W.putObj D o) b t v :=
  (World.putObj_heap_other (by
    intro e; subst e
    have h' : W.heap[b]? = some (.cells #[v] t (0, 0)) := h
    rw [hK] at h'; cases h')).trans h
/-- between two rounds: no moment that has come reaches the angle -/
structure SofarN (B : Nat) (a : Nat) (w : World) (pre : List Nat) (W : World) : Prop where
  none : ∀ y ∈ pre, hits (mo y) a = false
  b0 : Boxed W B 3 (.int .i64 (a : Int))
  b1 : Boxed W (B + 1) 3 (.int .i64 0)
  b2 : Boxed W (B + 1 + 1) 23 (.int .i64 0)
  bel : Below w.heap.size w W
/-- a round has left: the last moment is the first one that reaches it -/
structure LeftN (B : Nat) (a : Nat) (w : World) (c : Code) (pre : List Nat) (W : World) : Prop where
  ret : c = .ret
  last : ∃ pre' x, pre = pre' ++ [x] ∧ (∀ y ∈ pre', hits (mo y) a = false) ∧ hits (mo x) a = true ∧ Boxed W (B + 1) 3 (.int .i64 ((mo x : Nat) : Int)) ∧ Boxed W (B + 1 + 1) 23 (.int .i64 0)
  bel : Below w.heap.size w W
theorem sofarN_own {B a C : Nat} {w : World} (hC : w.heap.size ≤ C) : OwnFrom C (SofarN B a w) := by
  intro s X Y row hs hg hr
  have hr' : ∀ r, row = some r → ∃ o : Obj, X.heap[r]? = some o ∧ o.isCells = false := fun r e => (hr r e).2
  exact ⟨hs.none, boxed_keep hs.b0 hg hr', boxed_keep hs.b1 hg hr', boxed_keep hs.b2 hg hr', ownFrom_below (Nat.le_refl _) hC s X Y row hs.bel hg hr⟩
theorem leftN_own {B a C : Nat} {w : World} (hC : w.heap.size ≤ C) (c : Code) : OwnFrom C (LeftN B a w c) := by
  intro s X Y row hs hg hr
  have hr' : ∀ r, row = some r → ∃ o : Obj, X.heap[r]? = some o ∧ o.isCells = false := fun r e => (hr r e).2
  obtain ⟨h1, ⟨pre', x, h2, h3, h4, h5, h6⟩, h7⟩ := hs
  exact ⟨h1, ⟨pre', x, h2, h3, h4, boxed_keep h5 hg hr', boxed_keep h6 hg hr'⟩, ownFrom_below (Nat.le_refl _) hC s X Y row h7 hg hr⟩
set_option maxHeartbeats 2000000 in
theorem pNext_ok (m a : Nat) (hm : m < 38400) (ha : a < 5760) (w : World) : Calls Tryd.prog 18 #[.int .i64 (m : Int), .int .i64 (a : Int)] w (GivesN (nexA m a).1 (nexA m a).2 w) := by
  have cI : Hid (∀ w, Calls Tryd.prog 21 #[.int .i64 (m : Int)] w fun e w' => e = .returned (.bool true) ∧ w = w') := Lib.hid (fun w => by have := pis_any (m : Int) w; rwa [isM_nat hm] at this)
  have HA := Lib.hid (nexA_ok hm ha)
  obtain ⟨R, hR⟩ : ∃ R, R = nexA (m : Int) (a : Int) := ⟨_, rfl⟩
  rw [← hR] at HA ⊢
  have t1 : decide ((a : Int) < 0) = false := decide_eq_false (by omega)
  have t2 : decide (5760 ≤ (a : Int)) = false := decide_eq_false (by omega)
  clear hR
  refine (callsIn_wide (n := 9)).1 ?_
  refine callsIn_of_wp_marks Tryd.func18 rfl trivial ?_ rfl
  simp only [Tryd.ntmps18, List.size_toArray, List.length_cons, List.length_nil, Nat.reduceAdd, Nat.reduceSub, Array.replicate_succ, Array.replicate_zero, List.push_toArray, List.append_toArray, List.nil_append, List.cons_append]
  refine wpIn_wide.2 ?_
  go_wp2_with fail
  refine (cI.out _).mono ?_
  rintro e w' ⟨rfl, rfl⟩
  go_wp2_with fail
  refine (pfrom_any (m : Int) _).mono ?_
  rintro e W0 ⟨rfl, hW0⟩
  have hb0 : Below w.heap.size w W0 := by rw [hW0]; exact ((((Below.refl _ w).alloc (Nat.le_refl _) _).alloc (by simp) _).alloc (by simp; omega) _).alloc (by simp; omega) _
  have b0 : Boxed W0 w.heap.size 3 (.int .i64 (a : Int)) := by rw [hW0]; exact (((Boxed.new w _ _).alloc _).alloc _).alloc _
  have b1 : Boxed W0 (w.heap.size + 1) 3 (.int .i64 0) := by
    rw [hW0]
    have := Boxed.new (w.alloc (.cells #[.int .i64 (a : Int)] 3)) 3 (.int .i64 0)
    rw [World.size_alloc] at this
    exact (this.alloc _).alloc _
  have b2 : Boxed W0 (w.heap.size + 1 + 1) 23 (.int .i64 0) := by
    rw [hW0]
    have := Boxed.new ((w.alloc (.cells #[.int .i64 (a : Int)] 3)).alloc (.cells #[.int .i64 0] 3)) 23 (.int .i64 0)
    rw [World.size_alloc, World.size_alloc] at this
    exact this.alloc _
  have b3 : Boxed W0 (w.heap.size + 1 + 1 + 1) 3 (.int .i64 (m : Int)) := by
    rw [hW0]
    have := Boxed.new (((w.alloc (.cells #[.int .i64 (a : Int)] 3)).alloc (.cells #[.int .i64 0] 3)).alloc (.cells #[.int .i64 0] 23)) 3 (.int .i64 (m : Int))
    rw [World.size_alloc, World.size_alloc, World.size_alloc] at this
    exact this
  have hs0 : W0.heap.size = w.heap.size + 1 + 1 + 1 + 1 := by rw [hW0]; simp
  have hn3 : (((w.alloc (Obj.cells #[Value.int IntKind.i64 (a : Int)] 3)).alloc (Obj.cells #[Value.int IntKind.i64 0] 3)).alloc (Obj.cells #[Value.int IntKind.i64 0] 23)).heap.size = w.heap.size + 1 + 1 + 1 := by simp
  rw [hn3]
  clear hW0 hn3
  obtain ⟨B, hB⟩ : ∃ B, B = w.heap.size := ⟨_, rfl⟩
  have H0 : Hid (SofarN B a w [] W0) := Lib.hid (by rw [hB]; exact ⟨by simp, b0, b1, b2, hb0⟩)
  rw [← hB] at b3
  have B3 := Lib.hid b3
  have HB := Lib.hid hB
  clear b0 b1 b2 b3 hb0 hs0
  simp only [← hB]
  clear hB
  go_wp2_with fail
  have HLE : Hid (w.heap.size ≤ W0.heap.size) := Lib.hid H0.out.bel.size
  refine (wpIn_wide (n := 6)).1 ?_
  refine wpIn_rangeFunc_ownF rfl (by omega) (gf := 35) (lb := #[.pointer (some ⟨B + 1 + 1 + 1, 0, none⟩)]) rfl trivial (enters_of Tryd.func35 (by kernel_rfl) rfl)
    (pfrom_stops 5 (by omega) (B + 1 + 1 + 1) w.heap.size m hm W0 B3.out.lt B3.out.cell) belowK_t (belowK_b HLE.out) (Below.refl _ _) (fun _ => rfl)
    (SofarN B a w) (LeftN B a w) (sofarN_own HLE.out) (fun c => leftN_own HLE.out c) H0.out
    (fun x => { tmps := #[.int .i64 (m : Int), .int .i64 (a : Int), undef, .pointer (some ⟨B, 0, none⟩), .pointer (some ⟨B + 1, 0, none⟩), .pointer (some ⟨B + 1 + 1, 0, none⟩), .int .i64 ((mo x : Nat) : Int), .int .i64 (m : Int), .bool true, .bool false, .bool false, .int .i64 (a : Int), .bool false, .bool false, .bool false, .int .i64 (a : Int), .bool false, .bool false, .int .i64 (m : Int), .func (.func 35) #[] #[.pointer (some ⟨B + 1 + 1 + 1, 0, none⟩)], .int .i64 ((mo x : Nat) : Int), undef, undef, undef, undef], defers := [] }) ?assign ?body ?done ?stop
  case assign =>
    intro l x W K hK
    gi_wp2_with fail
    exact hK
  case body =>
    rintro l pre x W ⟨hnone, c0, c1, c2, hbel⟩ hlen
    have cR := Lib.hid (preach_any (mo x) a (mo_lt x) ha W)
    have HN := Lib.hid hnone
    have C0 := Lib.hid c0
    have C1 := Lib.hid c1
    have C2 := Lib.hid c2
    have HBL := Lib.hid hbel
    have k0 := c0.cell
    have HM : Hid (hits (mo x) a = hits (mo x) a) := Lib.hid rfl
    obtain ⟨b, hb⟩ : ∃ b, b = hits (mo x) a := ⟨_, rfl⟩
    rw [← hb] at cR
    have HBB := Lib.hid hb
    clear hnone c0 c1 c2 hbel hb HM hlen
    gi_wp2_with fail
    refine ⟨trivial, ?_⟩
    refine (CallsIn.inRound l (callsIn_wide.2 cR.out)).mono ?_
    rintro e W1 ⟨rfl, rfl⟩
    have k1 := C1.out.cell
    have f1 := C1.out.frozen
    have k2 := C2.out.cell
    have f2 := C2.out.frozen
    cases b with
    | true =>
      gi_wp2_with fail
      have hle1 : w.heap.size ≤ B + 1 := by have := HB.out; omega
      have hle2 : w.heap.size ≤ B + 1 + 1 := by omega
      exact ⟨(KeepsOthers.setCell _ _ _).trans (KeepsOthers.setCell _ _ _), rfl, ⟨pre, x, rfl, HN.out, HBB.out.symm, (C1.out.set _).other (by omega) _, (C2.out.other (by omega) _).set _⟩, (HBL.out.setCell (p := ⟨B + 1, 0, none⟩) hle1 _).setCell (p := ⟨B + 1 + 1, 0, none⟩) hle2 _⟩
    | false =>
      gi_wp2_with fail
      refine ⟨KeepsOthers.refl _, Below.refl _ _, ?_, C0.out, C1.out, C2.out, HBL.out⟩
      intro y hy
      rcases List.mem_append.1 hy with h | h
      · exact HN.out y h
      · simp only [List.mem_singleton] at h; subst h; exact HBB.out.symm
  case done =>
    rintro D ys W hD rfl ⟨hnone, c0, c1, c2, hbel⟩ hK
    have hnf : nextF m a = none := nextF_none (fun y h1 h2 => by have := hnone y (fullM_mem h1 h2); rwa [mo_id h2] at this)
    have HR : Hid (R = (0, 9)) := Lib.hid (by rw [HA.out, hnf])
    have C1 := Lib.hid c1
    have C2 := Lib.hid c2
    have HBL := Lib.hid hbel
    have HDD := Lib.hid hD
    have HK := Lib.hid hK
    have k1 := c1.cell
    have f1 := c1.frozen
    have k2 := c2.cell
    have f2 := c2.frozen
    clear hnone c0 c1 c2 hbel hK hD hnf
    go_wp2_with fail
    have hK2 := ((KeepsOthers.setCell W ⟨B + 1, 0, none⟩ (.int .i64 0)).trans (KeepsOthers.setCell _ ⟨B + 1 + 1, 0, none⟩ (.int .i64 9))).same D _ HK.out rfl
    have hle1 : w.heap.size ≤ B + 1 := by have := HB.out; omega
    have hle2 : w.heap.size ≤ B + 1 + 1 := by omega
    refine ⟨by simp, .inl ⟨_, _, rfl, run_takeDeferred hK2, ?_⟩⟩
    refine ⟨_, results_c2 rfl _ _ (B + 1) (B + 1 + 1) 0 9 rfl rfl (put_box ((C1.out.set _).other (by omega) _) hK2).cell (put_box ((C2.out.other (by omega) _).set _) hK2).cell, ?_⟩
    rw [HR.out]
    exact ⟨rfl, ((HBL.out.setCell (p := ⟨B + 1, 0, none⟩) hle1 _).setCell (p := ⟨B + 1 + 1, 0, none⟩) hle2 _).trans (belowK_b (w := w) (Nat.le_refl _) _ D _ _ (by have := HLE.out; have := HDD.out; omega) hK2 rfl rfl)⟩
  case stop =>
    rintro D c pre W hD hSp ⟨rfl, ⟨pre', x, rfl, hnone, hx, c1, c2⟩, hbel⟩ hK
    obtain ⟨h1, h2, h3⟩ := fullM_pre hSp
    rw [mo_id h2] at hx c1
    have hnf : nextF m a = some x := nextF_some h1 h2 hx (fun y q1 q2 => by have := hnone y (h3 y q1 q2); rwa [mo_id (by omega)] at this)
    have HR : Hid (R = (((x : Nat) : Int), 0)) := Lib.hid (by rw [HA.out, hnf])
    gi_wp2_with fail
    refine ⟨by simp, .inl ⟨_, _, rfl, run_takeDeferred hK, ?_⟩⟩
    refine ⟨_, results_c2 rfl _ _ (B + 1) (B + 1 + 1) (x : Int) 0 rfl rfl (put_box c1 hK).cell (put_box c2 hK).cell, ?_⟩
    rw [HR.out]
    exact ⟨rfl, hbel.trans (belowK_b (w := w) (Nat.le_refl _) W D _ _ (by have := HLE.out; omega) hK rfl rfl)⟩
set_option maxHeartbeats 2000000 in
theorem pNext_noM (m a : Int) (hm : isM m = false) (w : World) : Calls Tryd.prog 18 #[.int .i64 m, .int .i64 a] w (GivesN 0 1 w) := by
  have cI : Hid (∀ w, Calls Tryd.prog 21 #[.int .i64 m] w fun e w' => e = .returned (.bool false) ∧ w = w') := Lib.hid (fun w => by have := pis_any m w; rwa [hm] at this)
  clear hm
  go_enter Tryd.func18, Tryd.ntmps18
  go_wp2_with fail
  refine (cI.out _).mono ?_
  rintro e w' ⟨rfl, rfl⟩
  obtain ⟨W0, hW0⟩ : ∃ W, W = ((w.alloc (Obj.cells #[Value.int .i64 a] 3)).alloc (Obj.cells #[Value.int .i64 0] 3)).alloc (Obj.cells #[Value.int .i64 0] 23) := ⟨_, rfl⟩
  have hb0 : Below w.heap.size w W0 := by rw [hW0]; exact (((Below.refl _ w).alloc (Nat.le_refl _) _).alloc (by simp) _).alloc (by simp; omega) _
  have b0 : Boxed W0 w.heap.size 3 (.int .i64 a) := by rw [hW0]; exact ((Boxed.new w _ _).alloc _).alloc _
  have b1 : Boxed W0 (w.heap.size + 1) 3 (.int .i64 0) := by
    rw [hW0]
    have := Boxed.new (w.alloc (.cells #[.int .i64 a] 3)) 3 (.int .i64 0)
    rw [World.size_alloc] at this
    exact this.alloc _
  have b2 : Boxed W0 (w.heap.size + 1 + 1) 23 (.int .i64 0) := by
    rw [hW0]
    have := Boxed.new ((w.alloc (.cells #[.int .i64 a] 3)).alloc (.cells #[.int .i64 0] 3)) 23 (.int .i64 0)
    rw [World.size_alloc, World.size_alloc] at this
    exact this
  rw [← hW0]
  obtain ⟨B, hB⟩ : ∃ B, B = w.heap.size := ⟨_, rfl⟩
  rw [← hB] at b0 b1 b2
  simp only [← hB]
  have k0 := b0.cell
  have k1 := b1.cell
  have f1 := b1.frozen
  have k2 := b2.cell
  have f2 := b2.frozen
  have HB := Lib.hid hB
  have HBL := Lib.hid hb0
  have B1 := Lib.hid b1
  have B2 := Lib.hid b2
  clear b0 b1 b2 hb0 hB hW0
  go_wp2_with fail
  (try simp only [Exit.inBlock, Exit.then])
  have hle1 : w.heap.size ≤ B + 1 := by have := HB.out; omega
  have hle2 : w.heap.size ≤ B + 1 + 1 := by omega
  refine bodyPost_ret (results_c2 rfl _ _ (B + 1) (B + 1 + 1) 0 1 rfl rfl ((B1.out.set _).other (by omega) _).cell ((B2.out.other (by omega) _).set _).cell) rfl ?_
  exact ⟨rfl, (HBL.out.setCell (p := ⟨B + 1, 0, none⟩) hle1 _).setCell (p := ⟨B + 1 + 1, 0, none⟩) hle2 _⟩
set_option maxHeartbeats 2000000 in
theorem pNext_neg (m a : Int) (hm : isM m = true) (ha : a < 0) (w : World) : Calls Tryd.prog 18 #[.int .i64 m, .int .i64 a] w (GivesN 0 1 w) := by
  have cI : Hid (∀ w, Calls Tryd.prog 21 #[.int .i64 m] w fun e w' => e = .returned (.bool true) ∧ w = w') := Lib.hid (fun w => by have := pis_any m w; rwa [hm] at this)
  have t1 : decide (a < 0) = true := decide_eq_true ha
  clear hm
  go_enter Tryd.func18, Tryd.ntmps18
  go_wp2_with fail
  refine (cI.out _).mono ?_
  rintro e w' ⟨rfl, rfl⟩
  obtain ⟨W0, hW0⟩ : ∃ W, W = ((w.alloc (Obj.cells #[Value.int .i64 a] 3)).alloc (Obj.cells #[Value.int .i64 0] 3)).alloc (Obj.cells #[Value.int .i64 0] 23) := ⟨_, rfl⟩
  have hb0 : Below w.heap.size w W0 := by rw [hW0]; exact (((Below.refl _ w).alloc (Nat.le_refl _) _).alloc (by simp) _).alloc (by simp; omega) _
  have b0 : Boxed W0 w.heap.size 3 (.int .i64 a) := by rw [hW0]; exact ((Boxed.new w _ _).alloc _).alloc _
  have b1 : Boxed W0 (w.heap.size + 1) 3 (.int .i64 0) := by
    rw [hW0]
    have := Boxed.new (w.alloc (.cells #[.int .i64 a] 3)) 3 (.int .i64 0)
    rw [World.size_alloc] at this
    exact this.alloc _
  have b2 : Boxed W0 (w.heap.size + 1 + 1) 23 (.int .i64 0) := by
    rw [hW0]
    have := Boxed.new ((w.alloc (.cells #[.int .i64 a] 3)).alloc (.cells #[.int .i64 0] 3)) 23 (.int .i64 0)
    rw [World.size_alloc, World.size_alloc] at this
    exact this
  rw [← hW0]
  obtain ⟨B, hB⟩ : ∃ B, B = w.heap.size := ⟨_, rfl⟩
  rw [← hB] at b0 b1 b2
  simp only [← hB]
  have k0 := b0.cell
  have k1 := b1.cell
  have f1 := b1.frozen
  have k2 := b2.cell
  have f2 := b2.frozen
  have HB := Lib.hid hB
  have HBL := Lib.hid hb0
  have B1 := Lib.hid b1
  have B2 := Lib.hid b2
  clear b0 b1 b2 hb0 hB hW0
  go_wp2_with fail
  (try simp only [Exit.inBlock, Exit.then])
  have hle1 : w.heap.size ≤ B + 1 := by have := HB.out; omega
  have hle2 : w.heap.size ≤ B + 1 + 1 := by omega
  refine bodyPost_ret (results_c2 rfl _ _ (B + 1) (B + 1 + 1) 0 1 rfl rfl ((B1.out.set _).other (by omega) _).cell ((B2.out.other (by omega) _).set _).cell) rfl ?_
  exact ⟨rfl, (HBL.out.setCell (p := ⟨B + 1, 0, none⟩) hle1 _).setCell (p := ⟨B + 1 + 1, 0, none⟩) hle2 _⟩
set_option maxHeartbeats 2000000 in
theorem pNext_big (m a : Int) (hm : isM m = true) (h0 : 0 ≤ a) (ha : 5760 ≤ a) (w : World) : Calls Tryd.prog 18 #[.int .i64 m, .int .i64 a] w (GivesN 0 1 w) := by
  have cI : Hid (∀ w, Calls Tryd.prog 21 #[.int .i64 m] w fun e w' => e = .returned (.bool true) ∧ w = w') := Lib.hid (fun w => by have := pis_any m w; rwa [hm] at this)
  have t1 : decide (a < 0) = false := decide_eq_false (by omega)
  have t2 : decide (5760 ≤ a) = true := decide_eq_true ha
  clear hm
  go_enter Tryd.func18, Tryd.ntmps18
  go_wp2_with fail
  refine (cI.out _).mono ?_
  rintro e w' ⟨rfl, rfl⟩
  obtain ⟨W0, hW0⟩ : ∃ W, W = ((w.alloc (Obj.cells #[Value.int .i64 a] 3)).alloc (Obj.cells #[Value.int .i64 0] 3)).alloc (Obj.cells #[Value.int .i64 0] 23) := ⟨_, rfl⟩
  have hb0 : Below w.heap.size w W0 := by rw [hW0]; exact (((Below.refl _ w).alloc (Nat.le_refl _) _).alloc (by simp) _).alloc (by simp; omega) _
  have b0 : Boxed W0 w.heap.size 3 (.int .i64 a) := by rw [hW0]; exact ((Boxed.new w _ _).alloc _).alloc _
  have b1 : Boxed W0 (w.heap.size + 1) 3 (.int .i64 0) := by
    rw [hW0]
    have := Boxed.new (w.alloc (.cells #[.int .i64 a] 3)) 3 (.int .i64 0)
    rw [World.size_alloc] at this
    exact this.alloc _
  have b2 : Boxed W0 (w.heap.size + 1 + 1) 23 (.int .i64 0) := by
    rw [hW0]
    have := Boxed.new ((w.alloc (.cells #[.int .i64 a] 3)).alloc (.cells #[.int .i64 0] 3)) 23 (.int .i64 0)
    rw [World.size_alloc, World.size_alloc] at this
    exact this
  rw [← hW0]
  obtain ⟨B, hB⟩ : ∃ B, B = w.heap.size := ⟨_, rfl⟩
  rw [← hB] at b0 b1 b2
  simp only [← hB]
  have k0 := b0.cell
  have k1 := b1.cell
  have f1 := b1.frozen
  have k2 := b2.cell
  have f2 := b2.frozen
  have HB := Lib.hid hB
  have HBL := Lib.hid hb0
  have B1 := Lib.hid b1
  have B2 := Lib.hid b2
  clear b0 b1 b2 hb0 hB hW0
  go_wp2_with fail
  (try simp only [Exit.inBlock, Exit.then])
  have hle1 : w.heap.size ≤ B + 1 := by have := HB.out; omega
  have hle2 : w.heap.size ≤ B + 1 + 1 := by omega
  refine bodyPost_ret (results_c2 rfl _ _ (B + 1) (B + 1 + 1) 0 1 rfl rfl ((B1.out.set _).other (by omega) _).cell ((B2.out.other (by omega) _).set _).cell) rfl ?_
  exact ⟨rfl, (HBL.out.setCell (p := ⟨B + 1, 0, none⟩) hle1 _).setCell (p := ⟨B + 1 + 1, 0, none⟩) hle2 _⟩
theorem pNext_any (m a : Int) (hm : I64 m) (ha : I64 a) (w : World) : Calls Tryd.prog 18 #[.int .i64 m, .int .i64 a] w (GivesN (nexA m a).1 (nexA m a).2 w) := by
  by_cases hM : isM m = true
  · by_cases h0 : 0 ≤ a
    · by_cases h1 : 5760 ≤ a
      · have e : nexA m a = (0, 1) := by
          unfold nexA okMA
          rw [hM, if_neg (by simp; omega)]
        rw [e]; exact pNext_big m a hM h0 h1 w
      · obtain ⟨k, rfl, hk⟩ := isM_yes hM
        obtain ⟨b, rfl⟩ : ∃ b : Nat, a = (b : Int) := ⟨a.toNat, by omega⟩
        exact pNext_ok k b hk (by omega) w
    · have e : nexA m a = (0, 1) := by
        unfold nexA okMA
        rw [hM, if_neg (by simp; omega)]
      rw [e]; exact pNext_neg m a hM (by omega) w
  · have hM := Bool.eq_false_iff.2 hM
    have e : nexA m a = (0, 1) := by
      unfold nexA okMA
      rw [hM, if_neg (by simp)]
    rw [e]; exact pNext_noM m a hM w
end Go.Proofs.YtkjflpkokeckgaaDoor
