/-
  The program's airmass (layer 11): windows.
-/
import Derived.Test.YtebkifhdbpeeoaaAmPC
set_option linter.unusedVariables false
set_option maxRecDepth 100000
namespace Go.Proofs.Ytebkifhdbpeeoaa.Am
open Go.RowKit Go.Shelf
open Ca (sid sid_lt)
attribute [local go_sem] Oper.semAt_some
/-- the variables of Windows: its arguments and its results -/
structure VarAt (B : Nat) (s t least : Int) (W : World) : Prop where
  bs : Boxed W B 3 (.int .i64 s)
  bt : Boxed W (B + 1) 3 (.int .i64 t)
  bl : Boxed W (B + 1 + 1) 3 (.int .i64 least)
  r0 : Boxed W (B + 1 + 1 + 1) 28 (.slice none 0 0)
  r1 : Boxed W (B + 1 + 1 + 1 + 1) 23 (.int .i64 0)
theorem VarAt.bel {B : Nat} {s t least : Int} {W W' : World} (h : VarAt B s t least W) (hb : Below W.heap.size W W') : VarAt B s t least W' :=
  ⟨boxed_bel h.bs hb, boxed_bel h.bt hb, boxed_bel h.bl hb, boxed_bel h.r0 hb, boxed_bel h.r1 hb⟩
theorem VarAt.new (w : World) (s t least : Int) : VarAt w.heap.size s t least (((((w.alloc (.cells #[.int .i64 s] 3)).alloc (.cells #[.int .i64 t] 3)).alloc (.cells #[.int .i64 least] 3)).alloc (.cells #[.slice none 0 0] 28)).alloc (.cells #[.int .i64 0] 23)) := by
  have n : ∀ (W : World) (B : Nat) (t : TypeId) (v : Value), W.heap.size = B → Boxed (W.alloc (.cells #[v] t)) B t v := fun W B t v h => by subst h; exact Boxed.new W t v
  exact ⟨((((Boxed.new w _ _).alloc _).alloc _).alloc _).alloc _, (((n _ _ _ _ (by simp)).alloc _).alloc _).alloc _, ((n _ _ _ _ (by simp)).alloc _).alloc _, (n _ _ _ _ (by simp)).alloc _, n _ _ _ _ (by simp)⟩
theorem results_w2 {fn : Func} {p q : Tmp} (h : fn.results = #[.cell p 28, .cell q 23]) (tmps : Array Value) (w : World) (g k : Nat) (a : Option Addr) (n c : Nat) (e : Int)
    (hp : tmps.getD p undef = .pointer (some ⟨g, 0, none⟩)) (hq : tmps.getD q undef = .pointer (some ⟨k, 0, none⟩)) (hg : w.cell? ⟨g, 0, none⟩ = some (.slice a n c)) (he : w.cell? ⟨k, 0, none⟩ = some (.int .i64 e)) :
    (results fn tmps).run Try.prog w = .ok (.tuple #[.slice a n c, .int .i64 e]) w := by
  have hp' : tmps[p]?.getD undef = .pointer (some ⟨g, 0, none⟩) := by simpa using hp
  have hq' : tmps[q]?.getD undef = .pointer (some ⟨k, 0, none⟩) := by simpa using hq
  simp [results, h, hp', hq', asAddr, loadVar, go_sem, hg, he]
theorem put_box {W : World} {D b : Nat} {t : TypeId} {v : Value} {o : Obj} (h : Boxed W b t v) (hK : W.heap[D]? = some (.deferred (some []))) : Boxed (W.putObj D o) b t v :=
  (World.putObj_heap_other (by
    intro e; subst e
    have h' : W.heap[b]? = some (.cells #[v] t (0, 0)) := h
    rw [hK] at h'; cases h')).trans h
set_option maxHeartbeats 2000000 in
theorem pWin_no (s t n least : Int) (hn : I64 n) (h : okN n = false) (w : World) : Calls Try.prog 17 #[.int .i64 s, .int .i64 t, .int .i64 n, .int .i64 least] w (GivesS2 [] 1 w) := by
  have cM : Hid (∀ w, Calls Try.prog 34 #[.int .i64 n, .int .i64 0] w (GivesN 0 1 w)) := Lib.hid (fun w => by
    have := pMoment_any n 0 hn (by unfold I64; omega) w
    have e : momA n 0 = (0, 1) := by
      unfold momA okNS
      rw [if_neg]
      simp only [okN, decide_eq_false_iff_not] at h
      simp only [decide_eq_true_eq]
      omega
    rw [e] at this
    exact this)
  clear hn h
  have hV := VarAt.new w s t least
  have hb0 : Below w.heap.size w (((((w.alloc (.cells #[.int .i64 s] 3)).alloc (.cells #[.int .i64 t] 3)).alloc (.cells #[.int .i64 least] 3)).alloc (.cells #[.slice none 0 0] 28)).alloc (.cells #[.int .i64 0] 23)) := (((((Below.refl _ w).alloc (Nat.le_refl _) _).alloc (by simp) _).alloc (by simp; omega) _).alloc (by simp; omega) _).alloc (by simp; omega) _
  obtain ⟨W0, hW0⟩ : ∃ W, W = (((((w.alloc (Obj.cells #[Value.int .i64 s] 3)).alloc (Obj.cells #[Value.int .i64 t] 3)).alloc (Obj.cells #[Value.int .i64 least] 3)).alloc (Obj.cells #[Value.slice none 0 0] 28)).alloc (Obj.cells #[Value.int .i64 0] 23)) := ⟨_, rfl⟩
  rw [← hW0] at hV hb0
  have HV := Lib.hid hV
  have HB := Lib.hid hb0
  have HW := Lib.hid hW0
  clear hV hb0 hW0
  go_enter Try.func17, Try.ntmps17
  go_wp2_with fail
  rw [← HW.out]
  refine (cM.out _).mono ?_
  rintro e W1 ⟨rfl, hb⟩
  have hV1 := HV.out.bel hb
  have D1 := Lib.hid (HB.out.trans (hb.mono HB.out.size))
  obtain ⟨B, hB⟩ : ∃ B, B = w.heap.size := ⟨_, rfl⟩
  rw [← hB] at hV1
  have HV1 := Lib.hid hV1
  simp only [← hB]
  have k0 := hV1.r0.cell
  have f0 := hV1.r0.frozen
  have k1 := hV1.r1.cell
  have f1 := hV1.r1.frozen
  have HBB := Lib.hid hB
  clear hb hB hV1
  go_wp2_with fail
  (try simp only [Exit.inBlock, Exit.then])
  refine bodyPost_ret (results_w2 rfl _ _ (B + 1 + 1 + 1) (B + 1 + 1 + 1 + 1) none 0 0 1 rfl rfl ((HV1.out.r0.set _).other (by omega) _).cell ((HV1.out.r1.other (by omega) _).set _).cell) rfl ?_
  exact ⟨_, rfl, list_nil _, (D1.out.setCell (p := ⟨B + 1 + 1 + 1, 0, none⟩) (by have := HBB.out; simp only; omega) _).setCell (p := ⟨B + 1 + 1 + 1 + 1, 0, none⟩) (by have := HBB.out; simp only; omega) _⟩
theorem boxed_keep {W W' : World} {row : Option Nat} {b : Nat} {t : TypeId} {v : Value} (h : Boxed W b t v) (hg : W.grownBy W' row) (hr : ∀ r, row = some r → ∃ o : Obj, W.heap[r]? = some o ∧ o.isCells = false) : Boxed W' b t v :=
  h.kept hg (fun e => by
    obtain ⟨o, ho, hc⟩ := hr b e.symm
    have h' : W.heap[b]? = some (.cells #[v] t (0, 0)) := h
    rw [h'] at ho
    cases ho; cases hc)
theorem KepAt.own {N C : Nat} {x : List (Int × Int) × Int × Bool} {X Y : World} {row : Option Nat} (h : KepAt N C x X) (hg : X.grownBy Y row) (hr : ∀ r, row = some r → ∃ o : Obj, X.heap[r]? = some o ∧ o.isCells = false) : KepAt N C x Y := by
  obtain ⟨h1, h2, v, h3, h4⟩ := h
  obtain ⟨v', g1, g2, -⟩ := holdsRow_own N C 28 39 2 (fun s : List (Int × Int) => s.length) cellsS (fun _ _ => True) x.1 X Y row ⟨v, h3, h4, trivial⟩ hg hr
  exact ⟨boxed_keep h1 hg hr, boxed_keep h2 hg hr, v', g1, g2⟩
theorem VarAt.own {B : Nat} {s t least : Int} {X Y : World} {row : Option Nat} (h : VarAt B s t least X) (hg : X.grownBy Y row) (hr : ∀ r, row = some r → ∃ o : Obj, X.heap[r]? = some o ∧ o.isCells = false) : VarAt B s t least Y :=
  ⟨boxed_keep h.bs hg hr, boxed_keep h.bt hg hr, boxed_keep h.bl hg hr, boxed_keep h.r0 hg hr, boxed_keep h.r1 hg hr⟩
theorem VarAt.kb {B N C : Nat} {s t least : Int} {X Y : World} (h : VarAt B s t least X) (k : KB N C X Y) (hB : B + 1 + 1 + 1 + 1 < C) (hC : C < N) : VarAt B s t least Y :=
  ⟨k.box h.bs (by omega) (by omega) (by omega) (by omega), k.box h.bt (by omega) (by omega) (by omega) (by omega), k.box h.bl (by omega) (by omega) (by omega) (by omega), k.box h.r0 (by omega) (by omega) (by omega) (by omega), k.box h.r1 (by omega) (by omega) (by omega) (by omega)⟩
theorem KepAt.new {w : World} {C N : Nat} (hC : C = w.heap.size) : KepAt N C ([], 0, false) (((w.alloc (.cells #[.slice none 0 0] 28)).alloc (.cells #[.int .i64 0] 3)).alloc (.cells #[.bool false] 4)) := by
  subst hC
  have n : ∀ (W : World) (B : Nat) (t : TypeId) (v : Value), W.heap.size = B → Boxed (W.alloc (.cells #[v] t)) B t v := fun W B t v h => by subst h; exact Boxed.new W t v
  exact ⟨n _ _ _ _ (by simp), (n _ _ _ _ (by simp)).alloc _, _, ((Boxed.new w _ _).alloc _).alloc _, OwnS.nil _ _⟩
theorem KepAt.alloc {N C : Nat} {x : List (Int × Int) × Int × Bool} {W : World} (h : KepAt N C x W) (o : Obj) : KepAt N C x (W.alloc o) := h.bel ((Below.refl _ _).alloc (Nat.le_refl _) _)
/-- between two rounds -/
structure SofarW (N B C : Nat) (s t least : Int) (p : Nat → Bool) (w : World) (pre : List Nat) (W : World) : Prop where
  va : VarAt B s t least W
  ke : Boxed W (C + 1 + 1 + 1) 50 (.func (.func 35) #[] #[.pointer (some ⟨C + 1 + 1, 0, none⟩), .pointer (some ⟨C + 1, 0, none⟩), .pointer (some ⟨C, 0, none⟩)])
  kp : KepAt N C (fol p pre) W
  sz : N ≤ W.heap.size
  bel : Below w.heap.size w W
theorem sofarW_own {N B C E : Nat} {s t least : Int} {p : Nat → Bool} {w : World} (hC : w.heap.size ≤ E) : OwnFrom E (SofarW N B C s t least p w) := by
  intro l X Y row hs hg hr
  have hr' : ∀ r, row = some r → ∃ o : Obj, X.heap[r]? = some o ∧ o.isCells = false := fun r e => (hr r e).2
  exact ⟨hs.va.own hg hr', boxed_keep hs.ke hg hr', hs.kp.own hg hr', Nat.le_trans hs.sz hg.size, ownFrom_below (Nat.le_refl _) hC l X Y row hs.bel hg hr⟩
/-- no height: nothing has come -/
structure SofarB (B C : Nat) (s t least : Int) (w : World) (pre : List Nat) (W : World) : Prop where
  none : pre = []
  va : VarAt B s t least W
  bel : Below w.heap.size w W
structure LeftB (B : Nat) (w : World) (c : Code) (pre : List Nat) (W : World) : Prop where
  ret : c = .ret
  r0 : Boxed W (B + 1 + 1 + 1) 28 (.slice Option.none 0 0)
  r1 : Boxed W (B + 1 + 1 + 1 + 1) 23 (.int .i64 1)
  bel : Below w.heap.size w W
theorem sofarB_own {B C E : Nat} {s t least : Int} {w : World} (hC : w.heap.size ≤ E) : OwnFrom E (SofarB B C s t least w) := by
  intro l X Y row hs hg hr
  have hr' : ∀ r, row = some r → ∃ o : Obj, X.heap[r]? = some o ∧ o.isCells = false := fun r e => (hr r e).2
  exact ⟨hs.none, hs.va.own hg hr', ownFrom_below (Nat.le_refl _) hC l X Y row hs.bel hg hr⟩
theorem leftB_own {B E : Nat} {w : World} (hC : w.heap.size ≤ E) (c : Code) : OwnFrom E (LeftB B w c) := by
  intro l X Y row hs hg hr
  have hr' : ∀ r, row = some r → ∃ o : Obj, X.heap[r]? = some o ∧ o.isCells = false := fun r e => (hr r e).2
  exact ⟨hs.ret, boxed_keep hs.r0 hg hr', boxed_keep hs.r1 hg hr', ownFrom_below (Nat.le_refl _) hC l X Y row hs.bel hg hr⟩
set_option maxHeartbeats 4000000 in
theorem pWin_in (s t : Int) (q : Nat) (least : Int) (hq : q < 400) (p : Nat → Bool) (H : Nat → Int)
    (hH : ∀ x w, Calls Try.prog 13 #[.int .i64 s, .int .i64 t, .int .i64 ((96 * q + sl x : Nat) : Int)] w (GivesN (H x) 0 w))
    (hp : ∀ x, p (sl x) = decide (least ≤ H x)) (w : World) : Calls Try.prog 17 #[.int .i64 s, .int .i64 t, .int .i64 (q : Int), .int .i64 least] w (GivesS2 (intsS (win p 96)) 0 w) := by
  have cM : Hid (∀ w, Calls Try.prog 34 #[.int .i64 (q : Int), .int .i64 0] w (GivesN ((96 * q + 0 : Nat) : Int) 0 w)) := Lib.hid (fun w => by
    have := pMoment_any (q : Int) ((0 : Nat) : Int) (by unfold I64; omega) (by unfold I64; omega) w
    rw [momA_ok hq (by omega)] at this
    exact this)
  obtain ⟨M, hM⟩ : ∃ M : Int, M = ((96 * q + 0 : Nat) : Int) := ⟨_, rfl⟩
  rw [← hM] at cM
  clear hM
  have cS := Lib.hid (fun w => pslots_any (q : Int) w)
  have HH := Lib.hid hH
  have HP := Lib.hid hp
  have HQ := Lib.hid hq
  clear hH hp hq
  have hV := VarAt.new w s t least
  have hb0 : Below w.heap.size w (((((w.alloc (.cells #[.int .i64 s] 3)).alloc (.cells #[.int .i64 t] 3)).alloc (.cells #[.int .i64 least] 3)).alloc (.cells #[.slice none 0 0] 28)).alloc (.cells #[.int .i64 0] 23)) := (((((Below.refl _ w).alloc (Nat.le_refl _) _).alloc (by simp) _).alloc (by simp; omega) _).alloc (by simp; omega) _).alloc (by simp; omega) _
  obtain ⟨W0, hW0⟩ : ∃ W, W = (((((w.alloc (Obj.cells #[Value.int .i64 s] 3)).alloc (Obj.cells #[Value.int .i64 t] 3)).alloc (Obj.cells #[Value.int .i64 least] 3)).alloc (Obj.cells #[Value.slice none 0 0] 28)).alloc (Obj.cells #[Value.int .i64 0] 23)) := ⟨_, rfl⟩
  rw [← hW0] at hV hb0
  have HV := Lib.hid hV
  have HB := Lib.hid hb0
  have HW := Lib.hid hW0
  clear hV hb0 hW0
  have hmf : ∀ (fn : Fn) (first cap : Array Value) (w : World), (Instr.makeFunc fn first cap).run Try.prog w = .ok (.func fn first cap) w := fun _ _ _ _ => rfl
  refine (callsIn_wide (n := 9)).1 ?_
  refine callsIn_of_wp_marks Try.func17 rfl trivial ?_ rfl
  simp only [Try.ntmps17, List.size_toArray, List.length_cons, List.length_nil, Nat.reduceAdd, Nat.reduceSub, Array.replicate_succ, Array.replicate_zero, List.push_toArray, List.append_toArray, List.nil_append, List.cons_append]
  refine wpIn_wide.2 ?_
  go_wp2_with fail
  rw [← HW.out]
  refine (cM.out _).mono ?_
  rintro e W1 ⟨rfl, hb⟩
  have hV1 := HV.out.bel hb
  have hD1 := HB.out.trans (hb.mono HB.out.size)
  obtain ⟨B, hB⟩ : ∃ B, B = w.heap.size := ⟨_, rfl⟩
  rw [← hB] at hV1
  simp only [← hB]
  have HV1 := Lib.hid hV1
  have D1 := Lib.hid hD1
  have HBB := Lib.hid hB
  clear hb hB hV1 hD1
  go_wp2_with fail
  clear hmf
  obtain ⟨C, hC⟩ : ∃ C, C = W1.heap.size := ⟨_, rfl⟩
  simp only [← hC]
  obtain ⟨W2, hW2⟩ : ∃ W2, W2 = (((W1.alloc (Obj.cells #[Value.slice none 0 0] 28)).alloc (Obj.cells #[Value.int IntKind.i64 0] 3)).alloc (Obj.cells #[Value.bool false] 4)).alloc (Obj.cells #[(Value.func (Fn.func 35) #[] #[Value.pointer (some ⟨C + 1 + 1, 0, none⟩), Value.pointer (some ⟨C + 1, 0, none⟩), Value.pointer (some ⟨C, 0, none⟩)])] 50) := ⟨_, rfl⟩
  have k2 : ∀ N, KepAt N C ([], 0, false) W2 := fun N => by rw [hW2]; exact (KepAt.new hC).alloc _
  have hb2 : Below W1.heap.size W1 W2 := by rw [hW2]; exact ((((Below.refl _ _).alloc (Nat.le_refl _) _).alloc (by simp) _).alloc (by simp; omega) _).alloc (by simp; omega) _
  have s2 : W2.heap.size = C + 1 + 1 + 1 + 1 := by rw [hW2, hC]; simp
  have e2 : Boxed W2 (C + 1 + 1 + 1) 50 (.func (.func 35) #[] #[.pointer (some ⟨C + 1 + 1, 0, none⟩), .pointer (some ⟨C + 1, 0, none⟩), .pointer (some ⟨C, 0, none⟩)]) := by
    rw [hW2, show C + 1 + 1 + 1 = (((W1.alloc (Obj.cells #[Value.slice none 0 0] 28)).alloc (Obj.cells #[Value.int IntKind.i64 0] 3)).alloc (Obj.cells #[Value.bool false] 4)).heap.size by simp [hC]]
    exact Boxed.new _ _ _
  rw [← hW2]
  have HBC : Hid (B + 1 + 1 + 1 + 1 < C) := Lib.hid (by rw [hC]; exact HV1.out.r1.lt)
  have HV2 := Lib.hid (HV1.out.bel hb2)
  have D2 := Lib.hid (D1.out.trans (hb2.mono D1.out.size))
  clear hW2 hC hb2
  refine (cS.out _).mono ?_
  rintro e W3 ⟨rfl, hW3⟩
  have hb3 : Below W2.heap.size W2 W3 := by rw [hW3]; exact (Below.refl _ _).alloc (Nat.le_refl _) _
  have n3 : Boxed W3 (C + 1 + 1 + 1 + 1) 3 (.int .i64 (q : Int)) := by rw [hW3, ← s2]; exact Boxed.new _ _ _
  have s3 : W3.heap.size = C + 1 + 1 + 1 + 1 + 1 := by rw [hW3, World.size_alloc, s2]
  rw [s2]
  obtain ⟨N, hN⟩ : ∃ N, N = C + 1 + 1 + 1 + 1 + 1 := ⟨_, rfl⟩
  rw [← hN] at s3
  have K3 := Lib.hid ((k2 N).bel hb3)
  have E3 := Lib.hid (boxed_bel e2 hb3)
  have HV3 := Lib.hid (HV2.out.bel hb3)
  have N3 := Lib.hid n3
  have D3 := Lib.hid (D2.out.trans (hb3.mono D2.out.size))
  have HN := Lib.hid hN
  have S3 := Lib.hid s3
  clear k2 hb3 e2 n3 hW3 s2 hN s3 HV1 HV2 D1 D2 HV HB HW cM cS
  go_wp2_with fail
  have HLE : Hid (w.heap.size ≤ W3.heap.size) := Lib.hid D3.out.size
  have HBN : Hid (C + 1 + 1 + 1 + 1 < W3.heap.size) := Lib.hid N3.out.lt
  refine (wpIn_wide (n := 6)).1 ?_
  refine wpIn_rangeFunc_ownF rfl (by omega) (gf := 43) (lb := #[.pointer (some ⟨C + 1 + 1 + 1 + 1, 0, none⟩)]) rfl trivial (enters_of Try.func43 (by kernel_rfl) rfl)
    (pslots_stops 5 (by omega) (C + 1 + 1 + 1 + 1) q HQ.out W3 N3.out) (fun h k => k.trans h) (fun W l o o' hl _ _ _ => World.putObj_heap_other (by have := HBN.out; omega)) (Below.refl _ _) (fun _ => rfl)
    (SofarW N B C s t least p w) (fun _ _ _ => False) (sofarW_own HLE.out) (fun c => fun _ _ _ _ h _ _ => h) ⟨HV3.out, E3.out, K3.out, by have := S3.out; omega, D3.out⟩
    (fun x => { tmps := #[.int .i64 s, .int .i64 t, .int .i64 (q : Int), .int .i64 least, .pointer (some ⟨B, 0, none⟩), .pointer (some ⟨B + 1, 0, none⟩), undef, .pointer (some ⟨B + 1 + 1, 0, none⟩), .pointer (some ⟨B + 1 + 1 + 1, 0, none⟩), .pointer (some ⟨B + 1 + 1 + 1 + 1, 0, none⟩), .int .i64 M, .int .i64 0, .pointer (some ⟨C, 0, none⟩), .pointer (some ⟨C + 1, 0, none⟩), .pointer (some ⟨C + 1 + 1, 0, none⟩), .pointer (some ⟨C + 1 + 1 + 1, 0, none⟩), .int .i64 ((sl x : Nat) : Int), .int .i64 ((96 * q + sl x : Nat) : Int), undef, undef, .tuple #[.int .i64 M, .int .i64 ((0 : Nat) : Int)], .int .i64 (q : Int), .tuple #[.int .i64 M, .int .i64 ((0 : Nat) : Int)], .int .i64 M, .int .i64 0, .int .i64 0, .bool false, undef, (.func (.func 35) #[] #[.pointer (some ⟨C + 1 + 1, 0, none⟩), .pointer (some ⟨C + 1, 0, none⟩), .pointer (some ⟨C, 0, none⟩)]), .int .i64 (q : Int), .func (.func 43) #[] #[.pointer (some ⟨C + 1 + 1 + 1 + 1, 0, none⟩)], .int .i64 ((sl x : Nat) : Int), .int .i64 ((96 * q + sl x : Nat) : Int), undef, undef, undef, undef, undef, undef, undef, undef, undef, undef, undef, undef, undef, undef, undef, undef, undef, undef, undef], defers := [] }) ?assign ?body ?done ?stop
  case assign =>
    intro l x W K hK
    gi_wp2_with fail
    exact hK
  case body =>
    rintro l pre x W ⟨va, ke, kp, sz, bel⟩ hlen
    have cH := Lib.hid (fun W => HH.out x W)
    have hp1 := HP.out x
    have hl1 := fol_len p pre
    have cK := Lib.hid (fun W h hN => pkeep_any N C (by have := HN.out; omega) (fol p pre) (sl x : Nat) (p (sl x)) (by have := sl_lt x; omega) (by omega) W h hN)
    have HF := Lib.hid (fol_snoc p pre x)
    obtain ⟨m, hm⟩ : ∃ m : Int, m = ((96 * q + sl x : Nat) : Int) := ⟨_, rfl⟩
    rw [← hm] at cH ⊢
    obtain ⟨k, hk⟩ : ∃ k : Int, k = ((sl x : Nat) : Int) := ⟨_, rfl⟩
    rw [← hk] at cK HF ⊢
    rw [hp1] at cK HF
    obtain ⟨h, hh⟩ : ∃ h, h = H x := ⟨_, rfl⟩
    rw [← hh] at cH cK HF
    have VA := Lib.hid va
    have KE := Lib.hid ke
    have KP := Lib.hid kp
    have SZ := Lib.hid sz
    have BL := Lib.hid bel
    have c1 := va.bs.cell
    have c2 := va.bt.cell
    clear va ke kp sz bel hm hk hh hp1 hl1 hlen
    gi_wp2_with fail
    refine ⟨trivial, ?_⟩
    refine (CallsIn.inRound l (callsIn_wide.2 (cH.out W))).mono ?_
    rintro e W1 ⟨rfl, hb⟩
    have VA1 := Lib.hid (VA.out.bel hb)
    have KE1 := Lib.hid (boxed_bel KE.out hb)
    have KP1 := Lib.hid (KP.out.bel hb)
    have SZ1 : Hid (N ≤ W1.heap.size) := Lib.hid (Nat.le_trans SZ.out hb.size)
    have KB1 : Hid (KB N C W W1) := Lib.hid (KB.of hb SZ.out)
    have d1 := VA1.out.bl.cell
    have d2 := KE1.out.cell
    clear hb c1 c2
    gi_wp2_with fail
    refine ⟨trivial, ?_⟩
    refine (CallsIn.inRound l (callsIn_wide.2 (cK.out W1 KP1.out SZ1.out))).mono ?_
    rintro e W4 ⟨rfl, kp4, kb4⟩
    have KP4 := Lib.hid kp4
    have KB4 := Lib.hid (KB1.out.trans kb4)
    have SZ4 : Hid (N ≤ W4.heap.size) := Lib.hid (Nat.le_trans SZ1.out kb4.others.size)
    clear kp4 kb4 d1 d2
    gi_wp2_with fail
    refine ⟨KB4.out.others, KB4.out.low _ (by have := HN.out; omega) (by omega) (by omega) (by omega), VA.out.kb KB4.out HBC.out (by have := HN.out; omega), KB4.out.box KE.out (by have := HN.out; omega) (by omega) (by omega) (by omega), by rw [HF.out]; exact KP4.out, SZ4.out, BL.out.trans (KB4.out.below (by have := HBC.out; have := HBB.out; omega) (by have := HBC.out; have := HBB.out; have := HN.out; omega))⟩
  case done =>
    rintro D ys W hD rfl ⟨va, ke, kp, sz, bel⟩ hK
    have hl1 := fol_len p (List.range 96)
    rw [List.length_range] at hl1
    have cK := Lib.hid (pkeep_any N C (by have := HN.out; omega) (fol p (List.range 96)) 96 false (by omega) (by omega) W kp sz)
    have HF := Lib.hid (fol_end p)
    obtain ⟨x, hx⟩ : ∃ x, x = kpI (fol p (List.range 96)) 96 false := ⟨_, rfl⟩
    rw [← hx] at HF
    have cK' : Hid (Calls Try.prog 35 #[.int .i64 96, .bool false, .pointer (some ⟨C + 1 + 1, 0, none⟩), .pointer (some ⟨C + 1, 0, none⟩), .pointer (some ⟨C, 0, none⟩)] W fun e W' => e = .returned (.tuple #[]) ∧ KepAt N C x W' ∧ KB N C W W') := Lib.hid (by
      refine cK.out.mono ?_
      rintro e W' ⟨rfl, h1, h2⟩
      exact ⟨rfl, by rw [hx]; exact h1, h2⟩)
    have VA := Lib.hid va
    have KE := Lib.hid ke
    have BL := Lib.hid bel
    have HDD := Lib.hid hD
    have HK := Lib.hid hK
    have d2 := ke.cell
    clear va ke kp sz bel hl1 cK hx hK hD
    go_wp2_with fail
    refine cK'.out.mono ?_
    rintro e W4 ⟨rfl, kp4, kb4⟩
    obtain ⟨-, -, v, b4, o4⟩ := kp4
    have HK4 := Lib.hid (kb4.others.same D _ HK.out rfl)
    have VA4 := Lib.hid (VA.out.kb kb4 HBC.out (by have := HN.out; omega))
    have BL4 : Hid (Below w.heap.size w W4) := Lib.hid (BL.out.trans (kb4.below (by have := HBC.out; have := HBB.out; omega) (by have := HBC.out; have := HBB.out; have := HN.out; omega)))
    obtain ⟨a4, c4, rfl, -, -, -⟩ := OwnS.at o4
    have O4 := Lib.hid o4
    have g1 := b4.cell
    have g2 := VA4.out.r0.cell
    have g3 := VA4.out.r0.frozen
    have g4 := VA4.out.r1.cell
    have g5 := VA4.out.r1.frozen
    clear kb4 b4 o4 d2
    obtain ⟨n, hn⟩ : ∃ n, n = x.1.length := ⟨_, rfl⟩
    have HNN := Lib.hid hn
    rw [← hn] at O4 g1
    clear hn
    go_wp2_with fail
    have hK2 := ((KeepsOthers.setCell W4 ⟨B + 1 + 1 + 1, 0, none⟩ (.slice a4 n c4)).trans (KeepsOthers.setCell _ ⟨B + 1 + 1 + 1 + 1, 0, none⟩ (.int .i64 0))).same D _ HK4.out rfl
    refine ⟨by simp, .inl ⟨_, _, rfl, run_takeDeferred hK2, ?_⟩⟩
    refine ⟨_, results_w2 rfl _ _ (B + 1 + 1 + 1) (B + 1 + 1 + 1 + 1) a4 n c4 0 rfl rfl (put_box ((VA4.out.r0.set _).other (by omega) _) hK2).cell (put_box ((VA4.out.r1.other (by omega) _).set _) hK2).cell, ?_⟩
    have o5 := (O4.out.box (u := .slice a4 n c4) VA4.out.r0 (by decide)).box (u := .int .i64 0) (VA4.out.r1.other (by omega) _) (by decide)
    have o6 : ListS (((W4.setCell ⟨B + 1 + 1 + 1, 0, none⟩ (.slice a4 n c4)).setCell ⟨B + 1 + 1 + 1 + 1, 0, none⟩ (.int .i64 0)).putObj D (.deferred none)) (.slice a4 n c4) (intsS (win p 96)) := by
      rw [← HF.out]
      obtain ⟨v', g1, g2, g3⟩ := holdsRow_own N (B + 1 + 1 + 1) 28 39 2 (fun s : List (Int × Int) => s.length) cellsS (fun _ v => v = .slice a4 n c4) x.1 _ _ (some D) ⟨_, (VA4.out.r0.set _).other (by omega) _, o5, rfl⟩ (grownBy_putObj' _ D (.deferred none)) (fun r e => by cases e; exact ⟨_, hK2, rfl⟩)
      subst g3
      exact OwnS.list g2
    exact ⟨_, rfl, o6, ((BL4.out.setCell (p := ⟨B + 1 + 1 + 1, 0, none⟩) (by have := HBB.out; simp only; omega) _).setCell (p := ⟨B + 1 + 1 + 1 + 1, 0, none⟩) (by have := HBB.out; simp only; omega) _).trans (belowK_b (w := w) (Nat.le_refl _) _ D _ _ (by have := HLE.out; have := HDD.out; omega) hK2 rfl rfl)⟩
  case stop =>
    rintro D c pre W hD hSp h hK
    exact h.elim
set_option maxHeartbeats 4000000 in
theorem pWin_bad (s t : Int) (q : Nat) (least : Int) (hq : q < 400)
    (hH : ∀ x w, Calls Try.prog 13 #[.int .i64 s, .int .i64 t, .int .i64 ((96 * q + sl x : Nat) : Int)] w (GivesN 0 1 w))
    (w : World) : Calls Try.prog 17 #[.int .i64 s, .int .i64 t, .int .i64 (q : Int), .int .i64 least] w (GivesS2 [] 1 w) := by
  have cM : Hid (∀ w, Calls Try.prog 34 #[.int .i64 (q : Int), .int .i64 0] w (GivesN ((96 * q + 0 : Nat) : Int) 0 w)) := Lib.hid (fun w => by
    have := pMoment_any (q : Int) ((0 : Nat) : Int) (by unfold I64; omega) (by unfold I64; omega) w
    rw [momA_ok hq (by omega)] at this
    exact this)
  obtain ⟨M, hM⟩ : ∃ M : Int, M = ((96 * q + 0 : Nat) : Int) := ⟨_, rfl⟩
  rw [← hM] at cM
  clear hM
  have cS := Lib.hid (fun w => pslots_any (q : Int) w)
  have HH := Lib.hid hH
  have HQ := Lib.hid hq
  clear hH hq
  have hV := VarAt.new w s t least
  have hb0 : Below w.heap.size w (((((w.alloc (.cells #[.int .i64 s] 3)).alloc (.cells #[.int .i64 t] 3)).alloc (.cells #[.int .i64 least] 3)).alloc (.cells #[.slice none 0 0] 28)).alloc (.cells #[.int .i64 0] 23)) := (((((Below.refl _ w).alloc (Nat.le_refl _) _).alloc (by simp) _).alloc (by simp; omega) _).alloc (by simp; omega) _).alloc (by simp; omega) _
  obtain ⟨W0, hW0⟩ : ∃ W, W = (((((w.alloc (Obj.cells #[Value.int .i64 s] 3)).alloc (Obj.cells #[Value.int .i64 t] 3)).alloc (Obj.cells #[Value.int .i64 least] 3)).alloc (Obj.cells #[Value.slice none 0 0] 28)).alloc (Obj.cells #[Value.int .i64 0] 23)) := ⟨_, rfl⟩
  rw [← hW0] at hV hb0
  have HV := Lib.hid hV
  have HB := Lib.hid hb0
  have HW := Lib.hid hW0
  clear hV hb0 hW0
  have hmf : ∀ (fn : Fn) (first cap : Array Value) (w : World), (Instr.makeFunc fn first cap).run Try.prog w = .ok (.func fn first cap) w := fun _ _ _ _ => rfl
  refine (callsIn_wide (n := 9)).1 ?_
  refine callsIn_of_wp_marks Try.func17 rfl trivial ?_ rfl
  simp only [Try.ntmps17, List.size_toArray, List.length_cons, List.length_nil, Nat.reduceAdd, Nat.reduceSub, Array.replicate_succ, Array.replicate_zero, List.push_toArray, List.append_toArray, List.nil_append, List.cons_append]
  refine wpIn_wide.2 ?_
  go_wp2_with fail
  rw [← HW.out]
  refine (cM.out _).mono ?_
  rintro e W1 ⟨rfl, hb⟩
  have hV1 := HV.out.bel hb
  have hD1 := HB.out.trans (hb.mono HB.out.size)
  obtain ⟨B, hB⟩ : ∃ B, B = w.heap.size := ⟨_, rfl⟩
  rw [← hB] at hV1
  simp only [← hB]
  have HV1 := Lib.hid hV1
  have D1 := Lib.hid hD1
  have HBB := Lib.hid hB
  clear hb hB hV1 hD1
  go_wp2_with fail
  clear hmf
  obtain ⟨C, hC⟩ : ∃ C, C = W1.heap.size := ⟨_, rfl⟩
  simp only [← hC]
  obtain ⟨W2, hW2⟩ : ∃ W2, W2 = (((W1.alloc (Obj.cells #[Value.slice none 0 0] 28)).alloc (Obj.cells #[Value.int IntKind.i64 0] 3)).alloc (Obj.cells #[Value.bool false] 4)).alloc (Obj.cells #[(Value.func (Fn.func 35) #[] #[Value.pointer (some ⟨C + 1 + 1, 0, none⟩), Value.pointer (some ⟨C + 1, 0, none⟩), Value.pointer (some ⟨C, 0, none⟩)])] 50) := ⟨_, rfl⟩
  have k2 : ∀ N, KepAt N C ([], 0, false) W2 := fun N => by rw [hW2]; exact (KepAt.new hC).alloc _
  have hb2 : Below W1.heap.size W1 W2 := by rw [hW2]; exact ((((Below.refl _ _).alloc (Nat.le_refl _) _).alloc (by simp) _).alloc (by simp; omega) _).alloc (by simp; omega) _
  have s2 : W2.heap.size = C + 1 + 1 + 1 + 1 := by rw [hW2, hC]; simp
  have e2 : Boxed W2 (C + 1 + 1 + 1) 50 (.func (.func 35) #[] #[.pointer (some ⟨C + 1 + 1, 0, none⟩), .pointer (some ⟨C + 1, 0, none⟩), .pointer (some ⟨C, 0, none⟩)]) := by
    rw [hW2, show C + 1 + 1 + 1 = (((W1.alloc (Obj.cells #[Value.slice none 0 0] 28)).alloc (Obj.cells #[Value.int IntKind.i64 0] 3)).alloc (Obj.cells #[Value.bool false] 4)).heap.size by simp [hC]]
    exact Boxed.new _ _ _
  rw [← hW2]
  have HBC : Hid (B + 1 + 1 + 1 + 1 < C) := Lib.hid (by rw [hC]; exact HV1.out.r1.lt)
  have HV2 := Lib.hid (HV1.out.bel hb2)
  have D2 := Lib.hid (D1.out.trans (hb2.mono D1.out.size))
  clear hW2 hC hb2
  refine (cS.out _).mono ?_
  rintro e W3 ⟨rfl, hW3⟩
  have hb3 : Below W2.heap.size W2 W3 := by rw [hW3]; exact (Below.refl _ _).alloc (Nat.le_refl _) _
  have n3 : Boxed W3 (C + 1 + 1 + 1 + 1) 3 (.int .i64 (q : Int)) := by rw [hW3, ← s2]; exact Boxed.new _ _ _
  have s3 : W3.heap.size = C + 1 + 1 + 1 + 1 + 1 := by rw [hW3, World.size_alloc, s2]
  rw [s2]
  obtain ⟨N, hN⟩ : ∃ N, N = C + 1 + 1 + 1 + 1 + 1 := ⟨_, rfl⟩
  rw [← hN] at s3
  have K3 := Lib.hid ((k2 N).bel hb3)
  have E3 := Lib.hid (boxed_bel e2 hb3)
  have HV3 := Lib.hid (HV2.out.bel hb3)
  have N3 := Lib.hid n3
  have D3 := Lib.hid (D2.out.trans (hb3.mono D2.out.size))
  have HN := Lib.hid hN
  have S3 := Lib.hid s3
  clear k2 hb3 e2 n3 hW3 s2 hN s3 HV1 HV2 D1 D2 HV HB HW cM cS
  go_wp2_with fail
  have HLE : Hid (w.heap.size ≤ W3.heap.size) := Lib.hid D3.out.size
  have HBN : Hid (C + 1 + 1 + 1 + 1 < W3.heap.size) := Lib.hid N3.out.lt
  refine (wpIn_wide (n := 6)).1 ?_
  refine wpIn_rangeFunc_ownF rfl (by omega) (gf := 43) (lb := #[.pointer (some ⟨C + 1 + 1 + 1 + 1, 0, none⟩)]) rfl trivial (enters_of Try.func43 (by kernel_rfl) rfl)
    (pslots_stops 5 (by omega) (C + 1 + 1 + 1 + 1) q HQ.out W3 N3.out) (fun h k => k.trans h) (fun W l o o' hl _ _ _ => World.putObj_heap_other (by have := HBN.out; omega)) (Below.refl _ _) (fun _ => rfl)
    (SofarB B C s t least w) (LeftB B w) (sofarB_own HLE.out) (fun c => leftB_own HLE.out c) ⟨rfl, HV3.out, D3.out⟩
    (fun x => { tmps := #[.int .i64 s, .int .i64 t, .int .i64 (q : Int), .int .i64 least, .pointer (some ⟨B, 0, none⟩), .pointer (some ⟨B + 1, 0, none⟩), undef, .pointer (some ⟨B + 1 + 1, 0, none⟩), .pointer (some ⟨B + 1 + 1 + 1, 0, none⟩), .pointer (some ⟨B + 1 + 1 + 1 + 1, 0, none⟩), .int .i64 M, .int .i64 0, .pointer (some ⟨C, 0, none⟩), .pointer (some ⟨C + 1, 0, none⟩), .pointer (some ⟨C + 1 + 1, 0, none⟩), .pointer (some ⟨C + 1 + 1 + 1, 0, none⟩), .int .i64 ((sl x : Nat) : Int), .int .i64 ((96 * q + sl x : Nat) : Int), undef, undef, .tuple #[.int .i64 M, .int .i64 ((0 : Nat) : Int)], .int .i64 (q : Int), .tuple #[.int .i64 M, .int .i64 ((0 : Nat) : Int)], .int .i64 M, .int .i64 0, .int .i64 0, .bool false, undef, (.func (.func 35) #[] #[.pointer (some ⟨C + 1 + 1, 0, none⟩), .pointer (some ⟨C + 1, 0, none⟩), .pointer (some ⟨C, 0, none⟩)]), .int .i64 (q : Int), .func (.func 43) #[] #[.pointer (some ⟨C + 1 + 1 + 1 + 1, 0, none⟩)], .int .i64 ((sl x : Nat) : Int), .int .i64 ((96 * q + sl x : Nat) : Int), undef, undef, undef, undef, undef, undef, undef, undef, undef, undef, undef, undef, undef, undef, undef, undef, undef, undef, undef], defers := [] }) ?assign ?body ?done ?stop
  case assign =>
    intro l x W K hK
    gi_wp2_with fail
    exact hK
  case body =>
    rintro l pre x W ⟨rfl, va, bel⟩ hlen
    have cH := Lib.hid (fun W => HH.out x W)
    obtain ⟨m, hm⟩ : ∃ m : Int, m = ((96 * q + sl x : Nat) : Int) := ⟨_, rfl⟩
    rw [← hm] at cH ⊢
    obtain ⟨k, hk⟩ : ∃ k : Int, k = ((sl x : Nat) : Int) := ⟨_, rfl⟩
    rw [← hk]
    have VA := Lib.hid va
    have BL := Lib.hid bel
    have c1 := va.bs.cell
    have c2 := va.bt.cell
    clear va bel hm hk hlen
    gi_wp2_with fail
    refine ⟨trivial, ?_⟩
    refine (CallsIn.inRound l (callsIn_wide.2 (cH.out W))).mono ?_
    rintro e W1 ⟨rfl, hb⟩
    have VA1 := Lib.hid (VA.out.bel hb)
    have KO1 : Hid (KeepsOthers W W1) := Lib.hid (KB.of (N := 0) (C := 0) hb (Nat.zero_le _)).others
    have BL1 := Lib.hid (BL.out.trans (hb.mono BL.out.size))
    have g2 := VA1.out.r0.cell
    have g3 := VA1.out.r0.frozen
    have g4 := VA1.out.r1.cell
    have g5 := VA1.out.r1.frozen
    clear hb c1 c2
    gi_wp2_with fail
    exact ⟨(KO1.out.trans (KeepsOthers.setCell _ _ _)).trans (KeepsOthers.setCell _ _ _), rfl, (VA1.out.r0.set _).other (by omega) _, (VA1.out.r1.other (by omega) _).set _, (BL1.out.setCell (p := ⟨B + 1 + 1 + 1, 0, none⟩) (by have := HBB.out; simp only; omega) _).setCell (p := ⟨B + 1 + 1 + 1 + 1, 0, none⟩) (by have := HBB.out; simp only; omega) _⟩
  case done =>
    rintro D ys W hD rfl ⟨h0, va, bel⟩ hK
    exact absurd h0 (by decide)
  case stop =>
    rintro D c pre W hD hSp ⟨rfl, r0, r1, bel⟩ hK
    gi_wp2_with fail
    refine ⟨by simp, .inl ⟨_, _, rfl, run_takeDeferred hK, ?_⟩⟩
    refine ⟨_, results_w2 rfl _ _ (B + 1 + 1 + 1) (B + 1 + 1 + 1 + 1) none 0 0 1 rfl rfl (put_box r0 hK).cell (put_box r1 hK).cell, ?_⟩
    exact ⟨_, rfl, list_nil _, bel.trans (belowK_b (w := w) (Nat.le_refl _) W D _ _ (by have := HLE.out; omega) hK rfl rfl)⟩
theorem pWindows_any (s t n l : Int) (hs : I64 s) (ht : I64 t) (hn : I64 n) (hl : I64 l) (w : World) : Calls Try.prog 17 #[.int .i64 s, .int .i64 t, .int .i64 n, .int .i64 l] w (GivesS2 (winA s t n l).1 (winA s t n l).2 w) := by
  cases hN : okN n with
  | false =>
    have e : winA s t n l = ([], 1) := by unfold winA; rw [hN]; simp
    rw [e]
    exact pWin_no s t n l hn hN w
  | true =>
    obtain ⟨q, rfl, hq⟩ := okN_yes hN
    have hm : ∀ x, isM ((96 * q + sl x : Nat) : Int) = true := fun x => isM_nat (by have := sl_lt x; omega)
    have hi64 : ∀ x, I64 ((96 * q + sl x : Nat) : Int) := fun x => i64_nat (by have := sl_lt x; omega)
    cases h : okS s && okT t with
    | false =>
      have e : winA s t (q : Int) l = ([], 1) := by unfold winA; rw [h]; simp
      rw [e]
      refine pWin_bad s t q l hq (fun x w => ?_) w
      have := pHeight_any s t _ hs ht (hi64 x) w
      have e : heiA s t ((96 * q + sl x : Nat) : Int) = (0, 1) := by unfold heiA; rw [h]; rfl
      rw [e] at this
      exact this
    | true =>
      rw [Bool.and_eq_true] at h
      obtain ⟨a, rfl, ha⟩ := okS_yes h.1
      obtain ⟨b, rfl, hb⟩ := okT_yes h.2
      rw [winA_ok l ha hb hq]
      refine pWin_in (a : Int) (b : Int) q l hq (hi a b q l) (fun x => Am.ht b a (96 * q + sl x)) (fun x w => ?_) (fun x => rfl) w
      have := pHeight_any (a : Int) (b : Int) _ hs ht (hi64 x) w
      rw [heiA_ok ha hb (by have := sl_lt x; omega)] at this
      exact this
end Go.Proofs.Ytebkifhdbpeeoaa.Am
