/-
  The program's coefficients of Newton's form, computed in place by a closure (layer 6).
-/
import Derived.Test.YtcdnddjoonecdaaDoorFdC
import Derived.StillTailTactics
import Derived.Laws.EntriesVeiled
import Derived.Laws.OwnMore
import Derived.Laws.Rows
import Derived.OwnWalk
set_option linter.unusedVariables false
set_option maxRecDepth 100000
namespace Go.Proofs.YtcdnddjoonecdaaDoor
open Go.RowKit
open Fdp
def rowOf (D : List Int) : Array Value := (D.map fun x : Int => Value.int .i64 x).toArray
theorem rowOf_get {D : List Int} {j : Nat} (h : j < D.length) : (rowOf D)[j]? = some (.int .i64 D[j]) := by
  simp [rowOf, h]
theorem rowOf_set (D : List Int) (j : Nat) (x : Int) : (rowOf D).setIfInBounds j (.int .i64 x) = rowOf (D.set j x) := by
  apply Array.ext'
  simp [rowOf, List.map_set]
/-- the variables of coefficients, as the closure has them -/
structure CoAt (w0 : World) (Bp Bl R : Nat) (a : Option Addr) (n cap : Nat) (l : List (Int × Int)) (D : List Int) (w : World) : Prop where
  pts : PtsAt w0 a n l
  below : Below w0.heap.size w0 w
  par : w.heap[Bp]? = some (.cells #[.slice a n cap] 63 (0, 0))
  var : w.heap[Bl]? = some (.cells #[.slice (some ⟨R, 0, none⟩) n n] 22 (0, 0))
  row : w.heap[R]? = some (.cells (rowOf D) 3 (0, 0))
  hp : Bp ≠ R
  hl : Bl ≠ R
  base : w0.heap.size ≤ R
variable {w0 w : World} {Bp Bl R n cap : Nat} {a : Option Addr} {l : List (Int × Int)} {D : List Int}
theorem CoAt.drew (h : CoAt w0 Bp Bl R a n cap l D w) : CoAt w0 Bp Bl R a n cap l D w.drew := ⟨h.pts, h.below.drew, h.par, h.var, h.row, h.hp, h.hl, h.base⟩
theorem CoAt.drewN (h : CoAt w0 Bp Bl R a n cap l D w) (k : Nat) : CoAt w0 Bp Bl R a n cap l D (w.drewN k) := ⟨h.pts, below_drewN h.below k, h.par, h.var, h.row, h.hp, h.hl, h.base⟩
theorem blk_ltF {b : Nat} {o : Obj} (h : w.heap[b]? = some o) : b < w.heap.size := by
  rcases Nat.lt_or_ge b w.heap.size with h' | h'
  · exact h'
  · simp [Array.getElem?_eq_none h'] at h
theorem CoAt.alloc (h : CoAt w0 Bp Bl R a n cap l D w) (o : Obj) : CoAt w0 Bp Bl R a n cap l D (w.alloc o) :=
  ⟨h.pts, h.below.alloc h.below.size o, (Below.heap_alloc w o _ (blk_ltF h.par)).trans h.par, (Below.heap_alloc w o _ (blk_ltF h.var)).trans h.var, (Below.heap_alloc w o _ (blk_ltF h.row)).trans h.row, h.hp, h.hl, h.base⟩
theorem CoAt.store (h : CoAt w0 Bp Bl R a n cap l D w) (j : Nat) (x : Int) : CoAt w0 Bp Bl R a n cap l (D.set j x) (w.setCell ⟨R, j, none⟩ (.int .i64 x)) :=
  ⟨h.pts, h.below.setCell h.base _, (Below.heap_setCell _ _ _ _ h.hp).trans h.par, (Below.heap_setCell _ _ _ _ h.hl).trans h.var, by
    rw [heap_setCell_same _ _ j _ _ _ h.row, rowOf_set], h.hp, h.hl, h.base⟩
theorem CoAt.cPar (h : CoAt w0 Bp Bl R a n cap l D w) : w.cell? ⟨Bp, 0, none⟩ = some (.slice a n cap) := by rw [Lib.cell_of_heap h.par]; rfl
theorem CoAt.cVar (h : CoAt w0 Bp Bl R a n cap l D w) : w.cell? ⟨Bl, 0, none⟩ = some (.slice (some ⟨R, 0, none⟩) n n) := by rw [Lib.cell_of_heap h.var]; rfl
theorem CoAt.cRow (h : CoAt w0 Bp Bl R a n cap l D w) {j : Nat} (hj : j < D.length) : w.cell? ⟨R, j, none⟩ = some (.int .i64 D[j]) := by rw [Lib.cell_of_heap h.row, rowOf_get hj]
theorem CoAt.fRow (h : CoAt w0 Bp Bl R a n cap l D w) (j : Nat) : w.frozen? ⟨R, j, none⟩ = false := Lib.frozen_of_heap h.row j
theorem CoAt.ptsAt (h : CoAt w0 Bp Bl R a n cap l D w) : PtsAt w a n l := h.pts.bel h.below
set_option maxHeartbeats 1000000 in
theorem raise_any (s : Nat) (h : CoAt w0 Bp Bl R a n cap l D w) (hp : pairsE l = true) (hst : Stage l s (n - 1) D) (hn : n ≤ 16) (h0 : 0 < n) (hs : s < n) :
    Calls Tryd.prog 90 #[.int .i64 (s : Int), .pointer (some ⟨Bl, 0, none⟩), .pointer (some ⟨Bp, 0, none⟩)] w fun e w' => e = .returned (.tuple #[]) ∧ ∃ D', CoAt w0 Bp Bl R a n cap l D' w' ∧ Stage l (s + 1) (n - 1) D' := by
  obtain ⟨b, off, rfl, -⟩ := h.ptsAt.cells h0
  have HC := Lib.hid h
  have HS := Lib.hid hst
  have hcv := h.cVar
  have hln : Hid (n = l.length) := Lib.hid h.pts.len
  have HP := Lib.hid hp
  have e1 : IntKind.i64.wrap ((n : Int) - 1) = (n : Int) - 1 := IntWalk.i64_in _ (by omega)
  have e2 : (n : Int) - 1 = ((n - 1 : Nat) : Int) := by omega
  obtain ⟨n1, hn1⟩ : ∃ n1, n1 = n - 1 := ⟨_, rfl⟩
  rw [← hn1] at e2 HS
  have HN1 := Lib.hid hn1
  have hn1' : n1 < 16 := by omega
  clear h hst hp hn1
  go_enter Tryd.func90, Tryd.ntmps90
  go_wp2_with fail
  have hC0 := HC
  go_loopw [4] (fun ii wr => ∃ (i : Nat) (D : List Int), i ≤ n1 ∧ ii = .int .i64 (i : Int) ∧ Hid (i = n1 ∨ s ≤ i) ∧ Hid (Stage l s i D) ∧ Hid (CoAt w0 Bp Bl R (some ⟨b, off, none⟩) n cap l D wr)) (fun ii _ => (intOf ii).toNat)
  case atStart => exact ⟨n1, D, by omega, rfl, Lib.hid (.inl rfl), HS, HC⟩
  case round =>
    clear HS HC hcv hC0
    obtain ⟨i, D, hi, rfl, hor, hS, hC⟩ := hrel
    by_cases hlt : s < i
    · have hDl : D.length = l.length := hS.out.len
      have hlnn := hln.out
      have hiD : i < D.length := by have := HN1.out; omega
      obtain ⟨i1, hi1⟩ : ∃ i1, i1 = i - 1 := ⟨_, rfl⟩
      obtain ⟨q, hq⟩ : ∃ q, q = i - s - 1 := ⟨_, rfl⟩
      obtain ⟨A, hA⟩ : ∃ A, A = D[i]'hiD := ⟨_, rfl⟩
      have hi1D : i1 < D.length := by omega
      obtain ⟨C, hCC⟩ : ∃ C, C = D[i1]'hi1D := ⟨_, rfl⟩
      have hil' : i < l.length := by omega
      obtain ⟨x, hx⟩ : ∃ x, x = Xp l i := ⟨_, rfl⟩
      have hql : q < l.length := by omega
      obtain ⟨y, hy⟩ : ∃ y, y = Xp l q := ⟨_, rfl⟩
      have hAr : Hid (0 ≤ A ∧ A < 2147483647) := Lib.hid (by rw [hA]; exact hS.out.get hiD)
      have hCr : Hid (0 ≤ C ∧ C < 2147483647) := Lib.hid (by rw [hCC]; exact hS.out.get hi1D)
      have hxr : Hid (0 ≤ x ∧ x < 2147483647) := Lib.hid (by rw [hx, Xp_get hil']; exact (pairsE_iff.1 HP.out _ (List.getElem_mem _)).1)
      have hyr : Hid (0 ≤ y ∧ y < 2147483647) := Lib.hid (by rw [hy, Xp_get hql]; exact (pairsE_iff.1 HP.out _ (List.getElem_mem _)).1)
      have hS2 : Hid (Stage l s i1 (D.set i (mulF (difF A C) (ivI (difF x y))))) := Lib.hid (by
        obtain ⟨j, rfl⟩ : ∃ j, i = j + 1 := ⟨i - 1, by omega⟩
        have e : i1 = j := by omega
        subst e
        have e2 : q = i1 - s := by omega
        exact hS.out.step hiD (by omega) hA hCC hx (by rw [hy, ← e2]))
      have hcx := (hC.out.ptsAt.cell (j := i) (by omega)).1
      rw [← Xp_get hil', ← hx] at hcx
      have hcy := (hC.out.ptsAt.cell (j := q) hql).1
      rw [← Xp_get hql, ← hy] at hcy
      have hca := hC.out.cRow hiD
      rw [← hA] at hca
      have hcc := hC.out.cRow hi1D
      rw [← hCC] at hcc
      have hcp := hC.out.cPar
      have hcv := hC.out.cVar
      have f1 : IntKind.i64.wrap ((i : Int) - (s : Int)) = (i : Int) - (s : Int) := IntWalk.i64_in _ (by omega)
      have f2 : IntKind.i64.wrap ((i : Int) - (s : Int) - 1) = (q : Int) := by rw [IntWalk.i64_in _ (by omega)]; omega
      have f3 : IntKind.i64.wrap ((i : Int) - 1) = (i1 : Int) := by rw [IntWalk.i64_in _ (by omega)]; omega
      have b1 : (q : Int) < (n : Int) := by omega
      have b2 : (i : Int) < (n : Int) := by have := HN1.out; omega
      have b3 : (i1 : Int) < (n : Int) := by have := HN1.out; omega
      have b4 : (0 : Int) ≤ (i : Int) := by omega
      have b5 : (0 : Int) ≤ (i1 : Int) := by omega
      have b6 : (0 : Int) ≤ (q : Int) := by omega
      have hor2 : Hid (i1 = n1 ∨ s ≤ i1) := Lib.hid (.inr (by omega))
      have hil : i1 < i := by omega
      have HA := Lib.hid hA
      have HCC := Lib.hid hCC
      have HX := Lib.hid hx
      have HY := Lib.hid hy
      have HI := Lib.hid hi1
      have HQ := Lib.hid hq
      clear hA hCC hx hy hi1 hq hDl hlnn
      go_wp2_with fail
      go_quiet ((go_at_call 76; exact quiet_same (dif_any _ _ _ hxr.out hyr.out)))
      go_wp2_with fail
      have hd : Hid (∀ w, Calls Tryd.prog 76 #[.int .i64 A, .int .i64 C] w fun e w' => e = .returned (.int .i64 (difF A C)) ∧ w' = w) := Lib.hid (fun w => (dif_any _ _ w hAr.out hCr.out).mono fun _ _ h => ⟨h.1, h.2.symm⟩)
      have hv : Hid (∀ w, Calls Tryd.prog 91 #[.int .i64 (difF x y)] w fun e w' => e = .returned (.int .i64 (ivI (difF x y))) ∧ w' = w) := Lib.hid (fun w => (inverse_any _ w (difF_range _ _)).mono fun _ _ h => ⟨h.1, h.2.symm⟩)
      have hm : Hid (∀ w, Calls Tryd.prog 59 #[.int .i64 (difF A C), .int .i64 (ivI (difF x y))] w fun e w' => e = .returned (.int .i64 (mulF (difF A C) (ivI (difF x y)))) ∧ w' = w) := Lib.hid (fun w => (product_any _ _ w (difF_range _ _) (ivI_range _)).mono fun _ _ h => ⟨h.1, h.2.symm⟩)
      generalize hwd : World.drewN wr _ = wd
      have hC1 : Hid (CoAt w0 Bp Bl R (some ⟨b, off, none⟩) n cap l D wd) := Lib.hid (by rw [← hwd]; exact hC.out.drewN _)
      clear hwd hcx hcy hca hcc hcp hcv hC
      have hca := hC1.out.cRow hiD
      rw [← HA.out] at hca
      have hcc := hC1.out.cRow hi1D
      rw [← HCC.out] at hcc
      have hcv := hC1.out.cVar
      have hfz := hC1.out.fRow i
      go_still_tail 16, (by kernel_rfl)
      still_call (hd.out _)
      repeat still_step
      still_call (hv.out _)
      repeat still_step
      still_call (hm.out _)
      repeat still_step
      try refine wpStill_nil ?_
      change wpList _ _ _ _ _ wd.drew
      have hC2 : Hid (CoAt w0 Bp Bl R (some ⟨b, off, none⟩) n cap l D wd.drew) := Lib.hid hC1.out.drew
      clear hca hcc hcv hfz hC1
      generalize wd.drew = we at hC2 ⊢
      have hfz := hC2.out.fRow i
      have hca := hC2.out.cRow hiD
      rw [← HA.out] at hca
      go_wp2_with fail
      refine ⟨⟨i1, _, by omega, rfl, hor2, hS2, Lib.hid (hC2.out.store _ _)⟩, by simp [intOf]; omega⟩
    · have hS2 := hS.out.next (k := n1) (by omega) (by have := HN1.out; have := hln.out; rcases hor.out with h | h <;> omega) (by have := HN1.out; have := hln.out; omega)
      have HS2 := Lib.hid hS2
      clear hS2
      go_wp2_with fail
      go_end0
      exact ⟨rfl, D, hC.out, by rw [← HN1.out]; exact HS2.out⟩
theorem infoI : (Tryd.prog.info? 3).map (fun i => (i.zero, i.size, i.bytes)) = some (some (.int .i64 0), 1, 8) := by kernel_rfl
/-- the Y of the first k points, and zeros -/
def ysZ (l : List (Int × Int)) (n k : Nat) : List Int := (l.map Prod.snd).take k ++ List.replicate (n - k) 0
theorem ysZ_zero (l : List (Int × Int)) (n : Nat) : ysZ l n 0 = List.replicate n 0 := by simp [ysZ]
theorem ysZ_len {l : List (Int × Int)} {n k : Nat} (h : n = l.length) (hk : k ≤ n) : (ysZ l n k).length = n := by simp [ysZ]; omega
theorem ysZ_next {l : List (Int × Int)} {n k : Nat} (h : n = l.length) (hk : k < n) {y : Int} (hy : y = Yp l k) : (ysZ l n k).set k y = ysZ l n (k + 1) := by
  unfold ysZ
  have hk' : k < (l.map Prod.snd).length := by simp; omega
  obtain ⟨r, hr⟩ : ∃ r, n - k = r + 1 := ⟨n - k - 1, by omega⟩
  rw [show n - (k + 1) = r by omega, hr, List.replicate_succ, List.take_succ_eq_append_getElem hk', List.set_append, if_neg (by simp; omega)]
  have e : k - min k l.length = 0 := by omega
  simp [hy, Yp_get (show k < l.length by omega), e]
theorem ysZ_all {l : List (Int × Int)} {n : Nat} (h : n = l.length) : ysZ l n n = l.map Prod.snd := by
  unfold ysZ; rw [Nat.sub_self, List.replicate_zero, List.append_nil, List.take_of_length_le (by simp; omega)]
set_option maxHeartbeats 2000000 in
theorem coefs_any (h : PtsAt w a n l) (hp : pairsE l = true) (hn : n ≤ 16) (h0 : 0 < n) :
    Calls Tryd.prog 75 #[.slice a n cap] w fun e w' => ∃ R D, e = .returned (.slice (some ⟨R, 0, none⟩) n n) ∧ IntsAt w' (some ⟨R, 0, none⟩) n D ∧ Coefs l D ∧ Below w.heap.size w w' := by
  obtain ⟨j0, hj0, jz0, jz1, jz2⟩ := info_parts infoI
  have HH := Lib.hid h
  have HP := Lib.hid hp
  have hmf : ∀ (fn : Fn) (first cap : Array Value) (w : World), (Instr.makeFunc fn first cap).run Tryd.prog w = .ok (.func fn first cap) w := fun _ _ _ _ => rfl
  clear h hp
  go_enter Tryd.func75, Tryd.ntmps75
  go_wp2_with (at_make; refine wpList_make_full _ rfl _ _ 22 rfl (w.heap.size + 1) 3 j0 (.int .i64 0) 1 Tryd.underlying22 hj0 jz0 jz1 _ _ _ _ n rfl rfl (by omega) (by omega) (by rw [jz2]; omega) (by unfold maxLen; omega) (by simp) ?_)
  intro w1 hown hgrow
  have D1 : Hid (Below w.heap.size w w1) := Lib.hid (((Below.refl _ _).alloc (Nat.le_refl _) _).grown hgrow (by simp) (fun k h => by cases h))
  have hbl : w1.heap[w.heap.size]? = some (.cells #[.slice a n cap] 63 (0, 0)) := (hgrow.block _ (by simp) (fun e => by cases e)).trans (heap_lastF _ _)
  have hrow : w1.heap[w.heap.size + 1]? = some (.cells (rowOf (ysZ l n 0)) 3 (0, 0)) := by
    rcases hown.2 with ⟨e, _⟩ | ⟨g, cap', cur, e, _, hg, _, _, hcs, htk⟩
    · cases e
    · simp only [Value.slice.injEq, Option.some.injEq, Addr.mk.injEq, and_true, true_and] at e
      obtain ⟨e1, e2⟩ := e
      subst e1 e2
      rw [hg]
      congr 2
      apply Array.ext'
      rw [List.take_of_length_le (by simp [hcs])] at htk
      rw [htk, toList_madeCells_one, ysZ_zero]
      simp [rowOf]
  have hsz : w.heap.size + 1 < w1.heap.size := blk_ltF hrow
  have hA : Hid (CoAt w w.heap.size w1.heap.size (w.heap.size + 1) a n cap l (ysZ l n 0) (w1.alloc (Obj.cells #[Value.slice (some ⟨w.heap.size + 1, 0, none⟩) n n] 22))) := Lib.hid
    ⟨HH.out, D1.out.alloc D1.out.size _, (Below.heap_alloc _ _ _ (blk_ltF hbl)).trans hbl, heap_lastF _ _, (Below.heap_alloc _ _ _ (blk_ltF hrow)).trans hrow, by omega, by omega, by omega⟩
  have hc1 := hA.out.cPar
  clear hown hgrow hbl hrow
  go_wp2_with fail
  generalize w1.alloc (Obj.cells #[Value.slice (some ⟨w.heap.size + 1, 0, none⟩) n n] 22) = w2 at hA ⊢
  obtain ⟨Bl, hBl⟩ : ∃ B, B = w1.heap.size := ⟨_, rfl⟩
  obtain ⟨Bp, hBp⟩ : ∃ B, B = w.heap.size := ⟨_, rfl⟩
  obtain ⟨R, hR⟩ : ∃ B, B = w.heap.size + 1 := ⟨_, rfl⟩
  rw [← hBl, ← hR] at hA
  rw [← hBl, ← hR]
  clear hBl hsz hc1 D1 hR hBp
  go_loopw [13] (fun ii wr => ∃ k : Nat, k ≤ n ∧ ii = .int .i64 (k : Int) ∧ Hid (CoAt w w.heap.size Bl R a n cap l (ysZ l n k) wr)) (fun ii _ => n - (intOf ii).toNat)
  case atStart => exact ⟨0, by omega, rfl, hA⟩
  case round =>
    clear hA
    obtain ⟨k, hk, rfl, hC⟩ := hrel
    by_cases hlt : k < n
    · obtain ⟨b, off, rfl, -⟩ := HH.out.cells h0
      have hkl : k < l.length := by have := HH.out.len; omega
      obtain ⟨hcx, hcy⟩ := hC.out.ptsAt.cell hkl
      obtain ⟨x, hx⟩ : ∃ x, x = Xp l k := ⟨_, rfl⟩
      obtain ⟨y, hy⟩ : ∃ y, y = Yp l k := ⟨_, rfl⟩
      rw [← Xp_get hkl, ← hx] at hcx
      rw [← Yp_get hkl, ← hy] at hcy
      have hA2 := Lib.hid (hC.out.alloc (Obj.cells #[Value.int .i64 x, Value.int .i64 y] 66))
      have hcv := hA2.out.cVar
      have hfz := hA2.out.fRow k
      have hzl : k < (ysZ l n k).length := by rw [ysZ_len HH.out.len hk]; exact hlt
      have hcr := hA2.out.cRow hzl
      generalize (ysZ l n k)[k] = z0 at hcr
      have hC2 : Hid (CoAt w w.heap.size Bl R (some ⟨b, off, none⟩) n cap l (ysZ l n (k + 1)) ((wr.alloc (Obj.cells #[Value.int .i64 x, Value.int .i64 y] 66)).setCell ⟨R, k, none⟩ (.int .i64 y))) := Lib.hid (by
        rw [← ysZ_next HH.out.len hlt hy]; exact hA2.out.store k y)
      have HX := Lib.hid hx
      have HY := Lib.hid hy
      clear hx hy
      go_wp2_with fail
      go_roundw
      case rel => exact ⟨k + 1, by omega, by go_num, hC2⟩
      case measure => simp [intOf]; omega
    · obtain rfl : k = n := by omega
      have hA3 : Hid (CoAt w w.heap.size Bl R a k cap l (l.map Prod.snd) wr) := Lib.hid (by rw [← ysZ_all HH.out.len]; exact hC.out)
      have hS3 : Hid (Stage l 0 (k - 1) (l.map Prod.snd)) := Lib.hid (Stage.start HP.out _ (by have := HH.out.len; omega))
      have hcp := hA3.out.cPar
      clear hC
      go_wp2_with fail
      obtain ⟨wo, rfl⟩ : ∃ wo : World, wo = wr := ⟨_, rfl⟩
      go_loopw [27] (fun ii wr => ∃ (s : Nat) (D : List Int), s ≤ k ∧ ii = .int .i64 (s : Int) ∧ Hid (CoAt w w.heap.size Bl R a k cap l D wr) ∧ Hid (Stage l s (k - 1) D)) (fun ii _ => k - (intOf ii).toNat)
      case atStart => exact ⟨0, _, by omega, rfl, hA3, hS3⟩
      case round =>
        clear hA3 hS3 hcp
        obtain ⟨s, D, hs, rfl, hC, hS⟩ := hrel
        by_cases hlt : s < k
        · go_wp2_with fail
          refine (raise_any s hC.out HP.out hS.out hn h0 hlt).mono ?_
          rintro e w5 ⟨rfl, D', hC5, hS5⟩
          have HC5 := Lib.hid hC5
          have HS5 := Lib.hid hS5
          clear hC5 hS5
          go_wp2_with fail
          go_roundw
          case rel => exact ⟨s + 1, D', by omega, by go_num, HC5, HS5⟩
          case measure => simp [intOf]; omega
        · obtain rfl : s = k := by omega
          have hco : Hid (Coefs l D) := Lib.hid (hS.out.done (by have := HH.out.len; omega) (by have := HH.out.len; omega))
          have hcv := hC.out.cVar
          go_wp2_with fail
          go_ret
          exact ⟨R, D, rfl, ⟨by rw [hco.out.len]; exact HH.out.len, fun _ => ⟨R, 0, rfl, fun j hj => by rw [Nat.zero_add]; exact hC.out.cRow hj⟩⟩, hco.out, hC.out.below⟩
end Go.Proofs.YtcdnddjoonecdaaDoor
