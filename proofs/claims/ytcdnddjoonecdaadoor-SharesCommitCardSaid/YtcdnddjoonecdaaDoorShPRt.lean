/-
  The program's Root of a list of shares (layer 7).
-/
import Derived.Test.YtcdnddjoonecdaaDoorShPL
import Derived.Test.YtcdnddjoonecdaaDoorShRoot
import Derived.Test.YtcdnddjoonecdaaDoorShPB
set_option linter.unusedVariables false
set_option maxRecDepth 100000
namespace Go.Proofs.YtcdnddjoonecdaaDoor
open Go.RowKit
open Fdp
def strsRow (D : List ByteArray) : Array Value := (D.map Value.string).toArray
structure RowS (w0 w : World) (R : Nat) (D : List ByteArray) : Prop where
  row : w.heap[R]? = some (.cells (strsRow D) 9 (0, 0))
  below : Below w0.heap.size w0 w
  base : w0.heap.size ≤ R
section
variable {w0 w w' : World} {R : Nat} {D : List ByteArray}
theorem RowS.lt (h : RowS w0 w R D) : R < w.heap.size := by
  rcases Nat.lt_or_ge R w.heap.size with h' | h'
  · exact h'
  · have := h.row; simp [Array.getElem?_eq_none h'] at this
theorem RowS.bel (h : RowS w0 w R D) (hb : Below w.heap.size w w') : RowS w0 w' R D := ⟨(hb.block _ h.lt).trans h.row, h.below.trans (hb.mono h.below.size), h.base⟩
theorem RowS.store (h : RowS w0 w R D) (k : Nat) (x : ByteArray) : RowS w0 (w.setCell ⟨R, k, none⟩ (.string x)) R (D.set k x) := by
  refine ⟨?_, h.below.setCell h.base _, h.base⟩
  rw [heap_setCell_same _ _ k _ _ _ h.row]
  congr 2
  apply Array.ext'
  simp [strsRow, List.map_set]
theorem RowS.cell (h : RowS w0 w R D) {k : Nat} (hk : k < D.length) : w.cell? ⟨R, k, none⟩ = some (.string D[k]) := by
  rw [Lib.cell_of_heap h.row]
  simp [strsRow, hk]
theorem RowS.frozen (h : RowS w0 w R D) (j : Nat) : w.frozen? ⟨R, j, none⟩ = false := Lib.frozen_of_heap h.row j
end
def fillS (l : List ByteArray) (n k : Nat) : List ByteArray := l.take k ++ List.replicate (n - k) ⟨#[]⟩
theorem fillS_zero (l : List ByteArray) (n : Nat) : fillS l n 0 = List.replicate n ⟨#[]⟩ := by simp [fillS]
theorem fillS_len {l : List ByteArray} {n k : Nat} (h : n = l.length) (hk : k ≤ n) : (fillS l n k).length = n := by simp [fillS]; omega
theorem fillS_next {l : List ByteArray} {n k : Nat} (h : n = l.length) (hk : k < n) {x : ByteArray} (hy : l[k]'(by omega) = x) : (fillS l n k).set k x = fillS l n (k + 1) := by
  unfold fillS
  obtain ⟨r, hr⟩ : ∃ r, n - k = r + 1 := ⟨n - k - 1, by omega⟩
  rw [show n - (k + 1) = r by omega, hr, List.replicate_succ, List.take_succ_eq_append_getElem (by omega), List.set_append, if_neg (by simp; omega), hy]
  have e : k - min k l.length = 0 := by omega
  simp [e]
theorem fillS_all {l : List ByteArray} {n : Nat} (h : n = l.length) : fillS l n n = l := by
  unfold fillS; rw [Nat.sub_self, List.replicate_zero, List.append_nil, List.take_of_length_le (by omega)]
theorem made_rowS {w w1 : World} {n : Nat} (l : List ByteArray) (hown : w1.ownsRow w.heap.size 9 1 (.slice (some ⟨w.heap.size, 0, none⟩) n n) n (madeCells #[Value.string ⟨#[]⟩] n).toList) (hb : Below w.heap.size w w1) : RowS w w1 w.heap.size (fillS l n 0) := by
  refine ⟨?_, hb, Nat.le_refl _⟩
  rcases hown.2 with ⟨e, _⟩ | ⟨g, cap', cur, e, _, hg, _, _, hcs, htk⟩
  · cases e
  · simp only [Value.slice.injEq, Option.some.injEq, Addr.mk.injEq, and_true, true_and] at e
    obtain ⟨e1, e2⟩ := e
    subst e1 e2
    rw [hg]
    congr 2
    apply Array.ext'
    rw [List.take_of_length_le (by simp [hcs])] at htk
    rw [htk, toList_madeCells_one, fillS_zero]
    simp [strsRow]
theorem infoStr7 : (Tryd.prog.info? 9).map (fun i => (i.zero, i.size, i.bytes)) = some (some (.string ⟨#[]⟩), 1, 16) := by kernel_rfl
theorem rootSh_no {l : List (Int × Int)} (h : ¬ ((1 ≤ l.length ∧ l.length ≤ 16) ∧ validsS l = true)) : rootSh l = (⟨#[]⟩, 1) := by
  unfold rootSh; rw [if_neg (by simpa using h)]
set_option maxHeartbeats 2000000 in
theorem prootSh_any (a : Option Addr) (n cap : Nat) (l : List (Int × Int)) (w : World) (h : PtsAt w a n l) (hn : n ≤ 1000000) (ht : TabOk w) :
    Calls Tryd.prog 8 #[.slice a n cap] w (GivesSN (rootSh l) w) := by
  have HH := Lib.hid h
  have HL := Lib.hid h.len
  have HT := Lib.hid ht
  clear h ht
  by_cases h1 : 1 ≤ (n : Int) ∧ (n : Int) ≤ 16
  · have H1 := Lib.hid h1
    have hn16 : n ≤ 16 := by omega
    have hn1 : 1 ≤ n := by omega
    cases hv : validsS l with
    | false =>
      rw [rootSh_no (by rw [hv]; simp)]
      have HV := Lib.hid hv
      clear h1 hv
      go_enter Tryd.func8, Tryd.ntmps8
      go_wp2_with fail
      refine (within_yes _ _ _ _ H1.out.1 H1.out.2).mono ?_
      rintro e w' ⟨rfl, rfl⟩
      go_wp2_with fail
      refine (valid_shares a n cap l _ HH.out hn).mono ?_
      rintro e w1 ⟨rfl, hb⟩
      rw [HV.out]
      have D1 := Lib.hid hb
      clear hb
      go_wp2_with fail
      go_ret2
      exact ⟨rfl, D1.out⟩
    | true =>
      obtain ⟨r, hr⟩ : ∃ r, r = rootSh l := ⟨_, rfl⟩
      have HR : Hid (r = (rootB (leavesS l), 0)) := Lib.hid (by rw [hr]; unfold rootSh; rw [hv, if_pos]; have := HL.out; simp; omega)
      rw [← hr]
      have HV := Lib.hid hv
      have HVS := Lib.hid (validsS_iff.1 hv)
      obtain ⟨j0, hj0, jz0, jz1, jz2⟩ := info_parts infoStr7
      have HLL : Hid (n = (leavesS l).length) := Lib.hid (by unfold leavesS; rw [List.length_map]; exact HL.out)
      clear h1 hv hr
      go_enter Tryd.func8, Tryd.ntmps8
      go_wp2_with fail
      refine (within_yes _ _ _ _ H1.out.1 H1.out.2).mono ?_
      rintro e w' ⟨rfl, rfl⟩
      go_wp2_with fail
      refine (valid_shares a n cap l _ HH.out hn).mono ?_
      rintro e w2 ⟨rfl, hb⟩
      rw [HV.out]
      have D2 := Lib.hid hb
      clear hb
      go_wp2_with (at_make; refine wpList_make_full _ rfl _ _ 35 rfl w2.heap.size 9 j0 (.string ⟨#[]⟩) 1 Tryd.underlying35 hj0 jz0 jz1 _ _ _ _ n rfl rfl (by omega) (by omega) (by rw [jz2]; omega) (by unfold maxLen; omega) (by simp) ?_)
      intro w1 hown hgrow
      have D1 : Hid (Below w2.heap.size w2 w1) := Lib.hid ((Below.refl _ _).grown hgrow (Nat.le_refl _) (fun k h => by cases h))
      have hR : Hid (RowS w2 w1 w2.heap.size (fillS (leavesS l) n 0)) := Lib.hid (made_rowS _ hown D1.out)
      clear hown hgrow D1 hj0 jz0 jz1 jz2
      go_wp2_with fail
      go_loopw [20] (fun ii wr => ∃ k : Nat, k ≤ n ∧ ii = .int .i64 (k : Int) ∧ Hid (RowS w2 wr w2.heap.size (fillS (leavesS l) n k))) (fun ii _ => n - (intOf ii).toNat)
      case atStart => exact ⟨0, by omega, rfl, hR⟩
      case round =>
        clear hR
        obtain ⟨k, hk, rfl, hR⟩ := hrel
        by_cases hlt : k < n
        · obtain ⟨b, off, rfl, -⟩ := HH.out.cells (by omega)
          have hkl : k < l.length := by have := HL.out; omega
          have HD := Lib.hid (D2.out.trans (hR.out.below.mono D2.out.size))
          obtain ⟨hcx, hcy⟩ := (HH.out.bel HD.out).cell hkl
          have hvk := HVS.out _ (List.getElem_mem hkl)
          obtain ⟨x, hx⟩ : ∃ x : Nat, l[k].1 = x := ⟨l[k].1.toNat, by omega⟩
          obtain ⟨y, hy⟩ : ∃ y : Nat, l[k].2 = y := ⟨l[k].2.toNat, by have := hvk.2.1; omega⟩
          have hx16 : x ≤ 16 := by omega
          have hyP : y < 2147483647 := by have := hvk.2.2; omega
          rw [hx] at hcx
          rw [hy] at hcy
          obtain ⟨F, hF⟩ : ∃ F, F = leafB (textS ((x : Int), (y : Int))) := ⟨_, rfl⟩
          have cF : Hid (∀ w : World, TabOk w → Calls Tryd.prog 24 #[.agg #[.int .i64 (x : Int), .int .i64 (y : Int)]] w fun e w' => e = .returned (.string F) ∧ Below w.heap.size w w') := Lib.hid (fun w h => by rw [hF]; exact pleafS_any x y w hx16 hyP h)
          have hkv : (leavesS l)[k]'(by have := HLL.out; omega) = F := by unfold leavesS; rw [List.getElem_map, hF, ← hx, ← hy]
          have hnx := Lib.hid (fillS_next HLL.out hlt hkv)
          have HZL : Hid (k < (fillS (leavesS l) n k).length) := Lib.hid (by rw [fillS_len HLL.out hk]; exact hlt)
          have b1 : (0 : Int) ≤ (k : Int) := by omega
          have b2 : (k : Int) < (n : Int) := by omega
          clear hx hy hF hkv hvk hyP hx16
          go_wp2_with fail
          refine (cF.out _ (TabOk.below HT.out HD.out)).mono ?_
          rintro e w6 ⟨rfl, hb6⟩
          have hR6 := Lib.hid (hR.out.bel hb6)
          have hca := hR6.out.cell HZL.out
          have hfa := hR6.out.frozen k
          generalize (fillS (leavesS l) n k)[k] = z0 at hca
          have hR7 : Hid (RowS w2 (w6.setCell ⟨w2.heap.size, k, none⟩ (.string F)) w2.heap.size (fillS (leavesS l) n (k + 1))) := Lib.hid (by
            rw [← hnx.out]; exact hR6.out.store k F)
          clear hb6 hR hR6 HZL
          go_wp2_with fail
          go_roundw
          case rel => exact ⟨k + 1, by omega, by go_num, hR7⟩
          case measure => simp [intOf]; omega
        · obtain rfl : k = n := by omega
          have hR2 : Hid (RowS w2 wr w2.heap.size (leavesS l)) := Lib.hid (by have := hR.out; rwa [fillS_all HLL.out] at this)
          have HO : Hid (StrsOk wr (.slice (some ⟨w2.heap.size, 0, none⟩) k k) (leavesS l)) := Lib.hid (by
            have hl := HLL.out
            have := StrsOk.mk' (w := wr) (b := w2.heap.size) (off := 0) (cap := k) (ss := leavesS l) (by omega) (by omega) (by unfold maxLen; omega) (fun s hs => Nat.le_trans (digsB_small (digs_leaves l) s hs) (by unfold maxLen; omega))
              (fun j hj => by rw [Nat.zero_add]; exact hR2.out.cell hj)
            rwa [← hl] at this)
          have HD := Lib.hid (D2.out.trans (hR2.out.below.mono D2.out.size))
          have hll : Hid ((leavesS l).length ≤ 1099511627776) := Lib.hid (by have := HLL.out; omega)
          clear hR
          go_wp2_with fail
          refine (pRoot_ok _ (leavesS l) _ HO.out hll.out (digs_leaves l) (TabOk.below HT.out HD.out)).mono ?_
          rintro e w4 ⟨rfl, hb⟩
          have D4 := Lib.hid (below_then HD.out hb)
          clear hb
          go_wp2_with fail
          go_ret2
          rw [HR.out]
          exact ⟨rfl, D4.out⟩
  · rw [rootSh_no (by have := HL.out; intro h; omega)]
    have H1 := Lib.hid h1
    clear h1
    go_enter Tryd.func8, Tryd.ntmps8
    go_wp2_with fail
    refine (within_no _ _ _ _ H1.out).mono ?_
    rintro e w' ⟨rfl, rfl⟩
    go_wp2_with fail
    go_ret2
    exact ⟨rfl, Below.refl _ _⟩
end Go.Proofs.YtcdnddjoonecdaaDoor
