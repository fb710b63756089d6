/-
  The contract of blocks.at: for every text and block within it, the eight bytes of the block, 0 behind the end.
-/
import Derived.Test.YtbiekbppenccdaaDoorDigNum
import Derived.Deep.RegionLaw
import Derived.Laws.CopyOwn
import Derived.Lib.Builder
import Derived.Outline
namespace Go.Proofs.YtbiekbppenccdaaDoor
open Go.RowKit
def strCells (s : ByteArray) (n : Nat) : List Value := (s.data.toList.map fun b => Value.int .u8 (b.toNat : Int)).take n
theorem run_copy_str {P : Program} (w : World) (dT sT ty elem : TypeId) (g o dLen dCap : Nat) (s : ByteArray) (cur : Array Value) (t : TypeId)
    (hu : P.underlying dT = some (.slice elem)) (hs : (P.info? elem).map (·.size) = some 1)
    (hg : w.heap[g]? = some (.cells cur t (0, 0))) (hfit : o + Nat.min s.size dLen ≤ cur.size) :
    (Builtin.copy_ #[dT, sT] ty #[.slice (some ⟨g, o, none⟩) dLen dCap, .string s]).run P w =
      .ok (goInt (Nat.min s.size dLen)) (w.setRow g (cur.toList.take o ++ strCells s (Nat.min s.size dLen) ++ cur.toList.drop (o + Nat.min s.size dLen)).toArray) := by
  have hlen : (strCells s (Nat.min s.size dLen)).length = Nat.min s.size dLen := by
    have : s.data.toList.length = s.size := by simp
    simp only [strCells, List.length_map, List.length_take, this]
    exact Nat.min_eq_left (Nat.min_le_left _ _)
  have hst := run_storeCells_at P g o t (strCells s (Nat.min s.size dLen)) 0 cur w hg (by rw [hlen]; simpa using hfit) (by intro v hv; have hv' := List.mem_of_mem_take hv; simp only [List.mem_map] at hv'; obtain ⟨b, _, rfl⟩ := hv'; rfl)
  rw [hlen] at hst
  cases hq : P.info? elem with
  | none => simp [hq] at hs
  | some i =>
    simp only [Nat.add_zero] at hst
    simp only [Builtin.copy_, Builtin.lenOf, Builtin.firstCells, sizeOf, typeInfo]
    simp [run_underlying hu, hq]
    rw [show List.take (s.size.min dLen) (List.map (fun b => Value.int IntKind.u8 ↑b.toNat) s.data.toList) = strCells s (s.size.min dLen) from rfl, hst]
    simp
theorem step_copy_str {P : Program} {ops : Array Oper} {o : Oper} {a : Act} {w : World} {K : Act → World → Prop} {Q : Exit → Act → World → Prop} {E : Prop} (hgd : o.guard = none) (d s : Operand) (dT sT : TypeId)
    (ho : o.op = .call { callee := .builtin .copy, args := #[d, s], argTypes := #[dT, sT] }) (elem : TypeId) (hu : P.underlying dT = some (.slice elem)) (hsz : (P.info? elem).map (·.size) = some 1)
    (g off dLen dCap : Nat) (str : ByteArray) (hd : a.eval d = .slice (some ⟨g, off, none⟩) dLen dCap) (hs : a.eval s = .string str)
    (cur : Array Value) (t : TypeId) (hg : w.heap[g]? = some (.cells cur t (0, 0))) (hfit : off + Nat.min str.size dLen ≤ cur.size)
    (B : Nat) (w0 : World) (hb : RowKit.Below B w0 w) (hBg : B ≤ g)
    (h : ∀ w', RowKit.Hid (w'.heap[g]? = some (.cells (cur.toList.take off ++ strCells str (Nat.min str.size dLen) ++ cur.toList.drop (off + Nat.min str.size dLen)).toArray t (0, 0))) → RowKit.Below B w0 w' → K (a.put o.dst (goInt (Nat.min str.size dLen))) w') :
    if Region.wanted o (yielded ops a.tmps) = true then Oper.wp P o a w K Q else E := by
  have hw : Region.wanted o (yielded ops a.tmps) = true := by simp [Region.wanted, hgd]
  rw [if_pos hw]
  have hrun := run_copy_str (P := P) w dT sT o.type elem g off dLen dCap str cur t hu hsz hg hfit
  unfold Oper.wp
  simp [execOp, ho, resolve, invoke, builtin, hd, hs, hrun, Result.andThen]
  exact h _ (show _ = _ by simpa using setRow_heap w g _ _ t _ hg) (below_setRow hb hBg _)
def zero8 : Array Value := #[Value.int IntKind.u8 0, Value.int IntKind.u8 0, Value.int IntKind.u8 0, Value.int IntKind.u8 0, Value.int IntKind.u8 0, Value.int IntKind.u8 0, Value.int IntKind.u8 0, Value.int IntKind.u8 0]
def row8 (l : List UInt8) (a : Nat) : Array Value := #[.int .u8 (Dig.byteAt l a : Int), .int .u8 (Dig.byteAt l (a+1) : Int), .int .u8 (Dig.byteAt l (a+2) : Int), .int .u8 (Dig.byteAt l (a+3) : Int), .int .u8 (Dig.byteAt l (a+4) : Int), .int .u8 (Dig.byteAt l (a+5) : Int), .int .u8 (Dig.byteAt l (a+6) : Int), .int .u8 (Dig.byteAt l (a+7) : Int)]
theorem row8_eq (s : ByteArray) (i : Nat) (hi : 8 * i ≤ s.size) : (List.take 0 zero8.toList ++ strCells (s.extract (i * 8) s.size) ((s.extract (i * 8) s.size).size.min 8) ++ List.drop (0 + (s.extract (i * 8) s.size).size.min 8) zero8.toList).toArray = row8 s.data.toList (8 * i) := by
  have hsz : (s.extract (i * 8) s.size).size = s.size - i * 8 := by simp
  have hl : s.data.toList.length = s.size := by simp
  have hb : ∀ j, j < 8 → (row8 s.data.toList (8 * i)).toList[j]? = some (.int .u8 (Dig.byteAt s.data.toList (8 * i + j) : Int)) := by
    intro j hj
    match j, hj with
    | 0, _ => rfl
    | 1, _ => rfl
    | 2, _ => rfl
    | 3, _ => rfl
    | 4, _ => rfl
    | 5, _ => rfl
    | 6, _ => rfl
    | 7, _ => rfl
  have hz : ∀ j, j < 8 → zero8.toList[j]? = some (.int .u8 0) := by
    intro j hj
    match j, hj with
    | 0, _ => rfl
    | 1, _ => rfl
    | 2, _ => rfl
    | 3, _ => rfl
    | 4, _ => rfl
    | 5, _ => rfl
    | 6, _ => rfl
    | 7, _ => rfl
  have hz8 : zero8.toList.length = 8 := rfl
  have hr8 : (row8 s.data.toList (8 * i)).toList.length = 8 := rfl
  rw [hsz]
  have hmin : (s.size - i * 8).min 8 = Nat.min (s.size - i * 8) 8 := rfl
  have hlenS : (strCells (s.extract (i * 8) s.size) ((s.size - i * 8).min 8)).length = (s.size - i * 8).min 8 := by
    simp [strCells]
  apply Array.ext'
  simp only [List.take_zero, List.nil_append, Nat.zero_add]
  apply List.ext_getElem?
  intro j
  by_cases hj : j < 8
  · rw [hb j hj]
    by_cases h1 : j < (s.size - i * 8).min 8
    · rw [List.getElem?_append_left (by rw [hlenS]; exact h1)]
      have h2 : j < s.size - i * 8 := Nat.lt_of_lt_of_le h1 (Nat.min_le_left _ _)
      simp only [strCells]
      rw [List.getElem?_take, if_pos h1, List.getElem?_map]
      have h3 : (s.extract (i * 8) s.size).data.toList[j]? = s.data.toList[8 * i + j]? := by
        simp [ByteArray.data_extract]
        rw [List.getElem?_take, if_pos h2, List.getElem?_drop, Nat.mul_comm i 8]; simp
      rw [h3]
      have h4 : 8 * i + j < s.data.toList.length := by rw [hl]; omega
      rw [List.getElem?_eq_getElem h4]
      simp only [Option.map_some]
      rw [Dig.byteAt_in h4]
    · have h2 : s.size - i * 8 ≤ j := by
        rcases Nat.le_total (s.size - i * 8) 8 with h | h
        · have : (s.size - i * 8).min 8 = s.size - i * 8 := Nat.min_eq_left h
          omega
        · have : (s.size - i * 8).min 8 = 8 := Nat.min_eq_right h
          omega
      have h1' : (s.size - i * 8).min 8 ≤ j := by omega
      rw [List.getElem?_append_right (by rw [hlenS]; exact h1'), hlenS, List.getElem?_drop]
      rw [show (s.size - i * 8).min 8 + (j - (s.size - i * 8).min 8) = j by omega, hz j hj, Dig.byteAt_out (by rw [hl]; omega)]
      rfl
  · have hle : (s.size - i * 8).min 8 ≤ 8 := Nat.min_le_right _ _
    rw [List.getElem?_eq_none, List.getElem?_eq_none]
    · rw [hr8]; omega
    · rw [List.length_append, hlenS, List.length_drop, hz8]; omega
theorem heap_last (w : World) (o : Obj) : (w.alloc o).heap[w.heap.size]? = some o := by show (w.heap.push o)[w.heap.size]? = _; simp
theorem heap_prev (w : World) (o p : Obj) : ((w.alloc o).alloc p).heap[w.heap.size]? = some o := by rw [Below.heap_alloc _ _ _ (by simp)]; exact heap_last w o
theorem heap_last2 (w : World) (o p : Obj) : ((w.alloc o).alloc p).heap[w.heap.size + 1]? = some p := by
  have := heap_last (w.alloc o) p
  simpa using this
set_option maxHeartbeats 400000 in
theorem at_any (s : ByteArray) (i : Nat) (w : World) (hs : s.size ≤ maxLen) (hi : 8 * i ≤ s.size) :
   Calls Tryd.prog 67 #[.string s, .int .i64 (i:Int)] w fun e w' => e = .returned (arr8 s.data.toList (8 * i)) ∧ Below w.heap.size w w' := by
  unfold maxLen at hs
  have e1 : IntKind.i64.wrap ((i : Int) * 8) = (i : Int) * 8 := IntWalk.i64_in _ (by omega)
  have e2 : 0 ≤ (i : Int) * 8 := by omega
  have e3 : (i : Int) * 8 ≤ s.size := by omega
  have e4 : ((i : Int) * 8).toNat = i * 8 := by omega
  go_enter Tryd.func67, Tryd.ntmps67
  go_wp2
  go_region_law (first | (refine step_copy_str rfl (.tmp 6) (.tmp 10) 66 68 rfl 5 Tryd.underlying66 (by kernel_rfl) (w.heap.size + 1) 0 8 8 (s.extract (i * 8) s.size) rfl rfl #[Value.int IntKind.u8 0, Value.int IntKind.u8 0, Value.int IntKind.u8 0, Value.int IntKind.u8 0, Value.int IntKind.u8 0, Value.int IntKind.u8 0, Value.int IntKind.u8 0, Value.int IntKind.u8 0] 72 ?h1 ?h2 (w.heap.size + 1) _ (Below.refl _ _) (Nat.le_refl _) ?_; (case h1 => exact heap_last2 w _ _); (case h2 => exact (by rw [Nat.zero_add]; exact Nat.min_le_right _ _)); intro w2 hg2 hb2))
  have hg3 : w2.heap[w.heap.size + 1]? = some (.cells (row8 s.data.toList (8 * i)) 72 (0, 0)) := by
    rw [← row8_eq s i hi]; exact hg2.out
  have hg4 : w2.heap[w.heap.size]? = some (.cells #[Value.int IntKind.u8 0, Value.int IntKind.u8 0, Value.int IntKind.u8 0, Value.int IntKind.u8 0, Value.int IntKind.u8 0, Value.int IntKind.u8 0, Value.int IntKind.u8 0, Value.int IntKind.u8 0] 72 (0, 0)) := (hb2.block _ (Nat.lt_succ_self _)).trans (heap_prev w _ _)
  have hsz := hb2.size
  have a0 := Lib.cell_of_heap hg3 0; have a1 := Lib.cell_of_heap hg3 1; have a2 := Lib.cell_of_heap hg3 2; have a3 := Lib.cell_of_heap hg3 3
  have a4 := Lib.cell_of_heap hg3 4; have a5 := Lib.cell_of_heap hg3 5; have a6 := Lib.cell_of_heap hg3 6; have a7 := Lib.cell_of_heap hg3 7
  have c0 := Lib.cell_of_heap hg4 0; have c1 := Lib.cell_of_heap hg4 1; have c2 := Lib.cell_of_heap hg4 2; have c3 := Lib.cell_of_heap hg4 3
  have c4 := Lib.cell_of_heap hg4 4; have c5 := Lib.cell_of_heap hg4 5; have c6 := Lib.cell_of_heap hg4 6; have c7 := Lib.cell_of_heap hg4 7
  have f0 := Lib.frozen_of_heap hg4 0; have f1 := Lib.frozen_of_heap hg4 1; have f2 := Lib.frozen_of_heap hg4 2; have f3 := Lib.frozen_of_heap hg4 3
  have f4 := Lib.frozen_of_heap hg4 4; have f5 := Lib.frozen_of_heap hg4 5; have f6 := Lib.frozen_of_heap hg4 6; have f7 := Lib.frozen_of_heap hg4 7
  simp [row8] at a0 a1 a2 a3 a4 a5 a6 a7 c0 c1 c2 c3 c4 c5 c6 c7
  clear hg2 hg3 hg4 e1 e2 e3 e4
  have hB : Below w.heap.size w w2 := ((((Below.refl _ _).alloc (Nat.le_refl _) _).alloc (by simp) _).drew).trans (hb2.mono (by omega))
  clear hb2
  go_wp2
  refine bodyPost_ret (v := arr8 s.data.toList (8 * i)) (by simp [results, Tryd.results67, go_sem, arr8, c0, c1, c2, c3, c4, c5, c6, c7]) rfl ⟨rfl, ?_⟩
  exact ((((((((hB.setCell (Nat.le_refl _) _).setCell (Nat.le_refl _) _).setCell (Nat.le_refl _) _).setCell (Nat.le_refl _) _).setCell (Nat.le_refl _) _).setCell (Nat.le_refl _) _).setCell (Nat.le_refl _) _).setCell (Nat.le_refl _) _)
end Go.Proofs.YtbiekbppenccdaaDoor
