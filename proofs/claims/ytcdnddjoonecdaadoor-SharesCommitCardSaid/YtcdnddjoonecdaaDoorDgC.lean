/-
  The contracts of copyCheck, WriteByte and WriteString of strings.Builder over this translation, after the shelf, which does not fit this cut of copyCheck.
-/
import Derived.Test.YtcdnddjoonecdaaDoorProg
import Derived.Test.YtcdnddjoonecdaaDoorShelf
import Derived.Shelf.Strings.Builder1
import Derived.Lib.AppendStr
import Derived.Lib.Walk
import Derived.WalkKit
import Derived.Laws.Externs
import Derived.Outline
import Derived.Test.YtcdnddjoonecdaaDoorDgB
import Derived.Lib.LaidTab
import Derived.Lib.AppendIntMem
import Derived.WalkSmall
import Derived.OwnWalk
set_option linter.unusedVariables false
set_option maxRecDepth 100000
namespace Go.Proofs.YtcdnddjoonecdaaDoor
open Go.RowKit
set_option maxHeartbeats 1000000 in
set_option maxRecDepth 100000 in
theorem Builder_copyCheck_used (b : Nat) (w : World) (h0 : w.cell? ⟨b, 0, none⟩ = some (.pointer (some ⟨b, 0, none⟩))) :
    Calls Tryd.prog 92 #[.pointer (some ⟨b, 0, none⟩)] w fun e w' => e = .returned (.tuple #[]) ∧ w' = w := by
  obtain ⟨j, hj, _⟩ := Option.map_eq_some_iff.1 (show (Tryd.prog.info? 99).map (·.size) = some 2 by kernel_rfl)
  go_enter Tryd.func92, Tryd.ntmps92
  go_wp2
  rw [Lib.run_neq_ptr_same w _ Tryd.underlying97 hj]
  go_wp2
  go_end0
  exact ⟨rfl, rfl⟩
set_option maxHeartbeats 1000000 in
set_option maxRecDepth 100000 in
theorem Builder_copyCheck_fresh (b : Nat) (w : World) (h0 : w.cell? ⟨b, 0, none⟩ = some (.pointer none)) (hsh : w.shape? b = some (99, 2)) (hfz : w.frozen? ⟨b, 0, none⟩ = false) :
    Calls Tryd.prog 92 #[.pointer (some ⟨b, 0, none⟩)] w fun e w' => e = .returned (.tuple #[]) ∧ w' = w.setCell ⟨b, 0, none⟩ (.pointer (some ⟨b, 0, none⟩)) := by
  obtain ⟨j, hj, hjs⟩ := Option.map_eq_some_iff.1 (show (Tryd.prog.info? 99).map (·.size) = some 2 by kernel_rfl)
  go_enter Tryd.func92, Tryd.ntmps92
  go_wp2
  rw [Lib.run_to_unsafe w ⟨b, 0, none⟩ Tryd.underlying97 Tryd.underlying118 hj (by rw [hjs]; decide) hsh (Nat.zero_lt_succ 1)]
  simp only [Result.andThen]
  rw [Oper.upon_value]
  go_wp2
  rw [run_callFunc_extern Tryd.func98 (by kernel_rfl) (by kernel_rfl) (by kernel_rfl) (e := Extern.AbiNoEscape.same) (by kernel_rfl)]
  rw [Lib.run_noEscape]
  simp only [Result.andThen]
  rw [Oper.upon_value]
  go_wp2
  rw [Lib.run_from_unsafe w ⟨b, 0, none⟩ Tryd.underlying118 Tryd.underlying97 hj hsh (by kernel_rfl)]
  simp only [Result.andThen]
  rw [Oper.upon_value]
  go_wp2
  go_end0
  exact ⟨rfl, rfl⟩
theorem Builder_copyCheck (B b : Nat) (bs : List Value) (w : World) (h : Lib.IsBuilder 99 5 B b bs w) :
    Calls Tryd.prog 92 #[.pointer (some ⟨b, 0, none⟩)] w fun e w' => e = .returned (.tuple #[]) ∧ (Lib.BuilderAt 99 5 B b (.pointer (some ⟨b, 0, none⟩)) bs w' ∧ Below B w w') := by
  rcases h with h | h
  · refine (Builder_copyCheck_fresh b w h.cell0 h.shape h.frozen0).mono ?_
    rintro e w' ⟨rfl, rfl⟩
    exact ⟨rfl, h.used _, (Below.refl B w).setCell (p := ⟨b, 0, none⟩) h.1 _⟩
  · refine (Builder_copyCheck_used b w h.cell0).mono ?_
    rintro e w' ⟨rfl, rfl⟩
    exact ⟨rfl, h, Below.refl B _⟩
set_option maxHeartbeats 2000000 in
set_option maxRecDepth 100000 in
theorem Builder_WriteByte (B b : Nat) (bs : List Value) (c : Int) (w : World) (h : Lib.IsBuilder 99 5 B b bs w) (hlen : bs.length + 1 ≤ 140737488355328) (hBw : B ≤ w.heap.size) :
    Calls Tryd.prog 83 #[.pointer (some ⟨b, 0, none⟩), .int .u8 c] w fun e w' => e = .returned .nilIface ∧ (Lib.BuilderAt 99 5 B b (.pointer (some ⟨b, 0, none⟩)) (bs ++ [.int .u8 c]) w' ∧ Below B w w') := by
  obtain ⟨i0, hi, hz0, hz1, hz2⟩ := info_parts (show (Tryd.prog.info? 5).map (fun i => (i.zero, i.size, i.bytes)) = some (some (.int .u8 0), 1, 1) by kernel_rfl)
  go_enter Tryd.func83, Tryd.ntmps83
  go_wp2_with (go_at_call 92; refine (Builder_copyCheck B b bs _ h).mono ?_)
  rintro e w1 ⟨rfl, h1, hb1⟩
  obtain ⟨hB, v, hbk, hown, hne⟩ := h1
  have c0 : w1.cell? ⟨b, 0, none⟩ = some (.pointer (some ⟨b, 0, none⟩)) := by rw [Lib.cell_of_heap hbk]; rfl
  have c1 : w1.cell? ⟨b, 1, none⟩ = some v := by rw [Lib.cell_of_heap hbk]; rfl
  go_wp2_with (at_builtin; refine wpList_append_own _ rfl _ _ 58 rfl B 5 i0 (.int .u8 0) 1 1 Tryd.underlying58 hi hz0 hz1 hz2 rfl (by decide) _ _ _ rfl (hown.alloc _) ⟨w1.heap.size, 0, none⟩ 1 1 [.int .u8 c] rfl rfl ?c1 ?c2 ?c3 ?c4 ?c5 ?_)
  case c1 =>
    intro j u hj
    match j, hj with
    | 0, hj => simp at hj; subst hj; simp [Addr.add]
  case c2 => intro u hu; simp at hu; subst hu; rfl
  case c3 => unfold maxLen; omega
  case c4 => omega
  case c5 => have := hb1.size; simp; omega
  intro v' w2 hown' hgrow _
  have hlt : b < w1.heap.size := by
    rcases Nat.lt_or_ge b w1.heap.size with h' | h'
    · exact h'
    · simp [Array.getElem?_eq_none h'] at hbk
  have hb2 : w2.heap[b]? = some (.cells #[.pointer (some ⟨b, 0, none⟩), v] 99 (0, 0)) := by
    rw [hgrow.block b (by simp; omega) (fun e => hne e.symm), Lib.alloc_old w1 _ b hlt]
    exact hbk
  have d0 : w2.cell? ⟨b, 0, none⟩ = some (.pointer (some ⟨b, 0, none⟩)) := by rw [Lib.cell_of_heap hb2]; rfl
  have d1 : w2.cell? ⟨b, 1, none⟩ = some v := by rw [Lib.cell_of_heap hb2]; rfl
  have f1 : w2.frozen? ⟨b, 1, none⟩ = false := Lib.frozen_of_heap hb2 1
  obtain ⟨g, cap, rfl⟩ : ∃ g cap, v' = .slice (some ⟨g, 0, none⟩) (bs.length + 1) cap := by
    rcases hown'.2 with ⟨_, h0⟩ | ⟨g, cap, cur, hv, _⟩
    · omega
    · exact ⟨g, cap, hv⟩
  go_wp2
  go_ret
  refine ⟨rfl, ?_, ?_⟩
  · exact Lib.BuilderAt.put (T := 99) (e := 5) hB hb2 (bs' := bs ++ [.int .u8 c]) (by simpa using hown') (by decide)
  · exact ((hb1.alloc (by have := hb1.size; omega) _).grown hgrow (by have := hb1.size; simp; omega) (fun k hk => (hown.lt k hk).1)).setCell (p := ⟨b, 1, none⟩) hB _
set_option maxHeartbeats 2000000 in
set_option maxRecDepth 100000 in
theorem Builder_WriteString (B b : Nat) (bs : List Value) (s : ByteArray) (w : World) (h : Lib.IsBuilder 99 5 B b bs w) (hlen : bs.length + s.size ≤ 140737488355328) (hBw : B ≤ w.heap.size) :
    Calls Tryd.prog 82 #[.pointer (some ⟨b, 0, none⟩), .string s] w fun e w' => e = .returned (.tuple #[.int .i64 s.size, .nilIface]) ∧ (Lib.BuilderAt 99 5 B b (.pointer (some ⟨b, 0, none⟩)) (bs ++ Lib.strCells s) w' ∧ Below B w w') := by
  obtain ⟨i0, hi, hz0, hz1, hz2⟩ := info_parts (show (Tryd.prog.info? 5).map (fun i => (i.zero, i.size, i.bytes)) = some (some (.int .u8 0), 1, 1) by kernel_rfl)
  go_enter Tryd.func82, Tryd.ntmps82
  go_wp2_with (go_at_call 92; refine (Builder_copyCheck B b bs _ h).mono ?_)
  rintro e w1 ⟨rfl, h1, hb1⟩
  obtain ⟨hB, v, hbk, hown, hne⟩ := h1
  have c0 : w1.cell? ⟨b, 0, none⟩ = some (.pointer (some ⟨b, 0, none⟩)) := by rw [Lib.cell_of_heap hbk]; rfl
  have c1 : w1.cell? ⟨b, 1, none⟩ = some v := by rw [Lib.cell_of_heap hbk]; rfl
  go_wp2_with (at_builtin; refine Lib.wpList_append_own_string _ rfl _ _ 58 9 rfl B 5 i0 Tryd.underlying58 Tryd.underlying9 hi hz0 hz1 hz2 _ _ _ rfl hown s rfl ?c3 ?c4 ?c5 ?_)
  case c3 => unfold maxLen; omega
  case c4 => omega
  case c5 => have := hb1.size; omega
  intro v' w2 hown' hgrow _
  have hlt : b < w1.heap.size := by
    rcases Nat.lt_or_ge b w1.heap.size with h' | h'
    · exact h'
    · simp [Array.getElem?_eq_none h'] at hbk
  have hb2 : w2.heap[b]? = some (.cells #[.pointer (some ⟨b, 0, none⟩), v] 99 (0, 0)) := by
    rw [hgrow.block b hlt (fun e => hne e.symm)]
    exact hbk
  have d0 : w2.cell? ⟨b, 0, none⟩ = some (.pointer (some ⟨b, 0, none⟩)) := by rw [Lib.cell_of_heap hb2]; rfl
  have d1 : w2.cell? ⟨b, 1, none⟩ = some v := by rw [Lib.cell_of_heap hb2]; rfl
  have f1 : w2.frozen? ⟨b, 1, none⟩ = false := Lib.frozen_of_heap hb2 1
  obtain ⟨ao, n', cap, rfl⟩ : ∃ ao n' cap, v' = .slice ao n' cap := by
    rcases hown'.2 with ⟨hv, _⟩ | ⟨g, cap, cur, hv, _⟩
    · exact ⟨_, _, _, hv⟩
    · exact ⟨_, _, _, hv⟩
  go_wp2
  go_ret2
  refine ⟨rfl, ?_, ?_⟩
  · exact Lib.BuilderAt.put (T := 99) (e := 5) hB hb2 (bs' := bs ++ Lib.strCells s) (by simpa [Lib.strCells_length] using hown') (by decide)
  · exact (hb1.grown hgrow (by have := hb1.size; omega) (fun k hk => (hown.lt k hk).1)).setCell (p := ⟨b, 1, none⟩) hB _
end Go.Proofs.YtcdnddjoonecdaaDoor

/-
  The contracts of digest.joined and digest.List: for every list whose joined text has at most 2^40 bytes.
-/
set_option linter.unusedVariables false
set_option maxRecDepth 100000
namespace Go.Proofs.YtcdnddjoonecdaaDoor
open Go.RowKit
def oneL (s : ByteArray) : List UInt8 := Lib.decDigits s.size ++ (58 :: s.data.toList)
/-- the joined text -/
def joinL : List ByteArray → List UInt8
  | [] => []
  | s :: r => oneL s ++ joinL r
theorem joinL_append (a b : List ByteArray) : joinL (a ++ b) = joinL a ++ joinL b := by
  induction a with
  | nil => rfl
  | cons s r ih => simp only [List.cons_append, joinL, ih, List.append_assoc]
theorem joinL_succ (ss : List ByteArray) (k : Nat) (h : k < ss.length) : joinL (ss.take (k + 1)) = joinL (ss.take k) ++ oneL ss[k] := by
  rw [List.take_succ_eq_append_getElem h, joinL_append]
  simp [joinL]
theorem joinL_take_le (ss : List ByteArray) (k : Nat) : (joinL (ss.take k)).length ≤ (joinL ss).length := by
  have h : joinL ss = joinL (ss.take k) ++ joinL (ss.drop k) := by rw [← joinL_append, List.take_append_drop]
  rw [h, List.length_append]; omega
def joinB (ss : List ByteArray) : ByteArray := ⟨(joinL ss).toArray⟩
abbrev TabOk (w : World) : Prop := Lib.TabIs Tryd.prog w "internal/strconv.uint64pow10" .u64 Lib.pow10Tab
theorem TabOk.below {w w' : World} (h : TabOk w) (hb : Below w.heap.size w w') : TabOk w' := by
  have hg : Tryd.prog.globalNamed "internal/strconv.uint64pow10" = some 0 := by kernel_rfl
  have hlt : 0 < w.heap.size := by
    have h' := h
    unfold TabOk Lib.TabIs World.var? at h'
    rw [hg] at h'
    simp only [Option.bind_some] at h'
    rcases Nat.lt_or_ge 0 w.heap.size with h2 | h2
    · exact h2
    · rw [Array.getElem?_eq_none h2] at h'; simp at h'
  exact var?_below hb hg hlt h
theorem isBuilder_below {B b : Nat} {bs : List Value} {w w' : World} (h : Lib.IsBuilder 99 5 B b bs w) (hb : Below w.heap.size w w') : Lib.IsBuilder 99 5 B b bs w' := by
  have key : ∀ p, Lib.BuilderAt 99 5 B b p bs w → Lib.BuilderAt 99 5 B b p bs w' := by
    intro p hp
    have hlt := hp.lt
    obtain ⟨hB, v, hv, hown, hne⟩ := hp
    refine ⟨hB, v, (hb.block b hlt).trans hv, ?_, hne⟩
    by_cases e : v.ownBlock = none
    · exact hown.kept (row := none) ⟨hb.os, hb.tape, hb.output, hb.size, fun k hk _ => hb.block k hk⟩ (.inl e)
    · exact hown.kept (row := none) ⟨hb.os, hb.tape, hb.output, hb.size, fun k hk _ => hb.block k hk⟩ (.inr e)
  rcases h with h | h
  · exact .inl (key _ h)
  · exact .inr (key _ h)
theorem joined_empty (a : Option Addr) (cap : Nat) (w : World) :
    Calls Tryd.prog 72 #[.slice a 0 cap] w fun e w' => e = .returned (.string (joinB [])) ∧ Below w.heap.size w w' := by
  go_enter Tryd.func72, Tryd.ntmps72
  go_wp2_with fail
  refine wp_loop_rounds 1 ?_
  rw [rounds_succ]
  go_wp2_with fail
  refine (Tryd.Builder_String_any w.heap.size w.heap.size [] _ (Lib.fresh_isBuilder 99 5 w) (by simp)).mono ?_
  rintro e w1 ⟨rfl, hb⟩
  go_wp2_with fail
  go_ret
  exact ⟨rfl, ((Below.refl _ _).alloc (Nat.le_refl _) _).trans hb⟩
set_option maxHeartbeats 1000000 in
theorem joined_full (b off cap : Nat) (ss : List ByteArray) (w : World) (h0 : 0 < ss.length) (hl : ss.length ≤ maxLen) (hj : (joinL ss).length ≤ 1099511627776)
    (hc : ∀ j (hj : j < ss.length), w.cell? ⟨b, off + j, none⟩ = some (.string ss[j])) (ht : TabOk w) :
    Calls Tryd.prog 72 #[.slice (some ⟨b, off, none⟩) ss.length cap] w fun e w' => e = .returned (.string (joinB ss)) ∧ Below w.heap.size w w' := by
  unfold maxLen at hl
  have hblt : b < w.heap.size := by
    have := hc 0 h0
    rcases Nat.lt_or_ge b w.heap.size with h' | h'
    · exact h'
    · simp [World.cell?, Array.getElem?_eq_none h'] at this
  have HC := Lib.hid hc
  have HT := Lib.hid ht
  clear hc ht
  go_enter Tryd.func72, Tryd.ntmps72
  go_wp2_with fail
  go_loopw [8] (fun i wr => ∃ k : Nat, k ≤ ss.length ∧ i = .int .i64 k ∧ Hid (Lib.IsBuilder 99 5 w.heap.size w.heap.size (Lib.byteCells (joinL (ss.take k))) wr) ∧ Below w.heap.size w wr) (fun i _ => ss.length - (intOf i).toNat)
  case atStart => exact ⟨0, by omega, rfl, (show _ from Lib.fresh_isBuilder 99 5 w), (Below.refl _ _).alloc (Nat.le_refl _) _⟩
  case round =>
    obtain ⟨k, hk, rfl, hI, hB⟩ := hrel
    by_cases hlt : k < ss.length
    · have hcell : wr.cell? ⟨b, off + k, none⟩ = some (.string ss[k]) := by
        rw [hB.cell (p := ⟨b, off + k, none⟩) hblt]; exact HC.out k hlt
      have hj1 : (joinL (ss.take (k + 1))).length ≤ 1099511627776 := Nat.le_trans (joinL_take_le ss _) hj
      rw [joinL_succ ss k hlt] at hj1
      simp only [oneL, List.length_append, List.length_cons] at hj1
      have hsz : ss[k].data.toList.length = ss[k].size := by simp
      have hsz2 : ss[k].size ≤ 1099511627776 := by omega
      have HJ := Lib.hid hj1
      have HZ := Lib.hid hsz
      clear hj1 hsz
      have hT1 : TabOk wr := TabOk.below HT.out hB
      have HT1 := Lib.hid hT1
      clear hT1
      go_wp2_with fail
      refine (Tryd.strconv_Itoa ss[k].size (by omega) (by omega) _ HT1.out).mono ?_
      rintro e w1 ⟨rfl, q, os, hw1⟩
      have hb1 : Below wr.heap.size wr w1 := by rw [hw1]; exact Lib.below_grow _ _ (Nat.le_refl _) _ _
      clear hw1
      have hI1 := isBuilder_below hI.out hb1
      have hB1 := hB.trans (hb1.mono hB.size)
      have HI1 := Lib.hid hI1
      clear hI1
      have hit : Lib.itoa (ss[k].size : Int) = Lib.decDigits ss[k].size := by unfold Lib.itoa; rw [if_neg (by omega)]; rfl
      rw [hit]
      clear hit hb1
      go_wp2_with fail
      have hlk : (Lib.byteCells (joinL (ss.take k))).length = (joinL (ss.take k)).length := Lib.byteCells_length _
      have hsd : (decB ss[k].size).size = (Lib.decDigits ss[k].size).length := by show (Lib.decDigits ss[k].size).toArray.size = _; simp
      refine (Builder_WriteString w.heap.size w.heap.size _ (decB ss[k].size) _ HI1.out (by have := HJ.out; have := HZ.out; omega) hB1.size).mono ?_
      rintro e w2 ⟨rfl, hI2, hb2⟩
      have hB2 := hB1.trans hb2
      have HI2 := Lib.hid hI2
      clear hI2 hb2 HI1
      go_wp2_with fail
      refine (Builder_WriteByte w.heap.size w.heap.size _ 58 _ (.inr HI2.out) (by have := HJ.out; have := HZ.out; rw [List.length_append, Lib.strCells_length]; omega) hB2.size).mono ?_
      rintro e w3 ⟨rfl, hI3, hb3⟩
      have hB3 := hB2.trans hb3
      have HI3 := Lib.hid hI3
      clear hI3 hb3 HI2
      go_wp2_with fail
      refine (Builder_WriteString w.heap.size w.heap.size _ ss[k] _ (.inr HI3.out) (by have := HJ.out; have := HZ.out; simp only [List.length_append, Lib.strCells_length, List.length_cons, List.length_nil]; omega) hB3.size).mono ?_
      rintro e w4 ⟨rfl, hI4, hb4⟩
      have hB4 := hB3.trans hb4
      have HI4 := Lib.hid hI4
      clear hI4 hb4 HI3
      go_wp2_with fail
      go_roundw
      case rel =>
        refine ⟨k + 1, by omega, by go_num, (show _ from ?_), hB4⟩
        rw [joinL_succ ss k hlt]
        refine .inr ?_
        have := HI4.out
        simpa [oneL, Lib.byteCells, Lib.strCells, decB] using this
      case measure => simp [intOf]; omega
    · obtain rfl : k = ss.length := by omega
      have hI' : Lib.IsBuilder 99 5 w.heap.size w.heap.size (Lib.byteCells (joinL ss)) wr := by
        have := hI.out
        rwa [List.take_of_length_le (Nat.le_refl _)] at this
      have HI := Lib.hid hI'
      clear hI' hI
      go_wp2_with fail
      refine (Tryd.Builder_String_any w.heap.size w.heap.size (joinL ss) _ HI.out hB.size).mono ?_
      rintro e w1 ⟨rfl, hb⟩
      go_wp2_with fail
      go_ret
      exact ⟨rfl, hB.trans hb⟩
theorem joined_any (v : Value) (ss : List ByteArray) (w : World) (h : StrsAt w v ss) (hl : ss.length ≤ maxLen) (hj : (joinL ss).length ≤ 1099511627776) (ht : TabOk w) :
    Calls Tryd.prog 72 #[v] w fun e w' => e = .returned (.string (joinB ss)) ∧ Below w.heap.size w w' := by
  rcases h with ⟨rfl, a, cap, rfl⟩ | ⟨h0, b, off, cap, rfl, hc⟩
  · exact joined_empty a cap w
  · exact joined_full b off cap ss w h0 hl hj hc ht
theorem joinB_size (ss : List ByteArray) : (joinB ss).size = (joinL ss).length := by show (joinL ss).toArray.size = _; simp
theorem list_any (v : Value) (ss : List ByteArray) (w : World) (h : StrsAt w v ss) (hl : ss.length ≤ maxLen) (hj : (joinL ss).length ≤ 1099511627776) (ht : TabOk w) :
    Calls Tryd.prog 60 #[v] w fun e w' => e = .returned (.string (sumB (joinB ss))) ∧ Below w.heap.size w w' := by
  have hs := joinB_size ss
  have hs2 : (joinB ss).size ≤ maxLen := by unfold maxLen; omega
  clear hs
  go_enter Tryd.func60, Tryd.ntmps60
  go_wp2_with fail
  refine (joined_any v ss w h hl hj ht).mono ?_
  rintro e w1 ⟨rfl, hb1⟩
  go_wp2_with fail
  refine (sum_any _ _ hs2).mono ?_
  rintro e w2 ⟨rfl, hb2⟩
  go_wp2_with fail
  go_ret
  exact ⟨rfl, hb1.trans (hb2.mono hb1.size)⟩
end Go.Proofs.YtcdnddjoonecdaaDoor

/-
  The contracts of the reference Joined and List: for every list whose joined text has at most 2^40 bytes.
-/
set_option linter.unusedVariables false
set_option maxRecDepth 100000
namespace Go.Proofs.YtcdnddjoonecdaaDoor
open Go.RowKit
def capN : List ByteArray → Nat
  | [] => 0
  | s :: r => (s.size + 21) + capN r
theorem capN_append (a b : List ByteArray) : capN (a ++ b) = capN a + capN b := by
  induction a with
  | nil => simp [capN]
  | cons s r ih => simp only [List.cons_append, capN, ih]; omega
theorem capN_succ (ss : List ByteArray) (k : Nat) (h : k < ss.length) : capN (ss.take (k + 1)) = capN (ss.take k) + (ss[k].size + 21) := by
  rw [List.take_succ_eq_append_getElem h, capN_append]
  simp [capN]
theorem capN_take_le (ss : List ByteArray) (k : Nat) : capN (ss.take k) ≤ capN ss := by
  have h : capN ss = capN (ss.take k) + capN (ss.drop k) := by rw [← capN_append, List.take_append_drop]
  omega
def capK (ss : List ByteArray) (k : Nat) : Nat := capN (ss.take k)
theorem bytesConvOwn {base : Nat} {v : Value} {l : List UInt8} {w : World} (h : w.ownsRow base 5 1 v l.length (Lib.byteCells l)) :
    (convert 58 9 v).run Tryd.prog w = .ok (.string ⟨l.toArray⟩) w := by
  rcases h.2 with ⟨rfl, h0⟩ | ⟨g, cap, cur, rfl, hb, hg, rest⟩
  · obtain rfl : l = [] := List.eq_nil_of_length_eq_zero h0
    have : (convert 58 9 (.slice none 0 0)).run Tryd.prog w = .ok (.string ⟨#[]⟩) w := by kernel_rfl
    exact this
  · refine bytesConv l g 0 cap w (fun j hj => ?_)
    rw [Nat.zero_add]
    rw [h.cellAt j (by omega)]
    simp [Lib.byteCells, hj]
theorem refjoined_empty (a : Option Addr) (cap : Nat) (w : World) :
    Calls Tryd.prog 12 #[.slice a 0 cap] w fun e w' => e = .returned (.string (joinB [])) ∧ Below w.heap.size w w' := by
  obtain ⟨i0, hi, hz0, hz1, hz2⟩ := info_parts (show (Tryd.prog.info? 5).map (fun i => (i.zero, i.size, i.bytes)) = some (some (.int .u8 0), 1, 1) by kernel_rfl)
  go_enter Tryd.func12, Tryd.ntmps12
  go_wp2_with fail
  refine wp_loop_rounds 1 ?_
  rw [rounds_succ]
  go_wp2_with (at_make; refine wpList_make_own _ rfl _ _ 58 rfl w.heap.size 5 i0 (.int .u8 0) 1 Tryd.underlying58 hi hz0 hz1 _ _ _ 0 rfl rfl rfl (by omega) (by unfold maxLen; omega) (Nat.le_refl _) ?_)
  intro w1 hown hgrow
  have hB1 : Below w.heap.size w w1 := (Below.refl _ _).grown hgrow (Nat.le_refl _) (fun k h => by cases h)
  have hconv := bytesConvOwn (l := []) hown
  clear hown hgrow
  go_wp2_with fail
  refine wp_loop_rounds 1 ?_
  rw [rounds_succ]
  go_wp2_with fail
  go_ret
  exact ⟨rfl, hB1⟩
set_option maxHeartbeats 2000000 in
theorem refjoined_full (b off cap : Nat) (ss : List ByteArray) (w : World) (h0 : 0 < ss.length) (hl : ss.length ≤ maxLen) (hj : (joinL ss).length ≤ 1099511627776) (hn : capN ss ≤ 140737488355328)
    (hc : ∀ j (hj : j < ss.length), w.cell? ⟨b, off + j, none⟩ = some (.string ss[j])) :
    Calls Tryd.prog 12 #[.slice (some ⟨b, off, none⟩) ss.length cap] w fun e w' => e = .returned (.string (joinB ss)) ∧ Below w.heap.size w w' := by
  obtain ⟨i0, hi, hz0, hz1, hz2⟩ := info_parts (show (Tryd.prog.info? 5).map (fun i => (i.zero, i.size, i.bytes)) = some (some (.int .u8 0), 1, 1) by kernel_rfl)
  unfold maxLen at hl
  have hblt : b < w.heap.size := by
    have := hc 0 h0
    rcases Nat.lt_or_ge b w.heap.size with h' | h'
    · exact h'
    · simp [World.cell?, Array.getElem?_eq_none h'] at this
  have HC := Lib.hid hc
  clear hc
  go_enter Tryd.func12, Tryd.ntmps12
  go_wp2_with fail
  go_loop [3, 4] (fun t i => ∃ k : Nat, k ≤ ss.length ∧ i = .int .i64 k ∧ t = .int .i64 (capK ss k : Nat)) (fun _ i => ss.length - (intOf i).toNat)
  case atStart => exact ⟨0, by omega, rfl, by simp [capK, capN]⟩
  case round =>
    obtain ⟨k, hk, rfl, rfl⟩ := hrel
    have hkn : capK ss k ≤ 140737488355328 := Nat.le_trans (capN_take_le ss k) hn
    by_cases hlt : k < ss.length
    · have hcell := HC.out k hlt
      have hsucc : capK ss (k + 1) = capK ss k + (ss[k].size + 21) := capN_succ ss k hlt
      have hkn1 : capK ss (k + 1) ≤ 140737488355328 := Nat.le_trans (capN_take_le ss _) hn
      have hle : capK ss k + (ss[k].size + 21) ≤ 140737488355328 := by omega
      have HS := Lib.hid hsucc
      clear hsucc hkn1
      go_wp2_with fail
      go_round
      case rel => exact ⟨k + 1, by omega, by go_num, by rw [HS.out]; go_num⟩
      case measure => simp [intOf]; omega
    · obtain rfl : k = ss.length := by omega
      obtain ⟨N, hN⟩ : ∃ N, N = capK ss ss.length := ⟨_, rfl⟩
      rw [← hN] at hkn ⊢
      clear hN hk
      go_wp2_with (at_make; refine wpList_make_own _ rfl _ _ 58 rfl w.heap.size 5 i0 (.int .u8 0) 1 Tryd.underlying58 hi hz0 hz1 _ _ _ N rfl rfl rfl (by rw [hz2]; omega) (by unfold maxLen; omega) (Nat.le_refl _) ?_)
      intro w1 hown hgrow
      have hB1 : Below w.heap.size w w1 := (Below.refl _ _).grown hgrow (Nat.le_refl _) (fun k h => by cases h)
      have HO := Lib.hid hown
      clear hown hgrow hlt
      go_wp2_with fail
      go_loopw [5, 6] (fun t i wr => ∃ k : Nat, k ≤ ss.length ∧ i = .int .i64 k ∧ Hid (wr.ownsRow w.heap.size 5 1 t (joinL (ss.take k)).length (Lib.byteCells (joinL (ss.take k)))) ∧ Below w.heap.size w wr) (fun _ i _ => ss.length - (intOf i).toNat)
      case atStart => exact ⟨0, by omega, rfl, HO, hB1⟩
      case round =>
        obtain ⟨k, hk, rfl, hI, hB⟩ := hrel
        clear HO hB1
        by_cases hlt : k < ss.length
        · have hcell : wr.cell? ⟨b, off + k, none⟩ = some (.string ss[k]) := by
            rw [hB.cell (p := ⟨b, off + k, none⟩) hblt]; exact HC.out k hlt
          have hj1 : (joinL (ss.take (k + 1))).length ≤ 1099511627776 := Nat.le_trans (joinL_take_le ss _) hj
          rw [joinL_succ ss k hlt] at hj1
          simp only [oneL, List.length_append, List.length_cons] at hj1
          have hsz : ss[k].data.toList.length = ss[k].size := by simp
          have hsz2 : ss[k].size ≤ maxLen := by unfold maxLen; omega
          have HJ := Lib.hid hj1
          have HZ := Lib.hid hsz
          clear hj1 hsz
          go_wp2_with fail
          refine (decimal_any _ _ hsz2).mono ?_
          rintro e w1 ⟨rfl, rfl⟩
          have hlk : (Lib.byteCells (joinL (ss.take k))).length = (joinL (ss.take k)).length := Lib.byteCells_length _
          have hsd : (decB ss[k].size).size = (Lib.decDigits ss[k].size).length := by show (Lib.decDigits ss[k].size).toArray.size = _; simp
          have HK := Lib.hid hlk
          have HD := Lib.hid hsd
          clear hlk hsd
          go_wp2_with (at_builtin; refine Lib.wpList_append_own_string _ rfl _ _ 58 9 rfl w.heap.size 5 i0 Tryd.underlying58 Tryd.underlying9 hi hz0 hz1 hz2 _ _ _ rfl hI.out (decB ss[k].size) rfl (by have := HJ.out; have := HD.out; unfold maxLen; omega) (by have := HJ.out; have := HD.out; omega) hB.size ?_)
          intro v2 w2 hown2 hgrow2 _
          have hB2 : Below w.heap.size w w2 := hB.grown hgrow2 hB.size (fun q hq => (hI.out.lt q hq).1)
          have HO2 := Lib.hid hown2
          clear hown2 hgrow2
          go_wp2_with (at_builtin; refine wpList_append_own _ rfl _ _ 58 rfl w.heap.size 5 i0 (.int .u8 0) 1 1 Tryd.underlying58 hi hz0 hz1 hz2 rfl (by decide) _ _ _ rfl (HO2.out.alloc _) ⟨w2.heap.size, 0, none⟩ 1 1 [.int .u8 58] rfl rfl ?c1 ?c2 ?c3 ?c4 ?c5 ?_)
          case c1 =>
            intro j u hj
            match j, hj with
            | 0, hj => simp at hj; subst hj; simp [Addr.add]
          case c2 => intro u hu; simp at hu; subst hu; rfl
          case c3 => have := HJ.out; have := HD.out; unfold maxLen; omega
          case c4 => have := HJ.out; have := HD.out; omega
          case c5 => have := hB2.size; simp; omega
          intro v3 w3 hown3 hgrow3 _
          have hB3 : Below w.heap.size w w3 := (hB2.alloc hB2.size _).grown hgrow3 (by have := hB2.size; simp; omega) (fun q hq => (HO2.out.lt q hq).1)
          have HO3 := Lib.hid hown3
          clear hown3 hgrow3
          have hcell3 : w3.cell? ⟨b, off + k, none⟩ = some (.string ss[k]) := by
            rw [hB3.cell (p := ⟨b, off + k, none⟩) hblt]; exact HC.out k hlt
          clear hcell
          go_wp2_with (at_builtin; refine Lib.wpList_append_own_string _ rfl _ _ 58 9 rfl w.heap.size 5 i0 Tryd.underlying58 Tryd.underlying9 hi hz0 hz1 hz2 _ _ _ rfl HO3.out ss[k] rfl (by have := HJ.out; have := HD.out; have := HZ.out; unfold maxLen; omega) (by have := HJ.out; have := HD.out; have := HZ.out; omega) hB3.size ?_)
          intro v4 w4 hown4 hgrow4 _
          have hB4 : Below w.heap.size w w4 := hB3.grown hgrow4 hB3.size (fun q hq => (HO3.out.lt q hq).1)
          have HO4 := Lib.hid hown4
          clear hown4 hgrow4
          go_wp2_with fail
          go_roundw
          case rel =>
            refine ⟨k + 1, by omega, by go_num, Lib.hid ?_, hB4⟩
            have h1 := HO4.out
            have h2 : (joinL (ss.take (k + 1))).length = (joinL (ss.take k)).length + (decB ss[k].size).size + 1 + ss[k].size := by
              rw [joinL_succ ss k hlt, HD.out, ← HZ.out]; simp [oneL]; omega
            have h3 : Lib.byteCells (joinL (ss.take (k + 1))) = Lib.byteCells (joinL (ss.take k)) ++ Lib.strCells (decB ss[k].size) ++ [.int .u8 58] ++ Lib.strCells ss[k] := by
              rw [joinL_succ ss k hlt]; simp [oneL, Lib.byteCells, Lib.strCells, decB]
            rw [h2, h3]
            simpa only [List.append_assoc, List.singleton_append] using h1
          case measure => simp [intOf]; omega
        · obtain rfl : k = ss.length := by omega
          have hconv := bytesConvOwn (l := joinL ss) (by have := hI.out; rwa [List.take_of_length_le (Nat.le_refl _)] at this)
          clear hI
          go_wp2_with fail
          go_ret
          exact ⟨rfl, hB⟩
theorem refjoined_any (v : Value) (ss : List ByteArray) (w : World) (h : StrsAt w v ss) (hl : ss.length ≤ maxLen) (hj : (joinL ss).length ≤ 1099511627776) (hn : capN ss ≤ 140737488355328) :
    Calls Tryd.prog 12 #[v] w fun e w' => e = .returned (.string (joinB ss)) ∧ Below w.heap.size w w' := by
  rcases h with ⟨rfl, a, cap, rfl⟩ | ⟨h0, b, off, cap, rfl, hc⟩
  · exact refjoined_empty a cap w
  · exact refjoined_full b off cap ss w h0 hl hj hn hc
theorem reflist_any (v : Value) (ss : List ByteArray) (w : World) (h : StrsAt w v ss) (hl : ss.length ≤ maxLen) (hj : (joinL ss).length ≤ 1099511627776) (hn : capN ss ≤ 140737488355328) :
    Calls Tryd.prog 35 #[v] w fun e w' => e = .returned (.string (sumB (joinB ss))) ∧ Below w.heap.size w w' := by
  have hs := joinB_size ss
  have hs2 : (joinB ss).size ≤ 140737488355328 := by omega
  clear hs
  go_enter Tryd.func35, Tryd.ntmps35
  go_wp2_with fail
  refine (refjoined_any v ss w h hl hj hn).mono ?_
  rintro e w1 ⟨rfl, hb1⟩
  go_wp2_with fail
  refine (refsum_any _ _ hs2).mono ?_
  rintro e w2 ⟨rfl, rfl⟩
  go_wp2_with fail
  go_ret
  exact ⟨rfl, hb1⟩
end Go.Proofs.YtcdnddjoonecdaaDoor

/-
  What the laws of layer 1 and of later layers share: equality of texts and digests, joined texts tell lists apart, bounds of lists that pass Few, and how facts on lists and tables outlive calls.
-/
set_option linter.unusedVariables false
set_option maxRecDepth 100000
namespace Go.Proofs.YtcdnddjoonecdaaDoor
open Go.RowKit
theorem bytes_ext {s t : ByteArray} (h : s.data.toList = t.data.toList) : s = t := ByteArray.ext (Array.ext' h)
theorem sumB_inj {s t : ByteArray} (h : sumB s = sumB t) : Dig.sumL s.data.toList = Dig.sumL t.data.toList := by
  have := congrArg (fun b : ByteArray => b.data.toList) h
  simpa [sumB] using this
theorem sumB_short {s t : ByteArray} (hs : s.size ≤ 7) (ht : t.size ≤ 7) : sumB s = sumB t ↔ s = t := by
  constructor
  · intro h
    exact bytes_ext ((Dig.short_iff (by simpa using hs) (by simpa using ht)).1 (sumB_inj h))
  · intro h; rw [h]
theorem str_self (a : ByteArray) : (a.toList == a.toList) = true := by rw [str_beq]; simp
theorem i64_bounds {n : Int} (h : (Lit.int .i64 n).wf = true) : -9223372036854775808 ≤ n ∧ n ≤ 9223372036854775807 := by
  have := h
  simp [Lit.wf, IntKind.min, IntKind.max, IntKind.bits, IntKind.signed] at this
  omega
theorem u8_bounds {n : Int} (h : (Lit.int .u8 n).wf = true) : 0 ≤ n ∧ n ≤ 255 := by
  have := h
  simp [Lit.wf, IntKind.min, IntKind.max, IntKind.bits, IntKind.signed] at this
  omega
theorem hexTo_sum (x : ByteArray) (l : List UInt8) (hl : l.length = 16) (hx : x.data.toList = l) (hd : ∀ b ∈ l, isHex b.toNat = true) : isB x = true := by
  have hs : x.size = 16 := by
    have : x.data.toList.length = x.size := by simp
    rw [← this, hx, hl]
  have key : ∀ k, k ≤ 16 → hexTo x k = true := by
    intro k
    induction k with
    | zero => intro _; rfl
    | succ k ih =>
      intro hk
      simp only [hexTo, ih (by omega), Bool.true_and]
      rw [hx, Dig.byteAt_in (by omega)]
      exact hd _ (List.getElem_mem _)
  simp [isB, hs, key 16 (Nat.le_refl _)]
theorem hexK_hex (k x : Nat) : ∀ b ∈ Dig.hexK k x, isHex b.toNat = true := by
  induction k generalizing x with
  | zero => intro b hb; simp [Dig.hexK] at hb
  | succ k ih =>
    intro b hb
    simp only [Dig.hexK, List.mem_append, List.mem_singleton] at hb
    rcases hb with hb | rfl
    · exact ih _ b hb
    · have h := Nat.mod_lt x (show 0 < 16 by omega)
      generalize x % 16 = n at h
      unfold Dig.dg isHex
      split
      · simp [UInt8.toNat_ofNat']; omega
      · simp [UInt8.toNat_ofNat']; omega
theorem isB_sum (s : ByteArray) : isB (sumB s) = true :=
  hexTo_sum (sumB s) (Dig.sumL s.data.toList) (Dig.sumL_length _) (by simp [sumB]) (hexK_hex 16 _)
theorem isSum_any (s : ByteArray) (w : World) : Calls Tryd.prog 44 #[.string (sumB s)] w fun e w' => e = .returned (.bool true) ∧ w = w' := by
  refine (is_any (sumB s) w (by rw [sumB_size]; unfold maxLen; omega)).mono ?_
  rintro e w' ⟨rfl, rfl⟩
  exact ⟨by rw [isB_sum], rfl⟩
/-- what passes Few -/
theorem few_bounds {ss : List ByteArray} (h : fewB ss 200 = true) : ss.length ≤ 30 ∧ ∀ s ∈ ss, s.size ≤ 200 := by
  simp only [fewB, Bool.and_eq_true, List.all_eq_true, decide_eq_true_eq] at h
  exact ⟨h.2, fun s hs => by have := h.1 s hs; omega⟩
theorem join_bound {ss : List ByteArray} (h : ∀ s ∈ ss, s.size ≤ 200) : (joinL ss).length ≤ 221 * ss.length := by
  induction ss with
  | nil => simp [joinL]
  | cons s r ih =>
    have h1 := h s (List.mem_cons_self ..)
    have h2 := ih (fun x hx => h x (List.mem_cons_of_mem _ hx))
    have h3 : (decB s.size).size ≤ 20 := decB_size _ (by omega)
    have h4 : (decB s.size).size = (Lib.decDigits s.size).length := by show (Lib.decDigits s.size).toArray.size = _; simp
    have h5 : s.data.toList.length = s.size := by simp
    simp only [joinL, oneL, List.length_append, List.length_cons]
    omega
theorem cap_bound {ss : List ByteArray} (h : ∀ s ∈ ss, s.size ≤ 200) : capN ss ≤ 221 * ss.length := by
  induction ss with
  | nil => simp [capN]
  | cons s r ih =>
    have h1 := h s (List.mem_cons_self ..)
    have h2 := ih (fun x hx => h x (List.mem_cons_of_mem _ hx))
    simp only [capN, List.length_cons]
    omega
theorem byteAt_append (l m : List UInt8) (i : Nat) : Dig.byteAt (l ++ m) i = if i < l.length then Dig.byteAt l i else Dig.byteAt m (i - l.length) := by
  unfold Dig.byteAt
  split
  · rename_i h; rw [List.getElem?_append_left h]
  · rename_i h; rw [List.getElem?_append_right (by omega)]
theorem cat_list (x y : ByteArray) : (x ++ y).data.toList = x.data.toList ++ y.data.toList := by simp
theorem run_cat (x y : ByteArray) (w : World) (h : x.size + y.size ≤ 9223372036854775807) : Sem.run Tryd.prog (binOp .add 9 (.string x) (.string y)) w = .ok (.string (x ++ y)) w := by
  have := run_string_add_sum (P := Tryd.prog) w x y h
  simpa [binOp] using this
/-- the number of a row of digits -/
def valD (l : List UInt8) : Nat := l.foldl (fun n b => n * 10 + (b.toNat - 48)) 0
theorem valD_snoc (l : List UInt8) (b : UInt8) : valD (l ++ [b]) = valD l * 10 + (b.toNat - 48) := by simp [valD]
theorem dig_toNat (d : Nat) (h : d < 10) : (UInt8.ofNat (48 + d)).toNat = 48 + d := by
  rw [UInt8.toNat_ofNat']; omega
theorem valD_dec (n : Nat) : valD (Lib.decDigits n) = n := by
  induction n using Nat.strongRecOn with
  | _ n ih =>
    rw [Lib.decDigits]
    by_cases h : n < 10
    · rw [dif_pos h]
      show valD ([] ++ [_]) = n
      rw [valD_snoc, dig_toNat _ h]; simp [valD]
    · rw [dif_neg h, valD_snoc, ih _ (by omega), dig_toNat _ (Nat.mod_lt _ (by omega))]; omega
theorem dec_inj {a b : Nat} (h : Lib.decDigits a = Lib.decDigits b) : a = b := by rw [← valD_dec a, ← valD_dec b, h]
theorem dec_no58 (n : Nat) : ∀ b ∈ Lib.decDigits n, b ≠ 58 := by
  induction n using Nat.strongRecOn with
  | _ n ih =>
    intro b hb
    rw [Lib.decDigits] at hb
    have key : ∀ d, d < 10 → UInt8.ofNat (48 + d) ≠ 58 := by
      intro d hd e
      have := congrArg UInt8.toNat e
      rw [dig_toNat d hd] at this
      have h58 : (58 : UInt8).toNat = 58 := rfl
      omega
    by_cases h : n < 10
    · rw [dif_pos h] at hb
      simp only [List.mem_singleton] at hb
      subst hb; exact key n h
    · rw [dif_neg h] at hb
      rcases List.mem_append.1 hb with hb | hb
      · exact ih _ (by omega) b hb
      · simp only [List.mem_singleton] at hb
        subst hb; exact key _ (Nat.mod_lt _ (by omega))
theorem split58 {x y r q : List UInt8} (hx : ∀ b ∈ x, b ≠ 58) (hy : ∀ b ∈ y, b ≠ 58) (h : x ++ 58 :: r = y ++ 58 :: q) : x = y ∧ r = q := by
  induction x generalizing y with
  | nil =>
    cases y with
    | nil => simp at h; exact ⟨rfl, h⟩
    | cons c y => simp at h; exact absurd h.1.symm (hy c (List.mem_cons_self ..))
  | cons c x ih =>
    cases y with
    | nil => simp at h; exact absurd h.1 (hx c (List.mem_cons_self ..))
    | cons d y =>
      simp only [List.cons_append, List.cons.injEq] at h
      obtain ⟨rfl, h⟩ := h
      obtain ⟨h1, h2⟩ := ih (fun b hb => hx b (List.mem_cons_of_mem _ hb)) (fun b hb => hy b (List.mem_cons_of_mem _ hb)) h
      exact ⟨by rw [h1], h2⟩
theorem joinL_ne_nil (s : ByteArray) (r : List ByteArray) : joinL (s :: r) ≠ [] := by simp [joinL, oneL]
theorem joinL_inj : ∀ {l m : List ByteArray}, joinL l = joinL m → l = m
  | [], [], _ => rfl
  | [], t :: m, h => absurd h.symm (joinL_ne_nil t m)
  | s :: l, [], h => absurd h (joinL_ne_nil s l)
  | s :: l, t :: m, h => by
    simp only [joinL, oneL, List.append_assoc, List.cons_append] at h
    obtain ⟨h1, h2⟩ := split58 (dec_no58 _) (dec_no58 _) h
    have h3 := dec_inj h1
    have sz : ∀ x : ByteArray, x.data.toList.length = x.size := fun x => by simp
    obtain ⟨h4, h5⟩ := List.append_inj h2 (by rw [sz, sz, h3])
    rw [bytes_ext h4, joinL_inj h5]
theorem joinB_eq (l m : List ByteArray) : ((joinB l).toList == (joinB m).toList) = sameB l m := by
  rw [str_beq]
  unfold sameB
  by_cases h : l = m
  · subst h; simp
  · have : joinB l ≠ joinB m := fun e => h (joinL_inj (by
      have := congrArg (fun b : ByteArray => b.data.toList) e
      simpa [joinB] using this))
    simp [h, this]
/-- what the first statements of the law want of a list that passes Few -/
structure ListOk (ss : List ByteArray) : Prop where
  j : (joinL ss).length ≤ 1099511627776
  c : capN ss ≤ 140737488355328
theorem ListOk.of {ss : List ByteArray} (h : fewB ss 200 = true) : ListOk ss := by
  obtain ⟨f1, f2⟩ := few_bounds h
  have j1 := join_bound f2
  have j3 := cap_bound f2
  exact ⟨by omega, by omega⟩
theorem StrsOk.kept {w w' : World} {v : Value} {ss : List ByteArray} (h : Hid (StrsOk w v ss)) (hb : Below w.heap.size w w') : Hid (StrsOk w' v ss) := h.out.below hb
theorem TabOk.kept {w w' : World} (h : Hid (TabOk w)) (hb : Below w.heap.size w w') : Hid (TabOk w') := TabOk.below h.out hb
theorem below_dn (w : World) (n : Nat) : Below w.heap.size w (w.drewN n) := below_drewN (Below.refl _ _) n
theorem one_at (w : World) (A : ByteArray) : StrsAt (w.alloc (Obj.cells #[Value.string A] 9)) (.slice (some ⟨w.heap.size, 0, none⟩) 1 1) [A] := by
  refine .inr ⟨by simp, w.heap.size, 0, 1, rfl, fun j hj => ?_⟩
  rw [Lib.cell_of_heap (heap_last w _)]
  match j, hj with
  | 0, _ => rfl
theorem one_at' (w : World) (k : Nat) (A : ByteArray) : StrsAt ((w.drewN k).alloc (Obj.cells #[Value.string A] 9)) (.slice (some ⟨w.heap.size, 0, none⟩) 1 1) [A] := one_at (w.drewN k) A
theorem run_cut (A : ByteArray) (K : Int) (w : World) (h0 : 0 ≤ K) (h1 : K ≤ A.size) : Sem.run Tryd.prog (Instr.slice 9 (.string A) none (some (.int .i64 K)) none) w = .ok (.string (A.extract 0 K.toNat)) w :=
  run_slice_string_h (P := Tryd.prog) w 9 A Tryd.underlying9 .i64 K h0 h1
theorem run_cut2 (A : ByteArray) (K L : Int) (w : World) (h0 : 0 ≤ K) (h1 : K ≤ L) (h2 : L ≤ A.size) : Sem.run Tryd.prog (Instr.slice 9 (.string A) (some (.int .i64 K)) (some (.int .i64 L)) none) w = .ok (.string (A.extract K.toNat L.toNat)) w := by
  rw [run_slice_string_if (P := Tryd.prog) w 9 A .i64 .i64 K L Tryd.underlying9]
  rw [if_pos ⟨by omega, h2⟩, if_pos ⟨h0, h1⟩]
theorem quiet_kept {w0 w : World} (n : Nat) (hB : Below w0.heap.size w0 w) (ht : Hid (TabOk w)) : Below w0.heap.size w0 (w.drewN n) ∧ Hid (TabOk (w.drewN n)) :=
  ⟨hB.trans ((below_dn w n).mono hB.size), TabOk.kept ht (below_dn w n)⟩
theorem TabOk.drew {w : World} (h : TabOk w) : TabOk w.drew := h
end Go.Proofs.YtcdnddjoonecdaaDoor
