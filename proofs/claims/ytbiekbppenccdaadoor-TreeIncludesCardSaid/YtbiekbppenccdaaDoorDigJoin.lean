/-
  The contracts of digest.joined and digest.List: for every list whose joined text has at most 2^40 bytes.
-/
import Derived.Test.YtbiekbppenccdaaDoorDigStrs
import Derived.Test.YtbiekbppenccdaaDoorBld
import Derived.Lib.LaidTab
import Derived.Lib.AppendIntMem
import Derived.WalkSmall
set_option linter.unusedVariables false
namespace Go.Proofs.YtbiekbppenccdaaDoor
open Go.RowKit
def oneL (s : ByteArray) : List UInt8 := Lib.decDigits s.size ++ (58 :: s.data.toList)
/-- the joined text -/
def joinL : List ByteArray → List UInt8
  | [] => []
  | s :: r => oneL s ++ joinL r
theorem joinL_append (a b : List ByteArray) : joinL (a ++ b) = joinL a ++ joinL b := by
  induction a with
  | nil => rfl
  | cons s r ih => simp only [List.cons_append, joinL, ih, List.append_assoc]
theorem joinL_succ (ss : List ByteArray) (k : Nat) (h : k < ss.length) : joinL (ss.take (k + 1)) = joinL (ss.take k) ++ oneL ss[k] := by
  rw [List.take_succ_eq_append_getElem h, joinL_append]
  simp [joinL]
theorem joinL_take_le (ss : List ByteArray) (k : Nat) : (joinL (ss.take k)).length ≤ (joinL ss).length := by
  have h : joinL ss = joinL (ss.take k) ++ joinL (ss.drop k) := by rw [← joinL_append, List.take_append_drop]
  rw [h, List.length_append]; omega
def joinB (ss : List ByteArray) : ByteArray := ⟨(joinL ss).toArray⟩
abbrev TabOk (w : World) : Prop := Lib.TabIs Tryd.prog w "internal/strconv.uint64pow10" .u64 Lib.pow10Tab
theorem TabOk.below {w w' : World} (h : TabOk w) (hb : Below w.heap.size w w') : TabOk w' := by
  have hg : Tryd.prog.globalNamed "internal/strconv.uint64pow10" = some 1 := by kernel_rfl
  have hlt : 1 < w.heap.size := by
    have h' := h
    unfold TabOk Lib.TabIs World.var? at h'
    rw [hg] at h'
    simp only [Option.bind_some] at h'
    rcases Nat.lt_or_ge 1 w.heap.size with h2 | h2
    · exact h2
    · rw [Array.getElem?_eq_none h2] at h'; simp at h'
  exact var?_below hb hg hlt h
theorem isBuilder_below {B b : Nat} {bs : List Value} {w w' : World} (h : Lib.IsBuilder 77 5 B b bs w) (hb : Below w.heap.size w w') : Lib.IsBuilder 77 5 B b bs w' := by
  have key : ∀ p, Lib.BuilderAt 77 5 B b p bs w → Lib.BuilderAt 77 5 B b p bs w' := by
    intro p hp
    have hlt := hp.lt
    obtain ⟨hB, v, hv, hown, hne⟩ := hp
    refine ⟨hB, v, (hb.block b hlt).trans hv, ?_, hne⟩
    by_cases e : v.ownBlock = none
    · exact hown.kept (row := none) ⟨hb.os, hb.tape, hb.output, hb.size, fun k hk _ => hb.block k hk⟩ (.inl e)
    · exact hown.kept (row := none) ⟨hb.os, hb.tape, hb.output, hb.size, fun k hk _ => hb.block k hk⟩ (.inr e)
  rcases h with h | h
  · exact .inl (key _ h)
  · exact .inr (key _ h)
theorem joined_empty (a : Option Addr) (cap : Nat) (w : World) :
    Calls Tryd.prog 56 #[.slice a 0 cap] w fun e w' => e = .returned (.string (joinB [])) ∧ Below w.heap.size w w' := by
  go_enter Tryd.func56, Tryd.ntmps56
  go_wp2_with fail
  refine wp_loop_rounds 1 ?_
  rw [rounds_succ]
  go_wp2_with fail
  refine (Tryd.Builder_String_any w.heap.size w.heap.size [] _ (Lib.fresh_isBuilder 77 5 w) (by simp)).mono ?_
  rintro e w1 ⟨rfl, hb⟩
  go_wp2_with fail
  go_ret
  exact ⟨rfl, ((Below.refl _ _).alloc (Nat.le_refl _) _).trans hb⟩
set_option maxHeartbeats 1000000 in
theorem joined_full (b off cap : Nat) (ss : List ByteArray) (w : World) (h0 : 0 < ss.length) (hl : ss.length ≤ maxLen) (hj : (joinL ss).length ≤ 1099511627776)
    (hc : ∀ j (hj : j < ss.length), w.cell? ⟨b, off + j, none⟩ = some (.string ss[j])) (ht : TabOk w) :
    Calls Tryd.prog 56 #[.slice (some ⟨b, off, none⟩) ss.length cap] w fun e w' => e = .returned (.string (joinB ss)) ∧ Below w.heap.size w w' := by
  unfold maxLen at hl
  have hblt : b < w.heap.size := by
    have := hc 0 h0
    rcases Nat.lt_or_ge b w.heap.size with h' | h'
    · exact h'
    · simp [World.cell?, Array.getElem?_eq_none h'] at this
  have HC := Lib.hid hc
  have HT := Lib.hid ht
  clear hc ht
  go_enter Tryd.func56, Tryd.ntmps56
  go_wp2_with fail
  go_loopw [8] (fun i wr => ∃ k : Nat, k ≤ ss.length ∧ i = .int .i64 k ∧ Hid (Lib.IsBuilder 77 5 w.heap.size w.heap.size (Lib.byteCells (joinL (ss.take k))) wr) ∧ Below w.heap.size w wr) (fun i _ => ss.length - (intOf i).toNat)
  case atStart => exact ⟨0, by omega, rfl, (show _ from Lib.fresh_isBuilder 77 5 w), (Below.refl _ _).alloc (Nat.le_refl _) _⟩
  case round =>
    obtain ⟨k, hk, rfl, hI, hB⟩ := hrel
    by_cases hlt : k < ss.length
    · have hcell : wr.cell? ⟨b, off + k, none⟩ = some (.string ss[k]) := by
        rw [hB.cell (p := ⟨b, off + k, none⟩) hblt]; exact HC.out k hlt
      have hj1 : (joinL (ss.take (k + 1))).length ≤ 1099511627776 := Nat.le_trans (joinL_take_le ss _) hj
      rw [joinL_succ ss k hlt] at hj1
      simp only [oneL, List.length_append, List.length_cons] at hj1
      have hsz : ss[k].data.toList.length = ss[k].size := by simp
      have hsz2 : ss[k].size ≤ 1099511627776 := by omega
      have HJ := Lib.hid hj1
      have HZ := Lib.hid hsz
      clear hj1 hsz
      have hT1 : TabOk wr := TabOk.below HT.out hB
      have HT1 := Lib.hid hT1
      clear hT1
      go_wp2_with fail
      refine (Tryd.strconv_Itoa ss[k].size (by omega) (by omega) _ HT1.out).mono ?_
      rintro e w1 ⟨rfl, q, os, hw1⟩
      have hb1 : Below wr.heap.size wr w1 := by rw [hw1]; exact Lib.below_grow _ _ (Nat.le_refl _) _ _
      clear hw1
      have hI1 := isBuilder_below hI.out hb1
      have hB1 := hB.trans (hb1.mono hB.size)
      have HI1 := Lib.hid hI1
      clear hI1
      have hit : Lib.itoa (ss[k].size : Int) = Lib.decDigits ss[k].size := by unfold Lib.itoa; rw [if_neg (by omega)]; rfl
      rw [hit]
      clear hit hb1
      go_wp2_with fail
      have hlk : (Lib.byteCells (joinL (ss.take k))).length = (joinL (ss.take k)).length := Lib.byteCells_length _
      have hsd : (decB ss[k].size).size = (Lib.decDigits ss[k].size).length := by show (Lib.decDigits ss[k].size).toArray.size = _; simp
      refine (Builder_WriteString w.heap.size w.heap.size _ (decB ss[k].size) _ HI1.out (by have := HJ.out; have := HZ.out; omega) hB1.size).mono ?_
      rintro e w2 ⟨rfl, hI2, hb2⟩
      have hB2 := hB1.trans hb2
      have HI2 := Lib.hid hI2
      clear hI2 hb2 HI1
      go_wp2_with fail
      refine (Builder_WriteByte w.heap.size w.heap.size _ 58 _ (.inr HI2.out) (by have := HJ.out; have := HZ.out; rw [List.length_append, Lib.strCells_length]; omega) hB2.size).mono ?_
      rintro e w3 ⟨rfl, hI3, hb3⟩
      have hB3 := hB2.trans hb3
      have HI3 := Lib.hid hI3
      clear hI3 hb3 HI2
      go_wp2_with fail
      refine (Builder_WriteString w.heap.size w.heap.size _ ss[k] _ (.inr HI3.out) (by have := HJ.out; have := HZ.out; simp only [List.length_append, Lib.strCells_length, List.length_cons, List.length_nil]; omega) hB3.size).mono ?_
      rintro e w4 ⟨rfl, hI4, hb4⟩
      have hB4 := hB3.trans hb4
      have HI4 := Lib.hid hI4
      clear hI4 hb4 HI3
      go_wp2_with fail
      go_roundw
      case rel =>
        refine ⟨k + 1, by omega, by go_num, (show _ from ?_), hB4⟩
        rw [joinL_succ ss k hlt]
        refine .inr ?_
        have := HI4.out
        simpa [oneL, Lib.byteCells, Lib.strCells, decB] using this
      case measure => simp [intOf]; omega
    · obtain rfl : k = ss.length := by omega
      have hI' : Lib.IsBuilder 77 5 w.heap.size w.heap.size (Lib.byteCells (joinL ss)) wr := by
        have := hI.out
        rwa [List.take_of_length_le (Nat.le_refl _)] at this
      have HI := Lib.hid hI'
      clear hI' hI
      go_wp2_with fail
      refine (Tryd.Builder_String_any w.heap.size w.heap.size (joinL ss) _ HI.out hB.size).mono ?_
      rintro e w1 ⟨rfl, hb⟩
      go_wp2_with fail
      go_ret
      exact ⟨rfl, hB.trans hb⟩
theorem joined_any (v : Value) (ss : List ByteArray) (w : World) (h : StrsAt w v ss) (hl : ss.length ≤ maxLen) (hj : (joinL ss).length ≤ 1099511627776) (ht : TabOk w) :
    Calls Tryd.prog 56 #[v] w fun e w' => e = .returned (.string (joinB ss)) ∧ Below w.heap.size w w' := by
  rcases h with ⟨rfl, a, cap, rfl⟩ | ⟨h0, b, off, cap, rfl, hc⟩
  · exact joined_empty a cap w
  · exact joined_full b off cap ss w h0 hl hj hc ht
theorem joinB_size (ss : List ByteArray) : (joinB ss).size = (joinL ss).length := by show (joinL ss).toArray.size = _; simp
theorem list_any (v : Value) (ss : List ByteArray) (w : World) (h : StrsAt w v ss) (hl : ss.length ≤ maxLen) (hj : (joinL ss).length ≤ 1099511627776) (ht : TabOk w) :
    Calls Tryd.prog 30 #[v] w fun e w' => e = .returned (.string (sumB (joinB ss))) ∧ Below w.heap.size w w' := by
  have hs := joinB_size ss
  have hs2 : (joinB ss).size ≤ maxLen := by unfold maxLen; omega
  clear hs
  go_enter Tryd.func30, Tryd.ntmps30
  go_wp2_with fail
  refine (joined_any v ss w h hl hj ht).mono ?_
  rintro e w1 ⟨rfl, hb1⟩
  go_wp2_with fail
  refine (sum_any _ _ hs2).mono ?_
  rintro e w2 ⟨rfl, hb2⟩
  go_wp2_with fail
  go_ret
  exact ⟨rfl, hb1.trans (hb2.mono hb1.size)⟩
end Go.Proofs.YtbiekbppenccdaaDoor
