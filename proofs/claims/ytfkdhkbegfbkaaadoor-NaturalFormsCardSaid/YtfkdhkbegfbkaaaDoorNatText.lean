/-
  The reference's text of layer 3: digits, the last one first, to a number without needless zeros.
-/
import Derived.Test.YtfkdhkbegfbkaaaDoorNatAt
import Derived.Laws.OwnMore
import Derived.OwnWalk
set_option linter.unusedVariables false
set_option maxRecDepth 100000
namespace Go.Proofs.YtfkdhkbegfbkaaaDoor
open Go.RowKit
/-- bytes with small values, as cells -/
def numCells (D : List Nat) : List Value := D.map fun d : Nat => Value.int .u8 ((d : Nat) : Int)
theorem numCells_length (D : List Nat) : (numCells D).length = D.length := by simp [numCells]
/-- a row of bytes of the call's own -/
def OwnN (B : Nat) (w : World) (v : Value) (D : List Nat) : Prop := w.ownsRow B 5 1 v D.length (numCells D)
theorem OwnN.nil (B : Nat) (w : World) : OwnN B w (.slice none 0 0) [] := World.ownsRow_nil _ _ _ _
theorem OwnN.below {B : Nat} {w w' : World} {v : Value} {D : List Nat} (h : OwnN B w v D) (hb : Below w.heap.size w w') : OwnN B w' v D := by
  by_cases e : v.ownBlock = none
  · exact World.ownsRow.kept (row := none) h ⟨hb.os, hb.tape, hb.output, hb.size, fun k hk _ => hb.block k hk⟩ (.inl e)
  · exact World.ownsRow.kept (row := none) h ⟨hb.os, hb.tape, hb.output, hb.size, fun k hk _ => hb.block k hk⟩ (.inr e)
theorem OwnN.open_ {B : Nat} {w : World} {v : Value} {D : List Nat} (h : OwnN B w v D) (h0 : 0 < D.length) :
    ∃ g cap, v = .slice (some ⟨g, 0, none⟩) D.length cap ∧ B ≤ g ∧ g < w.heap.size ∧ D.length ≤ cap ∧ ∀ j (hj : j < D.length), w.cell? ⟨g, j, none⟩ = some (.int .u8 (D[j] : Int)) := by
  rcases h.2 with ⟨rfl, h1⟩ | ⟨g, cap, cur, rfl, h2, hg, h3, h4, h5, h6⟩
  · omega
  · have hlt := World.ownsRow.lt (w := w) (base := B) h g rfl
    refine ⟨g, cap, rfl, hlt.1, hlt.2, h3, fun j hj => ?_⟩
    rw [World.ownsRow.cellAt h j (by omega)]
    simp [numCells, hj]
/-- the row of the text while it is written -/
def outN (D : List Nat) (k : Nat) : List Nat := List.replicate (D.length - k) 0 ++ ((D.take k).map (48 + ·)).reverse
theorem outN_zero (D : List Nat) : outN D 0 = List.replicate D.length 0 := by simp [outN]
theorem outN_length (D : List Nat) (k : Nat) (hk : k ≤ D.length) : (outN D k).length = D.length := by simp [outN]; omega
theorem outN_set (D : List Nat) (k : Nat) (hk : k < D.length) : (outN D k).set (D.length - 1 - k) (48 + D[k]) = outN D (k + 1) := by
  unfold outN
  have e1 : D.length - k = D.length - 1 - k + 1 := by omega
  rw [e1, List.replicate_succ', List.append_assoc, List.set_append_right _ _ (by simp)]
  simp only [List.length_replicate, Nat.sub_self, List.singleton_append, List.set_cons_zero]
  rw [List.take_succ_eq_append_getElem hk, List.map_append, List.reverse_append]
  rw [show D.length - (k + 1) = D.length - 1 - k by omega]
  simp
theorem outN_last (D : List Nat) : outN D D.length = ((D.map (48 + ·)).reverse) := by simp [outN]
theorem byte_of {d : Nat} (h : d < 10) : ((UInt8.ofNat (48 + d)).toNat : Int) = ((48 + d : Nat) : Int) := by rw [Dec.dig_toNat h]
theorem text_list (D : List Nat) (hs : ∀ d ∈ D, d < 10) : numCells (outN D D.length) = ((D.map fun d => UInt8.ofNat (48 + d)).reverse).map fun c => Value.int .u8 (c.toNat : Int) := by
  rw [outN_last, numCells, ← List.map_reverse, ← List.map_reverse, List.map_map, List.map_map]
  apply List.map_congr_left
  intro d hd
  show Value.int .u8 ((48 + d : Nat) : Int) = Value.int .u8 _
  rw [byte_of (hs d (by simpa using hd))]
theorem infoByte : (Tryd.prog.info? 5).map (fun i => (i.zero, i.size, i.bytes)) = some (some (.int .u8 0), 1, 1) := by kernel_rfl
theorem foldl_push (l : List UInt8) (a : ByteArray) : (l.map fun c => (c.toNat : Int)).foldl (fun b i => b.push (UInt8.ofNat i.toNat)) a = ⟨a.data ++ l.toArray⟩ := by
  induction l generalizing a with
  | nil => simp
  | cons b l ih =>
    rw [List.map_cons, List.foldl_cons, ih]
    congr 1
    apply Array.ext'
    simp
theorem numConv (l : List UInt8) (b off : Nat) (cap : Nat) (w : World) (h : ∀ j (hj : j < l.length), w.cell? ⟨b, off + j, none⟩ = some (.int .u8 (l[j].toNat : Int))) :
    (convert 56 9 (.slice (some ⟨b, off, none⟩) l.length cap)).run Tryd.prog w = .ok (.string ⟨l.toArray⟩) w := by
  rw [run_convert_bytes_string w 56 9 5 _ _ _ Tryd.underlying56 Tryd.underlying5 Tryd.underlying9]
  have hl := run_loadCells_list (P := Tryd.prog) w ⟨b, off, none⟩ (l.map fun c => Value.int .u8 (c.toNat : Int)) (by
    intro j v hj
    rw [List.getElem?_map] at hj
    have hlt : j < l.length := by
      rcases Nat.lt_or_ge j l.length with h' | h'
      · exact h'
      · rw [List.getElem?_eq_none h'] at hj; simp at hj
    rw [List.getElem?_eq_getElem hlt] at hj
    simp only [Option.map_some, Option.some.injEq] at hj
    subst hj
    have := h j hlt
    rw [show (⟨b, off, none⟩ : Addr).add j = ⟨b, off + j, none⟩ from by unfold Addr.add; split <;> simp_all]; exact this)
  rw [List.length_map] at hl
  have hr := run_bytesToString (P := Tryd.prog) w ⟨b, off, none⟩ l.length cap (l.map fun c => (c.toNat : Int)) (by rw [hl, List.map_map]; rfl)
  rw [hr, foldl_push, show ByteArray.empty.data ++ l.toArray = l.toArray from by simp]
set_option maxHeartbeats 1000000 in
theorem reftext_full (g cap : Nat) (D : List Nat) (w : World) (h0 : 0 < D.length) (hl : D.length ≤ 1099511627776) (hs : ∀ d ∈ D, d < 10) (hg : g < w.heap.size)
    (hc : ∀ j (hj : j < D.length), w.cell? ⟨g, j, none⟩ = some (.int .u8 (D[j] : Int))) :
    Calls Tryd.prog 47 #[.slice (some ⟨g, 0, none⟩) D.length cap] w fun e w' => e = .returned (.string (bx (Dec.digs (Dec.valR D)))) ∧ Below w.heap.size w w' := by
  obtain ⟨i0, hi, hz0, hz1, hz2⟩ := info_parts infoByte
  have HC := Lib.hid hc
  have HS := Lib.hid hs
  obtain ⟨N, hN⟩ : ∃ N, N = D.length := ⟨_, rfl⟩
  have HN := Lib.hid hN
  clear hc hs
  rw [← hN]
  rw [← hN] at h0 hl
  clear hN
  go_enter Tryd.func47, Tryd.ntmps47
  go_wp2_with (at_make; refine wpList_make_full _ rfl _ _ 56 rfl w.heap.size 5 i0 (.int .u8 0) 1 Tryd.underlying56 hi hz0 hz1 _ _ _ _ N rfl rfl rfl rfl (by rw [hz2]; omega) (by unfold maxLen; omega) (Nat.le_refl _) ?_)
  intro w1 hown hgrow
  have hB1 : Below w.heap.size w w1 := (Below.refl _ _).grown hgrow (Nat.le_refl _) (fun k h => by cases h)
  have hO1 : w1.ownsRow w.heap.size 5 1 (.slice (some ⟨w.heap.size, 0, none⟩) N N) N (numCells (outN D 0)) := by
    have e : (madeCells #[Value.int .u8 0] N).toList = numCells (outN D 0) := by
      rw [toList_madeCells_one, outN_zero, ← HN.out]
      simp [numCells]
    rw [← e]; exact hown
  have HO := Lib.hid hO1
  clear hown hgrow hO1
  go_wp2_with fail
  go_loopw [4] (fun i wr => ∃ k : Nat, k ≤ N ∧ i = .int .i64 k ∧ Hid (wr.ownsRow w.heap.size 5 1 (.slice (some ⟨w.heap.size, 0, none⟩) N N) N (numCells (outN D k))) ∧ Below w.heap.size w wr) (fun i _ => N - (intOf i).toNat)
  case atStart => exact ⟨0, by omega, rfl, HO, hB1⟩
  case round =>
    obtain ⟨k, hk, rfl, hI, hB⟩ := hrel
    clear HO hB1
    by_cases hlt : k < N
    · have hkD : k < D.length := by have := HN.out; omega
      have hin : wr.cell? ⟨g, k, none⟩ = some (.int .u8 (D[k] : Int)) := (hB.cell (p := ⟨g, k, none⟩) hg).trans (HC.out k hkD)
      have hd := HS.out _ (List.getElem_mem hkD)
      obtain ⟨d, hdd⟩ : ∃ d, d = D[k] := ⟨_, rfl⟩
      rw [← hdd] at hin hd
      obtain ⟨j, hj⟩ : ∃ j, j = N - 1 - k := ⟨_, rfl⟩
      have hjN : j < N := by omega
      have hcell : wr.cell? ⟨w.heap.size, j, none⟩ = some (.int .u8 (((outN D k).getD j 0 : Nat) : Int)) := by
        rw [World.ownsRow.cellAt hI.out j (by omega)]
        have hlen : j < (outN D k).length := by rw [outN_length D k (by omega)]; have := HN.out; omega
        simp [numCells, List.getD, hlen]
      have hfz := World.ownsRow.frozenAt hI.out j
      have hst := World.ownsRow.stored hI.out j (.int .u8 ((d : Int) + 48))
      have i1 : IntKind.i64.wrap ((N : Int) - 1) = (N : Int) - 1 := IntWalk.i64_in _ (by omega)
      have i2 : IntKind.i64.wrap ((N : Int) - 1 - (k : Int)) = (j : Int) := by rw [IntWalk.i64_in _ (by omega)]; omega
      have i3 : IntKind.u8.wrap ((d : Int) + 48) = (d : Int) + 48 := by
        simp [IntKind.wrap, IntKind.bits, IntKind.signed]; omega
      have HST := Lib.hid hst
      have HDD := Lib.hid hdd
      have HJ := Lib.hid hj
      clear hst hdd hj
      go_wp2_with fail
      go_roundw
      case rel =>
        refine ⟨k + 1, by omega, by go_num, Lib.hid ?_, hB.setCell (p := ⟨w.heap.size, j, none⟩) (Nat.le_refl _) _⟩
        have e : (numCells (outN D k)).set j (.int .u8 ((d : Int) + 48)) = numCells (outN D (k + 1)) := by
          rw [← outN_set D k hkD, numCells, numCells, List.map_set, HJ.out, HN.out, HDD.out]
          congr 2
          omega
        rw [← e]
        exact HST.out.1
      case measure => simp [intOf]; omega
    · obtain rfl : k = N := by omega
      obtain ⟨R, hR⟩ : ∃ R, R = (D.map fun d => UInt8.ofNat (48 + d)).reverse := ⟨_, rfl⟩
      have hRl : R.length = k := by rw [hR]; have := HN.out; simp; omega
      have hI2 := hI.out
      rw [HN.out, text_list D HS.out, ← hR, ← HN.out] at hI2
      have hconv := numConv R w.heap.size 0 k wr (fun j hj => by
        rw [Nat.zero_add, World.ownsRow.cellAt hI2 j (by omega)]
        simp [hj])
      rw [hRl] at hconv
      have hall : Dec.AllD R := by
        rw [hR]
        intro b hb
        simp only [List.mem_reverse, List.mem_map] at hb
        obtain ⟨d, hd, rfl⟩ := hb
        exact Dec.dig_isD (HS.out d hd)
      have hval : Dec.val R = Dec.valR D := by rw [hR]; exact Dec.val_reverse HS.out
      have HALL := Lib.hid hall
      have HVAL := Lib.hid hval
      have HRL := Lib.hid hRl
      clear hR hI2 hall hval hRl hI
      go_wp2_with fail
      refine (reftrim_any (bx R) _ (by rw [bx_size, HRL.out]; exact hl) (by rw [bx_size, HRL.out]; exact h0) (by rw [tl_bx]; exact HALL.out)).mono ?_
      rintro e w2 ⟨rfl, rfl⟩
      rw [tl_bx, HVAL.out]
      go_wp2_with fail
      go_ret
      exact ⟨rfl, hB⟩
theorem reftext_any (B : Nat) (v : Value) (D : List Nat) (w : World) (h : OwnN B w v D) (h0 : 0 < D.length) (hl : D.length ≤ 1099511627776) (hs : ∀ d ∈ D, d < 10) :
    Calls Tryd.prog 47 #[v] w fun e w' => e = .returned (.string (bx (Dec.digs (Dec.valR D)))) ∧ Below w.heap.size w w' := by
  obtain ⟨g, cap, rfl, _, hg, _, hc⟩ := h.open_ h0
  exact reftext_full g cap D w h0 hl hs hg hc
end Go.Proofs.YtfkdhkbegfbkaaaDoor
