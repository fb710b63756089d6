/-
  The contracts of the reference Joined and List: for every list whose joined text has at most 2^40 bytes.
-/
import Derived.Test.YtbiekbppenccdaaDoorDigJoin
import Derived.OwnWalk
set_option linter.unusedVariables false
namespace Go.Proofs.YtbiekbppenccdaaDoor
open Go.RowKit
def capN : List ByteArray → Nat
  | [] => 0
  | s :: r => (s.size + 21) + capN r
theorem capN_append (a b : List ByteArray) : capN (a ++ b) = capN a + capN b := by
  induction a with
  | nil => simp [capN]
  | cons s r ih => simp only [List.cons_append, capN, ih]; omega
theorem capN_succ (ss : List ByteArray) (k : Nat) (h : k < ss.length) : capN (ss.take (k + 1)) = capN (ss.take k) + (ss[k].size + 21) := by
  rw [List.take_succ_eq_append_getElem h, capN_append]
  simp [capN]
theorem capN_take_le (ss : List ByteArray) (k : Nat) : capN (ss.take k) ≤ capN ss := by
  have h : capN ss = capN (ss.take k) + capN (ss.drop k) := by rw [← capN_append, List.take_append_drop]
  omega
def capK (ss : List ByteArray) (k : Nat) : Nat := capN (ss.take k)
theorem bytesConvOwn {base : Nat} {v : Value} {l : List UInt8} {w : World} (h : w.ownsRow base 5 1 v l.length (Lib.byteCells l)) :
    (convert 66 9 v).run Tryd.prog w = .ok (.string ⟨l.toArray⟩) w := by
  rcases h.2 with ⟨rfl, h0⟩ | ⟨g, cap, cur, rfl, hb, hg, rest⟩
  · obtain rfl : l = [] := List.eq_nil_of_length_eq_zero h0
    have : (convert 66 9 (.slice none 0 0)).run Tryd.prog w = .ok (.string ⟨#[]⟩) w := by kernel_rfl
    exact this
  · refine bytesConv l g 0 cap w (fun j hj => ?_)
    rw [Nat.zero_add]
    rw [h.cellAt j (by omega)]
    simp [Lib.byteCells, hj]
theorem refjoined_empty (a : Option Addr) (cap : Nat) (w : World) :
    Calls Tryd.prog 53 #[.slice a 0 cap] w fun e w' => e = .returned (.string (joinB [])) ∧ Below w.heap.size w w' := by
  obtain ⟨i0, hi, hz0, hz1, hz2⟩ := info_parts (show (Tryd.prog.info? 5).map (fun i => (i.zero, i.size, i.bytes)) = some (some (.int .u8 0), 1, 1) by kernel_rfl)
  go_enter Tryd.func53, Tryd.ntmps53
  go_wp2_with fail
  refine wp_loop_rounds 1 ?_
  rw [rounds_succ]
  go_wp2_with (at_make; refine wpList_make_own _ rfl _ _ 66 rfl w.heap.size 5 i0 (.int .u8 0) 1 Tryd.underlying66 hi hz0 hz1 _ _ _ 0 rfl rfl rfl (by omega) (by unfold maxLen; omega) (Nat.le_refl _) ?_)
  intro w1 hown hgrow
  have hB1 : Below w.heap.size w w1 := (Below.refl _ _).grown hgrow (Nat.le_refl _) (fun k h => by cases h)
  have hconv := bytesConvOwn (l := []) hown
  clear hown hgrow
  go_wp2_with fail
  refine wp_loop_rounds 1 ?_
  rw [rounds_succ]
  go_wp2_with fail
  go_ret
  exact ⟨rfl, hB1⟩
set_option maxHeartbeats 2000000 in
theorem refjoined_full (b off cap : Nat) (ss : List ByteArray) (w : World) (h0 : 0 < ss.length) (hl : ss.length ≤ maxLen) (hj : (joinL ss).length ≤ 1099511627776) (hn : capN ss ≤ 140737488355328)
    (hc : ∀ j (hj : j < ss.length), w.cell? ⟨b, off + j, none⟩ = some (.string ss[j])) :
    Calls Tryd.prog 53 #[.slice (some ⟨b, off, none⟩) ss.length cap] w fun e w' => e = .returned (.string (joinB ss)) ∧ Below w.heap.size w w' := by
  obtain ⟨i0, hi, hz0, hz1, hz2⟩ := info_parts (show (Tryd.prog.info? 5).map (fun i => (i.zero, i.size, i.bytes)) = some (some (.int .u8 0), 1, 1) by kernel_rfl)
  unfold maxLen at hl
  have hblt : b < w.heap.size := by
    have := hc 0 h0
    rcases Nat.lt_or_ge b w.heap.size with h' | h'
    · exact h'
    · simp [World.cell?, Array.getElem?_eq_none h'] at this
  have HC := Lib.hid hc
  clear hc
  go_enter Tryd.func53, Tryd.ntmps53
  go_wp2_with fail
  go_loop [3, 4] (fun t i => ∃ k : Nat, k ≤ ss.length ∧ i = .int .i64 k ∧ t = .int .i64 (capK ss k : Nat)) (fun _ i => ss.length - (intOf i).toNat)
  case atStart => exact ⟨0, by omega, rfl, by simp [capK, capN]⟩
  case round =>
    obtain ⟨k, hk, rfl, rfl⟩ := hrel
    have hkn : capK ss k ≤ 140737488355328 := Nat.le_trans (capN_take_le ss k) hn
    by_cases hlt : k < ss.length
    · have hcell := HC.out k hlt
      have hsucc : capK ss (k + 1) = capK ss k + (ss[k].size + 21) := capN_succ ss k hlt
      have hkn1 : capK ss (k + 1) ≤ 140737488355328 := Nat.le_trans (capN_take_le ss _) hn
      have hle : capK ss k + (ss[k].size + 21) ≤ 140737488355328 := by omega
      have HS := Lib.hid hsucc
      clear hsucc hkn1
      go_wp2_with fail
      go_round
      case rel => exact ⟨k + 1, by omega, by go_num, by rw [HS.out]; go_num⟩
      case measure => simp [intOf]; omega
    · obtain rfl : k = ss.length := by omega
      obtain ⟨N, hN⟩ : ∃ N, N = capK ss ss.length := ⟨_, rfl⟩
      rw [← hN] at hkn ⊢
      clear hN hk
      go_wp2_with (at_make; refine wpList_make_own _ rfl _ _ 66 rfl w.heap.size 5 i0 (.int .u8 0) 1 Tryd.underlying66 hi hz0 hz1 _ _ _ N rfl rfl rfl (by rw [hz2]; omega) (by unfold maxLen; omega) (Nat.le_refl _) ?_)
      intro w1 hown hgrow
      have hB1 : Below w.heap.size w w1 := (Below.refl _ _).grown hgrow (Nat.le_refl _) (fun k h => by cases h)
      have HO := Lib.hid hown
      clear hown hgrow hlt
      go_wp2_with fail
      go_loopw [5, 6] (fun t i wr => ∃ k : Nat, k ≤ ss.length ∧ i = .int .i64 k ∧ Hid (wr.ownsRow w.heap.size 5 1 t (joinL (ss.take k)).length (Lib.byteCells (joinL (ss.take k)))) ∧ Below w.heap.size w wr) (fun _ i _ => ss.length - (intOf i).toNat)
      case atStart => exact ⟨0, by omega, rfl, HO, hB1⟩
      case round =>
        obtain ⟨k, hk, rfl, hI, hB⟩ := hrel
        clear HO hB1
        by_cases hlt : k < ss.length
        · have hcell : wr.cell? ⟨b, off + k, none⟩ = some (.string ss[k]) := by
            rw [hB.cell (p := ⟨b, off + k, none⟩) hblt]; exact HC.out k hlt
          have hj1 : (joinL (ss.take (k + 1))).length ≤ 1099511627776 := Nat.le_trans (joinL_take_le ss _) hj
          rw [joinL_succ ss k hlt] at hj1
          simp only [oneL, List.length_append, List.length_cons] at hj1
          have hsz : ss[k].data.toList.length = ss[k].size := by simp
          have hsz2 : ss[k].size ≤ maxLen := by unfold maxLen; omega
          have HJ := Lib.hid hj1
          have HZ := Lib.hid hsz
          clear hj1 hsz
          go_wp2_with fail
          refine (decimal_any _ _ hsz2).mono ?_
          rintro e w1 ⟨rfl, rfl⟩
          have hlk : (Lib.byteCells (joinL (ss.take k))).length = (joinL (ss.take k)).length := Lib.byteCells_length _
          have hsd : (decB ss[k].size).size = (Lib.decDigits ss[k].size).length := by show (Lib.decDigits ss[k].size).toArray.size = _; simp
          have HK := Lib.hid hlk
          have HD := Lib.hid hsd
          clear hlk hsd
          go_wp2_with (at_builtin; refine Lib.wpList_append_own_string _ rfl _ _ 66 9 rfl w.heap.size 5 i0 Tryd.underlying66 Tryd.underlying9 hi hz0 hz1 hz2 _ _ _ rfl hI.out (decB ss[k].size) rfl (by have := HJ.out; have := HD.out; unfold maxLen; omega) (by have := HJ.out; have := HD.out; omega) hB.size ?_)
          intro v2 w2 hown2 hgrow2 _
          have hB2 : Below w.heap.size w w2 := hB.grown hgrow2 hB.size (fun q hq => (hI.out.lt q hq).1)
          have HO2 := Lib.hid hown2
          clear hown2 hgrow2
          go_wp2_with (at_builtin; refine wpList_append_own _ rfl _ _ 66 rfl w.heap.size 5 i0 (.int .u8 0) 1 1 Tryd.underlying66 hi hz0 hz1 hz2 rfl (by decide) _ _ _ rfl (HO2.out.alloc _) ⟨w2.heap.size, 0, none⟩ 1 1 [.int .u8 58] rfl rfl ?c1 ?c2 ?c3 ?c4 ?c5 ?_)
          case c1 =>
            intro j u hj
            match j, hj with
            | 0, hj => simp at hj; subst hj; simp [Addr.add]
          case c2 => intro u hu; simp at hu; subst hu; rfl
          case c3 => have := HJ.out; have := HD.out; unfold maxLen; omega
          case c4 => have := HJ.out; have := HD.out; omega
          case c5 => have := hB2.size; simp; omega
          intro v3 w3 hown3 hgrow3 _
          have hB3 : Below w.heap.size w w3 := (hB2.alloc hB2.size _).grown hgrow3 (by have := hB2.size; simp; omega) (fun q hq => (HO2.out.lt q hq).1)
          have HO3 := Lib.hid hown3
          clear hown3 hgrow3
          have hcell3 : w3.cell? ⟨b, off + k, none⟩ = some (.string ss[k]) := by
            rw [hB3.cell (p := ⟨b, off + k, none⟩) hblt]; exact HC.out k hlt
          clear hcell
          go_wp2_with (at_builtin; refine Lib.wpList_append_own_string _ rfl _ _ 66 9 rfl w.heap.size 5 i0 Tryd.underlying66 Tryd.underlying9 hi hz0 hz1 hz2 _ _ _ rfl HO3.out ss[k] rfl (by have := HJ.out; have := HD.out; have := HZ.out; unfold maxLen; omega) (by have := HJ.out; have := HD.out; have := HZ.out; omega) hB3.size ?_)
          intro v4 w4 hown4 hgrow4 _
          have hB4 : Below w.heap.size w w4 := hB3.grown hgrow4 hB3.size (fun q hq => (HO3.out.lt q hq).1)
          have HO4 := Lib.hid hown4
          clear hown4 hgrow4
          go_wp2_with fail
          go_roundw
          case rel =>
            refine ⟨k + 1, by omega, by go_num, Lib.hid ?_, hB4⟩
            have h1 := HO4.out
            have h2 : (joinL (ss.take (k + 1))).length = (joinL (ss.take k)).length + (decB ss[k].size).size + 1 + ss[k].size := by
              rw [joinL_succ ss k hlt, HD.out, ← HZ.out]; simp [oneL]; omega
            have h3 : Lib.byteCells (joinL (ss.take (k + 1))) = Lib.byteCells (joinL (ss.take k)) ++ Lib.strCells (decB ss[k].size) ++ [.int .u8 58] ++ Lib.strCells ss[k] := by
              rw [joinL_succ ss k hlt]; simp [oneL, Lib.byteCells, Lib.strCells, decB]
            rw [h2, h3]
            simpa only [List.append_assoc, List.singleton_append] using h1
          case measure => simp [intOf]; omega
        · obtain rfl : k = ss.length := by omega
          have hconv := bytesConvOwn (l := joinL ss) (by have := hI.out; rwa [List.take_of_length_le (Nat.le_refl _)] at this)
          clear hI
          go_wp2_with fail
          go_ret
          exact ⟨rfl, hB⟩
theorem refjoined_any (v : Value) (ss : List ByteArray) (w : World) (h : StrsAt w v ss) (hl : ss.length ≤ maxLen) (hj : (joinL ss).length ≤ 1099511627776) (hn : capN ss ≤ 140737488355328) :
    Calls Tryd.prog 53 #[v] w fun e w' => e = .returned (.string (joinB ss)) ∧ Below w.heap.size w w' := by
  rcases h with ⟨rfl, a, cap, rfl⟩ | ⟨h0, b, off, cap, rfl, hc⟩
  · exact refjoined_empty a cap w
  · exact refjoined_full b off cap ss w h0 hl hj hn hc
theorem reflist_any (v : Value) (ss : List ByteArray) (w : World) (h : StrsAt w v ss) (hl : ss.length ≤ maxLen) (hj : (joinL ss).length ≤ 1099511627776) (hn : capN ss ≤ 140737488355328) :
    Calls Tryd.prog 40 #[v] w fun e w' => e = .returned (.string (sumB (joinB ss))) ∧ Below w.heap.size w w' := by
  have hs := joinB_size ss
  have hs2 : (joinB ss).size ≤ 140737488355328 := by omega
  clear hs
  go_enter Tryd.func40, Tryd.ntmps40
  go_wp2_with fail
  refine (refjoined_any v ss w h hl hj hn).mono ?_
  rintro e w1 ⟨rfl, hb1⟩
  go_wp2_with fail
  refine (refsum_any _ _ hs2).mono ?_
  rintro e w2 ⟨rfl, rfl⟩
  go_wp2_with fail
  go_ret
  exact ⟨rfl, hb1⟩
end Go.Proofs.YtbiekbppenccdaaDoor
