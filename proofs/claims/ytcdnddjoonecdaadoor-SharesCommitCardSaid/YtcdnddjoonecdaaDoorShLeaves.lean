/-
  The leaves of a list of shares, of the document's own answers (layer 7).
-/
import Derived.Test.YtcdnddjoonecdaaDoorShText
import Derived.Test.YtcdnddjoonecdaaDoorTmC
set_option linter.unusedVariables false
set_option maxRecDepth 100000
namespace Go.Proofs.YtcdnddjoonecdaaDoor
open Go.RowKit
open Fdp
def leavesS (l : List (Int × Int)) : List ByteArray := l.map fun q => leafB (textS q)
theorem leavesS_next {l : List (Int × Int)} {k : Nat} (h : k < l.length) : leavesS (l.take (k + 1)) = leavesS (l.take k) ++ [leafB (textS l[k])] := by
  unfold leavesS; rw [List.take_succ_eq_append_getElem h, List.map_append]; rfl
set_option maxHeartbeats 1000000 in
theorem refleaves_any (a : Option Addr) (n cap : Nat) (l : List (Int × Int)) (w : World) (h : PtsAt w a n l) (hn : n ≤ 16) (hv : validsS l = true) :
    Calls Tryd.prog 9 #[.slice a n cap] w fun e w' => ∃ v, e = .returned v ∧ OwnS w.heap.size w' v (leavesS l) ∧ Below w.heap.size w w' := by
  have HH := Lib.hid h
  have HL := Lib.hid h.len
  have HV := Lib.hid (validsS_iff.1 hv)
  clear h hv
  have D0 := Lib.hid (Below.refl w.heap.size w)
  have hO0 : Hid (OwnS w.heap.size w (.slice none 0 0) (leavesS (l.take 0))) := Lib.hid (OwnS.nil _ _)
  go_enter Tryd.func9, Tryd.ntmps9
  go_wp2_with fail
  go_loopw [3, 4] (fun v ii wr => ∃ k : Nat, k ≤ n ∧ ii = .int .i64 (k : Int) ∧ Hid (OwnS w.heap.size wr v (leavesS (l.take k))) ∧ Hid (Below w.heap.size w wr)) (fun _ ii _ => n - (intOf ii).toNat)
  case atStart => exact ⟨0, by omega, rfl, hO0, D0⟩
  case round =>
    clear hO0 D0
    obtain ⟨k, hk, rfl, hO, hD⟩ := hrel
    by_cases hkn : k < n
    · have hkl : k < l.length := by rw [← HL.out]; exact hkn
      obtain ⟨b, off, rfl, -⟩ := HH.out.cells (by omega)
      obtain ⟨hc1, hc2⟩ := (HH.out.bel hD.out).cell hkl
      have hvk := HV.out _ (List.getElem_mem hkl)
      obtain ⟨x, hx⟩ : ∃ x : Nat, l[k].1 = x := ⟨l[k].1.toNat, by omega⟩
      obtain ⟨y, hy⟩ : ∃ y : Nat, l[k].2 = y := ⟨l[k].2.toNat, by have := hvk.2.1; omega⟩
      have hx16 : x ≤ 16 := by omega
      have hyP : y < 2147483647 := by have := hvk.2.2; omega
      have HLK : Hid (l[k] = ((x : Int), (y : Int))) := Lib.hid (Prod.ext hx hy)
      rw [hx] at hc1
      rw [hy] at hc2
      have cT : Hid (∀ w : World, Calls Tryd.prog 13 #[.agg #[.int .i64 (x : Int), .int .i64 (y : Int)]] w fun e w' => e = .returned (.string (textS (x, y))) ∧ Below w.heap.size w w') := Lib.hid (fun w => reftextS_any x y w hx16 hyP)
      have hts : (textS ((x : Int), (y : Int))).size ≤ 2147483648 := by have := textS_size hx16 hyP; omega
      have hN : Hid (leavesS (l.take (k + 1)) = leavesS (l.take k) ++ [leafB (textS ((x : Int), (y : Int)))]) := Lib.hid (by rw [leavesS_next hkl, HLK.out])
      obtain ⟨T, hT⟩ : ∃ T, T = textS ((x : Int), (y : Int)) := ⟨_, rfl⟩
      rw [← hT] at cT hts hN
      obtain ⟨F, hF⟩ : ∃ F, F = leafB T := ⟨_, rfl⟩
      have cF : Hid (∀ w : World, Calls Tryd.prog 17 #[.string T] w fun e w' => e = .returned (.string F) ∧ Below w.heap.size w w') := Lib.hid (fun w => by rw [hF]; exact refleaf_any T w hts)
      rw [← hF] at hN
      have hl1 : Hid ((leavesS (l.take k)).length + [F].length ≤ 1099511627776) := Lib.hid (by simp [leavesS]; omega)
      have b1 : (0 : Int) ≤ (k : Int) := by omega
      have b2 : (k : Int) < (n : Int) := by omega
      clear hx hy hvk hT hF hts
      go_wp2_with fail
      refine (cT.out _).mono ?_
      rintro e w3 ⟨rfl, hb⟩
      have D3 := Lib.hid (hD.out.trans (hb.mono hD.out.size))
      have O3 := Lib.hid (hO.out.below hb)
      clear hb hD hO
      go_wp2_with fail
      refine (cF.out _).mono ?_
      rintro e w4 ⟨rfl, hb⟩
      have D4 := Lib.hid (D3.out.trans (hb.mono D3.out.size))
      have O4 := Lib.hid (O3.out.below hb)
      clear hb D3 O3
      have D5 := Lib.hid (D4.out.alloc D4.out.size (Obj.cells #[Value.string F] 9))
      have O5 := Lib.hid (O4.out.below ((Below.refl _ w4).alloc (Nat.le_refl _) (Obj.cells #[Value.string F] 9)))
      clear D4 O4
      go_wp2_with (at_builtin; refine wpList_cat _ rfl _ _ rfl w.heap.size 0 _ _ (leavesS (l.take k)) [F] rfl rfl O5.out (own_lit w4 F) hl1.out D5.out.size ?_)
      intro v6 w6 hO6 hg6
      have O6 : Hid (OwnS w.heap.size w6 v6 (leavesS (l.take (k + 1)))) := Lib.hid (by rw [hN.out]; exact hO6)
      have D6 := Lib.hid (below_app D5.out D5.out.size O5.out hg6)
      clear hO6 hg6 O5 D5
      go_wp2_with fail
      go_roundw
      case rel => exact ⟨k + 1, by omega, by go_num, O6, D6⟩
      case measure => simp [intOf]; omega
    · obtain rfl : k = n := by omega
      go_wp2_with fail
      go_ret
      exact ⟨_, rfl, by have := hO.out; rwa [List.take_of_length_le (by rw [← HL.out]; exact Nat.le_refl _)] at this, hD.out⟩
end Go.Proofs.YtcdnddjoonecdaaDoor
