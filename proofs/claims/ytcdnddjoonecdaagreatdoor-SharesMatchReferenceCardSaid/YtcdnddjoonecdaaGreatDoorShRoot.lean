/-
  The root of a list of shares, of the document's own answers (layer 7).
-/
import Derived.Test.YtcdnddjoonecdaaGreatDoorShLeaves
set_option linter.unusedVariables false
set_option maxRecDepth 100000
namespace Go.Proofs.YtcdnddjoonecdaaGreatDoor
open Go.RowKit
open Fdp
def rootSh (l : List (Int × Int)) : ByteArray × Int := if decide (1 ≤ l.length ∧ l.length ≤ 16) && validsS l then (rootB (leavesS l), 0) else (⟨#[]⟩, 1)
def GivesSN (r : ByteArray × Int) (w : World) (e : Ending) (w' : World) : Prop := e = .returned (.tuple #[.string r.1, .int .i64 r.2]) ∧ Below w.heap.size w w'
theorem leafS_is (a : ByteArray) : isB (leafB a) = true := isB_sum _
theorem digs_leaves (l : List (Int × Int)) : digsB (leavesS l) = true := by
  have : ∀ s ∈ leavesS l, isB s = true := fun s hs => by
    unfold leavesS at hs
    obtain ⟨q, _, rfl⟩ := List.mem_map.1 hs
    exact leafS_is _
  unfold digsB
  exact List.all_eq_true.2 this
theorem rvalids_next {l : List (Int × Int)} {k : Nat} (h : k < l.length) (h1 : validsS (l.take k) = true) (h2 : validS l[k] = true) : validsS (l.take (k + 1)) = true := by
  unfold validsS at h1 ⊢
  rw [List.take_succ_eq_append_getElem h, List.all_append, h1]; simp [h2]
theorem rvalids_no {l : List (Int × Int)} {k : Nat} (h : k < l.length) (h2 : validS l[k] = false) : validsS l = false := by
  cases e : validsS l with
  | false => rfl
  | true =>
    unfold validsS at e
    rw [List.all_eq_true.1 e _ (List.getElem_mem h)] at h2; cases h2
set_option maxHeartbeats 1000000 in
theorem refrootS_any (a : Option Addr) (n cap : Nat) (l : List (Int × Int)) (w : World) (h : PtsAt w a n l) :
    Calls Tryz.prog 11 #[.slice a n cap] w (GivesSN (rootSh l) w) := by
  have HH := Lib.hid h
  have HL := Lib.hid h.len
  clear h
  have D0 := Lib.hid (Below.refl w.heap.size w)
  by_cases h1 : n < 1
  · have hr : Hid (rootSh l = (⟨#[]⟩, 1)) := Lib.hid (by unfold rootSh; rw [if_neg]; have := HL.out; simp; omega)
    go_enter Tryz.func11, Tryz.ntmps11
    go_wp2_with fail
    go_ret2
    exact ⟨by rw [hr.out]; rfl, D0.out⟩
  · by_cases h2 : 16 < n
    · have hr : Hid (rootSh l = (⟨#[]⟩, 1)) := Lib.hid (by unfold rootSh; rw [if_neg]; have := HL.out; simp; omega)
      go_enter Tryz.func11, Tryz.ntmps11
      go_wp2_with fail
      go_ret2
      exact ⟨by rw [hr.out]; rfl, D0.out⟩
    · go_enter Tryz.func11, Tryz.ntmps11
      go_wp2_with fail
      have hv0 : Hid (validsS (l.take 0) = true) := Lib.hid (by simp [validsS])
      go_loopw [4] (fun ii wr => ∃ k : Nat, k ≤ n ∧ ii = .int .i64 (k : Int) ∧ Hid (validsS (l.take k) = true) ∧ Hid (Below w.heap.size w wr)) (fun ii _ => n - (intOf ii).toNat)
      case atStart => exact ⟨0, by omega, rfl, hv0, D0⟩
      case round =>
        clear hv0 D0
        obtain ⟨k, hk, rfl, hv, hD⟩ := hrel
        by_cases hkn : k < n
        · have hkl : k < l.length := by rw [← HL.out]; exact hkn
          obtain ⟨b, off, rfl, -⟩ := HH.out.cells (by omega)
          obtain ⟨hc1, hc2⟩ := (HH.out.bel hD.out).cell hkl
          obtain ⟨x, hx⟩ : ∃ x, x = l[k].1 := ⟨_, rfl⟩
          obtain ⟨y, hy⟩ : ∃ y, y = l[k].2 := ⟨_, rfl⟩
          have HLK : Hid (l[k] = (x, y)) := Lib.hid (Prod.ext hx.symm hy.symm)
          rw [← hx] at hc1
          rw [← hy] at hc2
          have b1 : (0 : Int) ≤ (k : Int) := by omega
          have b2 : (k : Int) < (n : Int) := by omega
          clear hx hy
          cases hval : validS (x, y) with
          | false =>
            have hr : Hid (rootSh l = (⟨#[]⟩, 1)) := Lib.hid (by unfold rootSh; rw [rvalids_no hkl (by rw [HLK.out]; exact hval)]; simp)
            have HVAL := Lib.hid hval
            clear hval
            go_wp2_with fail
            refine (refvalidS_any x y _).mono ?_
            rintro e w3 ⟨rfl, hb⟩
            rw [HVAL.out]
            have D3 := Lib.hid (hD.out.trans (hb.mono hD.out.size))
            clear hb hD
            go_wp2_with fail
            go_ret2
            exact ⟨by rw [hr.out]; rfl, D3.out⟩
          | true =>
            have hv2 := Lib.hid (rvalids_next hkl hv.out (by rw [HLK.out]; exact hval))
            have HVAL := Lib.hid hval
            clear hval
            go_wp2_with fail
            refine (refvalidS_any x y _).mono ?_
            rintro e w3 ⟨rfl, hb⟩
            rw [HVAL.out]
            have D3 := Lib.hid (hD.out.trans (hb.mono hD.out.size))
            clear hb hD
            go_wp2_with fail
            go_roundw
            case rel => exact ⟨k + 1, by omega, by go_num, hv2, D3⟩
            case measure => simp [intOf]; omega
        · obtain rfl : k = n := by omega
          have hvl : Hid (validsS l = true) := Lib.hid (by have := hv.out; rwa [List.take_of_length_le (by rw [← HL.out]; exact Nat.le_refl _)] at this)
          have hr : Hid (rootSh l = (rootB (leavesS l), 0)) := Lib.hid (by unfold rootSh; rw [hvl.out, if_pos]; have := HL.out; simp; omega)
          have hll : Hid ((leavesS l).length = k) := Lib.hid (by unfold leavesS; rw [List.length_map]; exact HL.out.symm)
          go_wp2_with fail
          refine (refleaves_any a k cap l _ (HH.out.bel hD.out) (by omega) hvl.out).mono ?_
          rintro e w3 ⟨v, rfl, hO, hb⟩
          have D3 := Lib.hid (hD.out.trans (hb.mono hD.out.size))
          have O3 := Lib.hid (hO.ok (fun s hs => Nat.le_trans (digsB_small (digs_leaves l) s hs) (by unfold maxLen; omega)))
          clear hb hD hO
          go_wp2_with fail
          refine (refRoot_ok v (leavesS l) _ O3.out (by rw [hll.out]; omega) (digs_leaves l)).mono ?_
          rintro e w4 ⟨rfl, hb⟩
          have D4 := Lib.hid (D3.out.trans (hb.mono D3.out.size))
          clear hb D3
          go_wp2_with fail
          go_ret2
          exact ⟨by rw [hr.out]; rfl, D4.out⟩
end Go.Proofs.YtcdnddjoonecdaaGreatDoor
