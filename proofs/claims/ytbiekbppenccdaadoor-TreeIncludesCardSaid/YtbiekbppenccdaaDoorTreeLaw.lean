/-
  The helpers of the statements of layer 2: rooted, few, good, and the check of the chapter's examples, which returns true.
-/
import Derived.Test.YtbiekbppenccdaaDoorTreeHd
set_option linter.unusedVariables false
namespace Go.Proofs.YtbiekbppenccdaaDoor
open Go.RowKit
theorem rootS_no {ss : List ByteArray} (h : ¬ digsB ss = true) : rootS ss = ⟨#[]⟩ := by rw [rootS, if_neg h]
theorem rooted_any (v : Value) (ss : List ByteArray) (w : World) (h : StrsOk w v ss) (hl : ss.length ≤ 1099511627776) (ht : TabOk w) :
    Calls Tryd.prog 25 #[v] w fun e w' => e = .returned (.string (rootS ss)) ∧ Below w.heap.size w w' := by
  by_cases hd : digsB ss = true
  · have e1 : errN (digsB ss) = 0 := by rw [hd]; rfl
    have H := Lib.hid h
    have HT := Lib.hid ht
    have HE := Lib.hid e1
    clear h ht e1 hd
    go_enter Tryd.func25, Tryd.ntmps25
    go_wp2_with fail
    refine (pRoot_any v ss _ H.out hl HT.out).mono ?_
    rintro e w1 ⟨rfl, hb1⟩
    rw [HE.out]
    go_wp2_with fail
    go_ret
    exact ⟨rfl, hb1⟩
  · have e1 : errN (digsB ss) = 1 := by rw [errN, if_neg hd]
    have HR := Lib.hid (rootS_no hd)
    have H := Lib.hid h
    have HT := Lib.hid ht
    have HE := Lib.hid e1
    clear h ht e1 hd
    go_enter Tryd.func25, Tryd.ntmps25
    go_wp2_with fail
    refine (pRoot_any v ss _ H.out hl HT.out).mono ?_
    rintro e w1 ⟨rfl, hb1⟩
    rw [HE.out]
    go_wp2_with fail
    go_ret
    exact ⟨by rw [HR.out]; rfl, hb1⟩
/-- at most 20 texts of at most 100 bytes -/
def fewT (ss : List ByteArray) : Bool := decide (ss.length ≤ 20) && fewB ss 100
theorem fewT_any (v : Value) (ss : List ByteArray) (w : World) (h : StrsOk w v ss) :
    Calls Tryd.prog 10 #[v] w fun e w' => e = .returned (.bool (fewT ss)) ∧ w = w' := by
  obtain ⟨a, cap, rfl, hc1, hc2⟩ := h.room
  have H := Lib.hid h
  clear h
  by_cases h20 : ss.length ≤ 20
  · have t1 : decide ((ss.length : Int) ≤ 20) = true := by simp; omega
    have e : fewT ss = fewB ss 100 := by simp [fewT, h20]
    have E := Lib.hid e
    clear e
    go_enter Tryd.func10, Tryd.ntmps10
    go_wp2_with fail
    refine (few_any _ ss 100 _ H.out.at_ H.out.len H.out.sizes).mono ?_
    rintro e w1 ⟨rfl, rfl⟩
    rw [← E.out]
    go_wp2_with fail
    go_ret
    exact ⟨rfl, rfl⟩
  · have t1 : decide ((ss.length : Int) ≤ 20) = false := by simp; omega
    have e : fewT ss = false := by simp [fewT, h20]
    have E := Lib.hid e
    clear e
    go_enter Tryd.func10, Tryd.ntmps10
    go_wp2_with fail
    go_ret
    exact ⟨by rw [E.out]; rfl, rfl⟩
/-- at most 20 texts, all of which are digests -/
def goodT (ss : List ByteArray) : Bool := digsB ss && fewT ss
theorem good_empty (a : Option Addr) (cap : Nat) (w : World) (h : StrsOk w (.slice a 0 cap) []) :
    Calls Tryd.prog 24 #[.slice a 0 cap] w fun e w' => e = .returned (.bool (goodT [])) ∧ w = w' := by
  have H := Lib.hid h
  clear h
  go_enter Tryd.func24, Tryd.ntmps24
  go_wp2_with fail
  refine wp_loop_rounds 1 ?_
  rw [rounds_succ]
  go_wp2_with fail
  refine (fewT_any _ [] _ H.out).mono ?_
  rintro e w1 ⟨rfl, rfl⟩
  go_wp2_with fail
  go_ret
  exact ⟨rfl, rfl⟩
theorem good_full (b off cap : Nat) (ss : List ByteArray) (w : World) (h0 : 0 < ss.length) (hok : StrsOk w (.slice (some ⟨b, off, none⟩) ss.length cap) ss) (hc : ∀ j (hj : j < ss.length), w.cell? ⟨b, off + j, none⟩ = some (.string ss[j])) :
    Calls Tryd.prog 24 #[.slice (some ⟨b, off, none⟩) ss.length cap] w fun e w' => e = .returned (.bool (goodT ss)) ∧ w = w' := by
  have hl := hok.len
  unfold maxLen at hl
  have H := Lib.hid hok
  have HC := Lib.hid hc
  have HS := Lib.hid hok.sizes
  clear hc hok
  go_enter Tryd.func24, Tryd.ntmps24
  go_wp2_with fail
  go_loop [3] (fun i => ∃ k : Nat, k ≤ ss.length ∧ i = .int .i64 k ∧ Hid (∀ j (hj : j < ss.length), j < k → isB ss[j] = true)) (fun i => ss.length - (intOf i).toNat)
  case atStart => exact ⟨0, by omega, rfl, (show _ from fun j _ h => absurd h (by omega))⟩
  case round =>
    obtain ⟨k, hk, rfl, hx⟩ := hrel
    by_cases hlt : k < ss.length
    · have hcell := HC.out k hlt
      have hsz : ss[k].size ≤ maxLen := HS.out _ (List.getElem_mem hlt)
      have HSZ := Lib.hid hsz
      clear hsz
      by_cases hm : isB ss[k] = true
      · have HM := Lib.hid hm
        clear hm
        go_wp2_with fail
        refine (is_any ss[k] _ HSZ.out).mono ?_
        rintro e w1 ⟨rfl, rfl⟩
        rw [HM.out]
        go_wp2_with fail
        go_round
        case rel =>
          refine ⟨k + 1, by omega, by go_num, (show _ from fun j hj h => ?_)⟩
          by_cases e : j = k
          · subst e; exact HM.out
          · exact hx.out j hj (by omega)
        case measure => simp [intOf]; omega
      · have hf : isB ss[k] = false := by simpa using hm
        clear hm
        have HF := Lib.hid hf
        have hb : goodT ss = false := by
          have : digsB ss = false := by
            unfold digsB
            rw [List.all_eq_false]
            exact ⟨_, List.getElem_mem hlt, by rw [hf]; simp⟩
          simp [goodT, this]
        have HB := Lib.hid hb
        clear hb hf
        go_wp2_with fail
        refine (is_any ss[k] _ HSZ.out).mono ?_
        rintro e w1 ⟨rfl, rfl⟩
        rw [HF.out]
        go_wp2_with fail
        go_ret
        exact ⟨by rw [HB.out]; rfl, rfl⟩
    · obtain rfl : k = ss.length := by omega
      have hb : fewT ss = goodT ss := by
        have : digsB ss = true := by
          unfold digsB
          rw [List.all_eq_true]
          intro s hs
          obtain ⟨j, hj, rfl⟩ := List.getElem_of_mem hs
          exact hx.out j hj hj
        simp [goodT, this]
      have HB := Lib.hid hb
      clear hb
      go_wp2_with fail
      refine (fewT_any _ ss _ H.out).mono ?_
      rintro e w1 ⟨rfl, rfl⟩
      rw [HB.out]
      go_wp2_with fail
      go_ret
      exact ⟨rfl, rfl⟩
theorem good_any (v : Value) (ss : List ByteArray) (w : World) (h : StrsOk w v ss) :
    Calls Tryd.prog 24 #[v] w fun e w' => e = .returned (.bool (goodT ss)) ∧ w = w' := by
  by_cases h0 : 0 < ss.length
  · obtain ⟨b, off, cap, rfl, h1, h3, hc⟩ := h.open_ h0
    exact good_full b off cap ss w h0 h hc
  · obtain rfl : ss = [] := List.eq_nil_of_length_eq_zero (by omega)
    obtain ⟨a, cap, rfl, _, _⟩ := h.room
    exact good_empty a cap w h
end Go.Proofs.YtbiekbppenccdaaDoor
