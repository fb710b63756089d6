/-
  The program's Eval (layer 6).
-/
import Derived.Test.YtcdnddjoonecdaaFdFns
set_option linter.unusedVariables false
set_option maxRecDepth 100000
namespace Go.Proofs.Ytcdnddjoonecdaa
open Go.RowKit
open Fdp
/-- the value of a polynomial, as an element -/
def evF (x : Int) (l : List Int) : Int := ev x l % 2147483647
theorem evF_range (x : Int) (l : List Int) : 0 ≤ evF x l ∧ evF x l < 2147483647 := by
  unfold evF; generalize ev x l = y; omega
theorem evF_E (x : Int) (l : List Int) : E 2147483647 (evF x l) (ev x l) := E.emod _
def evalE (l : List Int) (x : Int) : Int × Int := if decide (l.length ≤ 16) && allE l && okE x then (evF x l, 0) else (0, 1)
theorem quiet_same {f : FuncId} {args : Array Value} {w : World} {n : Nat} {v : Value} (h : Calls Try.prog f args (w.drewN n) fun e w' => e = .returned v ∧ w.drewN n = w') :
    Calls Try.prog f args (w.drewN n) fun e w'' => e = .returned v ∧ ∃ m, w'' = w.drewN m := Calls.quiet_of_same (h.mono fun _ _ h => ⟨h.1, h.2.symm⟩)
theorem below_drewN {B : Nat} {a w : World} (h : Below B a w) (n : Nat) : Below B a (w.drewN n) := ⟨h.os, h.tape, h.output, h.size, h.block⟩
/-- Horner's rule, so far -/
def Horn (l : List Int) (x : Int) (k : Nat) (v : Int) : Prop := E 2147483647 v (ev x (l.drop (l.length - k)))
theorem Horn.start (l : List Int) (x : Int) : Horn l x 0 0 := by
  unfold Horn; rw [Nat.sub_zero, List.drop_length, ev_nil]; exact E.refl 0
theorem Horn.step {l : List Int} {x v : Int} {k j : Nat} (h : Horn l x k v) (hk : k < l.length) (hj : j = l.length - 1 - k) (hjl : j < l.length) : Horn l x (k + 1) (sumF (mulF v x) l[j]) := by
  unfold Horn at h ⊢
  have e : l.length - (k + 1) = j := by omega
  have e2 : l.length - k = j + 1 := by omega
  rw [e, List.drop_eq_getElem_cons hjl, ev_cons]
  rw [e2] at h
  refine (sumF_E _ _).trans ((((mulF_E v x).trans (h.mul (E.refl x))).add (E.refl _)).trans (E.of ?_))
  grind
theorem Horn.done {l : List Int} {x v : Int} (h : Horn l x l.length v) (hv : 0 ≤ v ∧ v < 2147483647) : v = evF x l := by
  unfold Horn at h
  rw [Nat.sub_self, List.drop_zero] at h
  exact (h.trans (evF_E x l).symm).eq hv.1 hv.2 (evF_range x l).1 (evF_range x l).2
set_option maxHeartbeats 1000000 in
theorem fEval_any (a : Option Addr) (n cap : Nat) (l : List Int) (x : Int) (w : World) (h : IntsAt w a n l) (hn : n ≤ maxLen) :
    Calls Try.prog 25 #[.slice a n cap, .int .i64 x] w (GivesN (evalE l x) w) := by
  unfold evalE
  have hn' : n ≤ 9223372036854775807 := by unfold maxLen at hn; omega
  have HN := Lib.hid hn
  have HH := Lib.hid h
  have hlen := h.len
  clear h hn
  by_cases h16 : n ≤ 16
  · have g16 : ¬ 16 < n := by omega
    by_cases hA : allE l = true
    · have HA := Lib.hid hA
      by_cases hX : okE x = true
      · rw [if_pos (by rw [hA, hX]; simp; omega)]
        have HAX : Hid (allE [x] = true) := Lib.hid (by rw [all_one]; exact hX)
        have HO := Lib.hid (okE_iff.1 hX)
        have HL := Lib.hid hlen
        clear hA hX hlen
        have D1 : Hid (Below w.heap.size w (w.alloc (Obj.cells #[Value.int .i64 x] 3))) := Lib.hid ((Below.refl _ _).alloc (Nat.le_refl _) _)
        go_enter Try.func25, Try.ntmps25
        go_wp2_with fail
        refine (elements_yes _ _ _ l _ HH.out HN.out HA.out).mono ?_
        rintro e w' ⟨rfl, rfl⟩
        go_wp2_with fail
        refine (elements_yes _ _ _ [x] _ (ints_one _ _ (by simp)) (max_small (by decide)) HAX.out).mono ?_
        rintro e w' ⟨rfl, rfl⟩
        go_wp2_with fail
        go_loopw [6, 24] (fun v i wr => ∃ (q : Int) (k : Nat), k ≤ n ∧ i = .int .i64 (k : Int) ∧ v = .int .i64 q ∧ Hid (0 ≤ q ∧ q < 2147483647) ∧ Hid (Horn l x k q) ∧ Hid (Below w.heap.size w wr)) (fun _ i _ => n - (intOf i).toNat)
        case atStart => exact ⟨0, 0, by omega, rfl, rfl, Lib.hid (by omega), Lib.hid (Horn.start l x), D1⟩
        case round =>
          obtain ⟨q, k, hk, rfl, rfl, hq, hh, hD⟩ := hrel
          by_cases hlt : k < n
          · obtain ⟨b, off, rfl, hc⟩ := (HH.out.bel hD.out).cells (by omega)
            obtain ⟨j, hj⟩ : ∃ j, j = n - 1 - k := ⟨_, rfl⟩
            have hjn : j < n := by omega
            have hjl : j < l.length := by have := HL.out; omega
            have hcell := hc j hjl
            clear hc
            obtain ⟨y, hy⟩ : ∃ y, y = l[j] := ⟨_, rfl⟩
            rw [← hy] at hcell
            have hy2 : Hid (0 ≤ y ∧ y < 2147483647) := Lib.hid (by rw [hy]; exact allE_iff.1 HA.out _ (List.getElem_mem hjl))
            have hh2 : Hid (Horn l x (k + 1) (sumF (mulF q x) y)) := Lib.hid (by rw [hy]; exact hh.out.step (by have := HL.out; omega) (by have := HL.out; omega) hjl)
            have HY := Lib.hid hy
            clear hy
            have e1 : IntKind.i64.wrap ((n : Int) - 1) = (n : Int) - 1 := IntWalk.i64_in _ (by omega)
            have e2 : IntKind.i64.wrap ((n : Int) - 1 - (k : Int)) = (j : Int) := by rw [IntWalk.i64_in _ (by omega)]; omega
            have HJ := Lib.hid hj
            clear hj
            go_wp2_with fail
            go_quiet ((first | (go_at_call 30; exact quiet_same (product_any _ _ _ hq.out HO.out)) | (go_at_call 28; exact quiet_same (fsum_any _ _ _ (mulF_range _ _) hy2.out))))
            go_wp2_with fail
            go_roundw
            case rel => exact ⟨_, k + 1, by omega, by go_num, rfl, Lib.hid (sumF_range _ _), hh2, Lib.hid (below_drewN hD.out _)⟩
            case measure => simp [intOf]; omega
          · obtain rfl : k = n := by omega
            have e : q = evF x l := (show Horn l x l.length q from by rw [← HL.out]; exact hh.out).done hq.out
            subst e
            go_wp2_with fail
            go_ret2
            exact ⟨rfl, hD.out⟩
      · rw [if_neg (by rw [Bool.not_eq_true] at hX; rw [hX]; simp)]
        have HAX : Hid (allE [x] = false) := Lib.hid (by rw [all_one]; simpa using hX)
        clear hA hX hlen
        go_enter Try.func25, Try.ntmps25
        go_wp2_with fail
        refine (elements_yes _ _ _ l _ HH.out HN.out HA.out).mono ?_
        rintro e w' ⟨rfl, rfl⟩
        go_wp2_with fail
        refine (elements_no _ _ _ [x] _ (ints_one _ _ (by simp)) (max_small (by decide)) HAX.out).mono ?_
        rintro e w' ⟨rfl, rfl⟩
        go_wp2_with fail
        go_ret2
        exact ⟨rfl, (Below.refl _ _).alloc (Nat.le_refl _) _⟩
    · rw [if_neg (by rw [Bool.not_eq_true] at hA; rw [hA]; simp)]
      have HA : Hid (allE l = false) := Lib.hid (by simpa using hA)
      clear hA hlen
      go_enter Try.func25, Try.ntmps25
      go_wp2_with (first | (go_at_call 27; refine (elements_no _ _ _ l _ HH.out HN.out HA.out).mono ?_; rintro e w' ⟨rfl, rfl⟩))
      go_ret2
      exact ⟨rfl, Below.refl _ _⟩
  · rw [if_neg (by rw [← hlen]; simp; omega)]
    have g16 : 16 < n := by omega
    clear h16 hlen
    go_enter Try.func25, Try.ntmps25
    go_wp2_with fail
    go_ret2
    exact ⟨rfl, Below.refl _ _⟩
end Go.Proofs.Ytcdnddjoonecdaa
