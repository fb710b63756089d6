/-
  The document's own answers: Add, Mul, Inverse, Eval (layer 6).
-/
import Derived.Test.YtalhcfffnggpjaaFdRef
set_option linter.unusedVariables false
set_option maxRecDepth 100000
namespace Go.Proofs.Ytalhcfffnggpjaa
open Go.RowKit
open Fdp
theorem refAdd_any (a b : Int) (w : World) : Calls Try.prog 12 #[.int .i64 a, .int .i64 b] w (GivesN (addE a b) w) := by
  unfold addE
  cases h1 : okE a with
  | false =>
    rw [if_neg (by simp)]
    have H1 := Lib.hid h1
    clear h1
    go_enter Try.func12, Try.ntmps12
    go_wp2_with fail
    refine (refin_no _ _ H1.out).mono ?_
    rintro e w' ⟨rfl, rfl⟩
    go_wp2_with fail
    go_ret2
    exact ⟨rfl, Below.refl _ _⟩
  | true =>
    have H1 := Lib.hid h1
    clear h1
    cases h2 : okE b with
    | false =>
      rw [if_neg (by simp)]
      have H2 := Lib.hid h2
      clear h2
      go_enter Try.func12, Try.ntmps12
      go_wp2_with fail
      refine (refin_yes _ _ H1.out).mono ?_
      rintro e w' ⟨rfl, rfl⟩
      go_wp2_with fail
      refine (refin_no _ _ H2.out).mono ?_
      rintro e w' ⟨rfl, rfl⟩
      go_wp2_with fail
      go_ret2
      exact ⟨rfl, Below.refl _ _⟩
    | true =>
      rw [if_pos (by simp)]
      have H2 := Lib.hid h2
      clear h2
      have ha := okE_iff.1 H1.out
      have hb := okE_iff.1 H2.out
      have e1 : IntKind.i64.wrap (a + b) = a + b := IntWalk.i64_in _ (by omega)
      have e2 : (a + b).tmod 2147483647 = sumF a b := by rw [Int.tmod_eq_emod_of_nonneg (by omega)]; rfl
      have e3 : IntKind.i64.wrap (sumF a b) = sumF a b := IntWalk.i64_in _ (by have := sumF_range a b; omega)
      clear ha hb
      go_enter Try.func12, Try.ntmps12
      go_wp2_with fail
      refine (refin_yes _ _ H1.out).mono ?_
      rintro e w' ⟨rfl, rfl⟩
      go_wp2_with fail
      refine (refin_yes _ _ H2.out).mono ?_
      rintro e w' ⟨rfl, rfl⟩
      go_wp2_with fail
      go_ret2
      exact ⟨rfl, Below.refl _ _⟩
theorem refMul_any (a b : Int) (w : World) : Calls Try.prog 14 #[.int .i64 a, .int .i64 b] w (GivesN (mulE a b) w) := by
  unfold mulE
  cases h1 : okE a with
  | false =>
    rw [if_neg (by simp)]
    have H1 := Lib.hid h1
    clear h1
    go_enter Try.func14, Try.ntmps14
    go_wp2_with fail
    refine (refin_no _ _ H1.out).mono ?_
    rintro e w' ⟨rfl, rfl⟩
    go_wp2_with fail
    go_ret2
    exact ⟨rfl, Below.refl _ _⟩
  | true =>
    have H1 := Lib.hid h1
    clear h1
    cases h2 : okE b with
    | false =>
      rw [if_neg (by simp)]
      have H2 := Lib.hid h2
      clear h2
      go_enter Try.func14, Try.ntmps14
      go_wp2_with fail
      refine (refin_yes _ _ H1.out).mono ?_
      rintro e w' ⟨rfl, rfl⟩
      go_wp2_with fail
      refine (refin_no _ _ H2.out).mono ?_
      rintro e w' ⟨rfl, rfl⟩
      go_wp2_with fail
      go_ret2
      exact ⟨rfl, Below.refl _ _⟩
    | true =>
      rw [if_pos (by simp)]
      have H2 := Lib.hid h2
      clear h2
      go_enter Try.func14, Try.ntmps14
      go_wp2_with fail
      refine (refin_yes _ _ H1.out).mono ?_
      rintro e w' ⟨rfl, rfl⟩
      go_wp2_with fail
      refine (refin_yes _ _ H2.out).mono ?_
      rintro e w' ⟨rfl, rfl⟩
      go_wp2_with fail
      refine (refprod_any _ _ _ (okE_iff.1 H1.out) (okE_iff.1 H2.out)).mono ?_
      rintro e w' ⟨rfl, rfl⟩
      go_wp2_with fail
      go_ret2
      exact ⟨rfl, Below.refl _ _⟩
theorem refInverse_any (a : Int) (w : World) : Calls Try.prog 16 #[.int .i64 a] w (GivesN (invE a) w) := by
  unfold invE
  cases h1 : okE a with
  | false =>
    rw [if_neg (by simp)]
    have H1 := Lib.hid h1
    clear h1
    go_enter Try.func16, Try.ntmps16
    go_wp2_with fail
    refine (refin_no _ _ H1.out).mono ?_
    rintro e w' ⟨rfl, rfl⟩
    go_wp2_with fail
    go_ret2
    exact ⟨rfl, Below.refl _ _⟩
  | true =>
    rw [if_pos rfl]
    have H1 := Lib.hid h1
    clear h1
    by_cases h0 : a = 0
    · rw [if_pos h0]
      have e0 : (a == 0) = true := by rw [h0]; rfl
      clear h0
      go_enter Try.func16, Try.ntmps16
      go_wp2_with fail
      refine (refin_yes _ _ H1.out).mono ?_
      rintro e w' ⟨rfl, rfl⟩
      go_wp2_with fail
      go_ret2
      exact ⟨rfl, Below.refl _ _⟩
    · rw [if_neg h0]
      have e0 : (a == 0) = false := by simpa using h0
      clear h0
      go_enter Try.func16, Try.ntmps16
      go_wp2_with fail
      refine (refin_yes _ _ H1.out).mono ?_
      rintro e w' ⟨rfl, rfl⟩
      go_wp2_with fail
      refine (refinv_any _ _ (okE_iff.1 H1.out)).mono ?_
      rintro e w' ⟨rfl, rfl⟩
      go_wp2_with fail
      go_ret2
      exact ⟨rfl, Below.refl _ _⟩
theorem ev_snoc (x c : Int) : ∀ l : List Int, ev x (l ++ [c]) = ev x l + c * x ^ l.length
  | [] => by simp [ev]
  | d :: t => by
    rw [List.cons_append, ev_cons, ev_snoc x c t, ev_cons, List.length_cons, Int.pow_succ]
    grind
/-- the sum of the first so many values -/
def Sums (l : List Int) (x : Int) (k : Nat) (v : Int) : Prop := E 2147483647 v (ev x (l.take k))
theorem Sums.start (l : List Int) (x : Int) : Sums l x 0 0 := by unfold Sums; rw [List.take_zero, ev_nil]; exact E.refl 0
theorem Sums.step {l : List Int} {x v : Int} {k : Nat} (hx : 0 ≤ x) (h : Sums l x k v) (hk : k < l.length) : Sums l x (k + 1) (sumF v (mulF l[k] (powF x k))) := by
  unfold Sums at h ⊢
  rw [List.take_succ_eq_append_getElem hk, ev_snoc, List.length_take, Nat.min_eq_left (by omega)]
  exact (sumF_E _ _).trans (h.add ((mulF_E _ _).trans ((E.refl _).mul (powF_E hx k))))
theorem Sums.done {l : List Int} {x v : Int} (h : Sums l x l.length v) (hv : 0 ≤ v ∧ v < 2147483647) : v = evF x l := by
  unfold Sums at h
  rw [List.take_length] at h
  exact (h.trans (evF_E x l).symm).eq hv.1 hv.2 (evF_range x l).1 (evF_range x l).2
theorem refall_yes (a : Option Addr) (n cap : Nat) (l : List Int) (w : World) (h : IntsAt w a n l) (hn : n ≤ maxLen) (hb : allE l = true) :
    Calls Try.prog 33 #[.slice a n cap] w fun e w' => e = .returned (.bool true) ∧ w = w' := by
  rw [← hb]; exact refall_any a n cap l w h hn
theorem refall_no (a : Option Addr) (n cap : Nat) (l : List Int) (w : World) (h : IntsAt w a n l) (hn : n ≤ maxLen) (hb : allE l = false) :
    Calls Try.prog 33 #[.slice a n cap] w fun e w' => e = .returned (.bool false) ∧ w = w' := by
  rw [← hb]; exact refall_any a n cap l w h hn
set_option maxHeartbeats 1000000 in
theorem refEval_any (a : Option Addr) (n cap : Nat) (l : List Int) (x : Int) (w : World) (h : IntsAt w a n l) (hn : n ≤ maxLen) :
    Calls Try.prog 18 #[.slice a n cap, .int .i64 x] w (GivesN (evalE l x) w) := by
  unfold evalE
  have hn' : n ≤ 9223372036854775807 := by unfold maxLen at hn; omega
  have HN := Lib.hid hn
  have HH := Lib.hid h
  have hlen := h.len
  clear h hn
  by_cases h16 : n ≤ 16
  · have g16 : ¬ 16 < n := by omega
    by_cases hA : allE l = true
    · have HA := Lib.hid hA
      by_cases hX : okE x = true
      · rw [if_pos (by rw [hA, hX]; simp; omega)]
        have HX := Lib.hid hX
        have HO := Lib.hid (okE_iff.1 hX)
        have HL := Lib.hid hlen
        clear hA hX hlen
        have D1 : Hid (Below w.heap.size w w) := Lib.hid (Below.refl _ _)
        go_enter Try.func18, Try.ntmps18
        go_wp2_with fail
        refine (refall_yes _ _ _ l _ HH.out HN.out HA.out).mono ?_
        rintro e w' ⟨rfl, rfl⟩
        go_wp2_with fail
        refine (refin_yes _ _ HX.out).mono ?_
        rintro e w' ⟨rfl, rfl⟩
        go_wp2_with fail
        go_loopw [6, 7] (fun v i wr => ∃ (q : Int) (k : Nat), k ≤ n ∧ i = .int .i64 (k : Int) ∧ v = .int .i64 q ∧ Hid (0 ≤ q ∧ q < 2147483647) ∧ Hid (Sums l x k q) ∧ Hid (Below w.heap.size w wr)) (fun _ i _ => n - (intOf i).toNat)
        case atStart => exact ⟨0, 0, by omega, rfl, rfl, Lib.hid (by omega), Lib.hid (Sums.start l x), D1⟩
        case round =>
          obtain ⟨q, k, hk, rfl, rfl, hq, hh, hD⟩ := hrel
          by_cases hlt : k < n
          · obtain ⟨b, off, rfl, hc⟩ := (HH.out.bel hD.out).cells (by omega)
            have hkl : k < l.length := by have := HL.out; omega
            have hcell := hc k hkl
            clear hc
            obtain ⟨y, hy⟩ : ∃ y, y = l[k] := ⟨_, rfl⟩
            rw [← hy] at hcell
            have hy2 : Hid (0 ≤ y ∧ y < 2147483647) := Lib.hid (by rw [hy]; exact allE_iff.1 HA.out _ (List.getElem_mem hkl))
            have hh2 : Hid (Sums l x (k + 1) (sumF q (mulF y (powF x k)))) := Lib.hid (by rw [hy]; exact hh.out.step HO.out.1 (by have := HL.out; omega))
            have HY := Lib.hid hy
            clear hy
            have hm := mulF_range y (powF x k)
            obtain ⟨m, hmm⟩ : ∃ m, m = mulF y (powF x k) := ⟨_, rfl⟩
            rw [← hmm] at hm hh2
            have hqq := hq.out
            have e1 : IntKind.i64.wrap (q + m) = q + m := IntWalk.i64_in _ (by omega)
            have e2 : (q + m).tmod 2147483647 = sumF q m := by rw [Int.tmod_eq_emod_of_nonneg (by omega)]; rfl
            have e3 : IntKind.i64.wrap (sumF q m) = sumF q m := IntWalk.i64_in _ (by have := sumF_range q m; omega)
            have hpm : Hid (∀ w', Calls Try.prog 30 #[.int .i64 y, .int .i64 (powF x k)] w' fun e w'' => e = .returned (.int .i64 m) ∧ w' = w'') := Lib.hid (fun w' => by rw [hmm]; exact refprod_any _ _ _ hy2.out (powF_range _ _))
            have HM := Lib.hid hmm
            clear hm hqq hmm
            go_wp2_with fail
            go_quiet ((first | (go_at_call 32; exact quiet_same (refpower_any _ _ _ HO.out (by omega))) | (go_at_call 30; exact quiet_same (hpm.out _))))
            go_wp2_with fail
            go_roundw
            case rel => exact ⟨_, k + 1, by omega, by go_num, rfl, Lib.hid (sumF_range _ _), hh2, Lib.hid (below_drewN hD.out _)⟩
            case measure => simp [intOf]; omega
          · obtain rfl : k = n := by omega
            have e : q = evF x l := (show Sums l x l.length q from by rw [← HL.out]; exact hh.out).done hq.out
            subst e
            go_wp2_with fail
            go_ret2
            exact ⟨rfl, hD.out⟩
      · rw [if_neg (by rw [Bool.not_eq_true] at hX; rw [hX]; simp)]
        have HX : Hid (okE x = false) := Lib.hid (by simpa using hX)
        clear hA hX hlen
        go_enter Try.func18, Try.ntmps18
        go_wp2_with fail
        refine (refall_yes _ _ _ l _ HH.out HN.out HA.out).mono ?_
        rintro e w' ⟨rfl, rfl⟩
        go_wp2_with fail
        refine (refin_no _ _ HX.out).mono ?_
        rintro e w' ⟨rfl, rfl⟩
        go_wp2_with fail
        go_ret2
        exact ⟨rfl, Below.refl _ _⟩
    · rw [if_neg (by rw [Bool.not_eq_true] at hA; rw [hA]; simp)]
      have HA : Hid (allE l = false) := Lib.hid (by simpa using hA)
      clear hA hlen
      go_enter Try.func18, Try.ntmps18
      go_wp2_with fail
      refine (refall_no _ _ _ l _ HH.out HN.out HA.out).mono ?_
      rintro e w' ⟨rfl, rfl⟩
      go_wp2_with fail
      go_ret2
      exact ⟨rfl, Below.refl _ _⟩
  · rw [if_neg (by rw [← hlen]; simp; omega)]
    have g16 : 16 < n := by omega
    clear h16 hlen
    go_enter Try.func18, Try.ntmps18
    go_wp2_with fail
    go_ret2
    exact ⟨rfl, Below.refl _ _⟩
end Go.Proofs.Ytalhcfffnggpjaa
