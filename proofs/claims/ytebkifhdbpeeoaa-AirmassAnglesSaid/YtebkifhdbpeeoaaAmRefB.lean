/-
  The document's own answers of layer 11: windows; are two lists of spans equal?
-/
import Derived.Test.YtebkifhdbpeeoaaAmRefA
set_option linter.unusedVariables false
set_option maxRecDepth 100000
namespace Go.Proofs.Ytebkifhdbpeeoaa.Am
open Go.RowKit
open Ca (sid sid_lt)
theorem cellsS_set (l : List (Int × Int)) (a b x : Int) : (cellsS (l ++ [(a, b)])).set (l.length * 2 + 1) (.int .i64 x) = cellsS (l ++ [(a, x)]) := by
  rw [cellsS_app, cellsS_app, List.set_append_right _ _ (by rw [cellsS_len]; omega), cellsS_len]
  rw [show l.length * 2 + 1 - l.length * 2 = 1 by omega]
  rfl
theorem OwnS.last {B : Nat} {w : World} {v : Value} {l : List (Int × Int)} {a b : Int} (h : OwnS B w v (l ++ [(a, b)])) : ∃ g cap, v = .slice (some ⟨g, 0, none⟩) (l.length + 1) cap ∧ B ≤ g ∧ w.cell? ⟨g, l.length * 2 + 1, none⟩ = some (.int .i64 b) ∧ w.frozen? ⟨g, l.length * 2 + 1, none⟩ = false := by
  have hl : w.ownsRow B 39 2 v (l ++ [(a, b)]).length (cellsS (l ++ [(a, b)])) := h
  have he : (l ++ [(a, b)]).length = l.length + 1 := by simp
  rcases h.2 with ⟨_, h0⟩ | ⟨g, cap, cur, rfl, h1, h2, h3, h4, h5, h6⟩
  · rw [he] at h0; omega
  · refine ⟨g, cap, by rw [he], h1, ?_, World.ownsRow.frozenAt hl _⟩
    have := (cellsS_get (l ++ [(a, b)]) l.length (by rw [he]; omega)).2
    rw [World.ownsRow.cellAt hl (l.length * 2 + 1) (by rw [he]; omega), this]
    simp
theorem OwnS.put {B : Nat} {w : World} {g cap : Nat} {l : List (Int × Int)} {a b : Int} (x : Int) (h : OwnS B w (.slice (some ⟨g, 0, none⟩) (l.length + 1) cap) (l ++ [(a, b)])) :
    OwnS B (w.setCell ⟨g, l.length * 2 + 1, none⟩ (.int .i64 x)) (.slice (some ⟨g, 0, none⟩) (l.length + 1) cap) (l ++ [(a, x)]) := by
  have hl : w.ownsRow B 39 2 (.slice (some ⟨g, 0, none⟩) (l.length + 1) cap) (l.length + 1) (cellsS (l ++ [(a, b)])) := by
    have h' : w.ownsRow B 39 2 (.slice (some ⟨g, 0, none⟩) (l.length + 1) cap) (l ++ [(a, b)]).length (cellsS (l ++ [(a, b)])) := h
    rwa [show (l ++ [(a, b)]).length = l.length + 1 by simp] at h'
  have := (World.ownsRow.stored hl (l.length * 2 + 1) (.int .i64 x)).1
  rw [cellsS_set] at this
  show World.ownsRow _ _ _ _ _ (l ++ [(a, x)]).length _
  rwa [show (l ++ [(a, x)]).length = l.length + 1 by simp]
theorem intsS_app (l m : List (Nat × Nat)) : intsS (l ++ m) = intsS l ++ intsS m := by simp [intsS]
theorem win_zero (p : Nat → Bool) : win p 0 = [] := rfl
theorem below_drewN {w w' : World} {B : Nat} (h : Below B w w') (k : Nat) : Below B w (w'.drewN k) := ⟨h.os, h.tape, h.output, by simpa using h.size, fun j hj => by simpa using h.block j hj⟩
set_option maxHeartbeats 2000000 in
theorem refWindows_ok (s t n : Nat) (least : Int) (hs : s < 16) (ht' : t < 512) (hn : n < 400) (w : World) : Calls Try.prog 18 #[.int .i64 (s : Int), .int .i64 (t : Int), .int .i64 (n : Int), .int .i64 least] w (GivesS2 (intsS (win (hi s t n least) 96)) 0 w) := by
  have cT : Hid (∀ w, Calls Try.prog 32 #[.int .i64 (t : Int)] w fun e w' => e = .returned (.bool true) ∧ w = w') := Lib.hid (fun w => by have := refTis_any (t : Int) w; rwa [okT_nat ht'] at this)
  obtain ⟨p, hp⟩ : ∃ p, p = hi s t n least := ⟨_, rfl⟩
  rw [← hp]
  have t1 : decide ((s : Int) < 0) = false := decide_eq_false (by omega)
  have t2 : decide (15 < (s : Int)) = false := decide_eq_false (by omega)
  have t3 : decide ((n : Int) < 0) = false := decide_eq_false (by omega)
  have t4 : decide (399 < (n : Int)) = false := decide_eq_false (by omega)
  have f0 : IntKind.i64.wrap (96 * (n : Int)) = 96 * (n : Int) := IntWalk.i64_in _ (by omega)
  have D0 : Hid (Below w.heap.size w w) := Lib.hid (Below.refl _ _)
  have O0 : Hid (OwnS w.heap.size w (.slice none 0 0) (intsS (win p 0))) := Lib.hid (OwnS.nil _ _)
  go_enter Try.func18, Try.ntmps18
  go_wp2_with fail
  refine (cT.out _).mono ?_
  rintro e w' ⟨rfl, rfl⟩
  go_wp2_with fail
  go_loopw [10, 11] (fun v ii wr => ∃ k : Nat, k ≤ 96 ∧ ii = .int .i64 (k : Int) ∧ Hid (OwnS w.heap.size wr v (intsS (win p k))) ∧ Hid (Below w.heap.size w wr)) (fun _ ii _ => 96 - (intOf ii).toNat)
  case atStart => exact ⟨0, by omega, rfl, O0, D0⟩
  case round =>
    obtain ⟨k, hk, rfl, hO, hD⟩ := hrel
    clear O0 D0
    by_cases hlt : k < 96
    · have s1 : decide ((k : Int) < 96) = true := decide_eq_true (by omega)
      have cH : Hid (∀ w, Calls Try.prog 14 #[.int .i64 (s : Int), .int .i64 (t : Int), .int .i64 (96 * (n : Int) + (k : Int))] w (GivesN (ht t s (96 * n + k)) 0 w)) := Lib.hid (fun w => by have := refHeight_ok s t (96 * n + k) hs ht' (by omega) w; rwa [show ((96 * n + k : Nat) : Int) = 96 * (n : Int) + (k : Int) by omega] at this)
      have f1 : IntKind.i64.wrap (96 * (n : Int) + (k : Int)) = 96 * (n : Int) + (k : Int) := IntWalk.i64_in _ (by omega)
      have f2 : IntKind.i64.wrap ((k : Int) + 1) = (k : Int) + 1 := IntWalk.i64_in _ (by omega)
      have f3 : IntKind.i64.wrap ((k : Int) - 1) = (k : Int) - 1 := IntWalk.i64_in _ (by omega)
      have hpk : p k = decide (least ≤ ht t s (96 * n + k)) := by rw [hp]; rfl
      generalize ht t s (96 * n + k) = h at cH hpk
      by_cases hl : h < least
      · have s2 : decide (h < least) = true := decide_eq_true hl
        have HS : Hid (win p (k + 1) = win p k) := Lib.hid (by unfold win; rw [wr_no (by rw [hpk]; exact decide_eq_false (by omega))])
        clear hpk
        go_wp2_with fail
        refine (cH.out _).mono ?_
        rintro e w1 ⟨rfl, hb⟩
        have D1 := Lib.hid (hD.out.trans (hb.mono hD.out.size))
        have O1 := Lib.hid (hO.out.below hb)
        clear hb
        go_wp2_with fail
        go_roundw
        case rel => exact ⟨k + 1, by omega, by go_num, by rw [HS.out]; exact O1, D1⟩
        case measure => simp [intOf]; omega
      · have s2 : decide (h < least) = false := decide_eq_false hl
        have hpt : p k = true := by rw [hpk]; exact decide_eq_true (by omega)
        clear hpk
        cases he : Am.wr p k with
        | nil =>
          have hw0 : win p k = [] := by unfold win; rw [he]; rfl
          have HS : Hid (intsS (win p (k + 1)) = [] ++ [((k : Int), (k : Int))]) := Lib.hid (by unfold win; rw [wr_first hpt he]; rfl)
          rw [hw0] at hO
          have hO' : Hid (OwnS w.heap.size wr _ []) := hO
          clear hO hw0 he hpt
          obtain ⟨a0, cap0, rfl, -, -, -⟩ := hO'.out.at
          go_wp2_with fail
          refine (cH.out _).mono ?_
          rintro e w1 ⟨rfl, hb⟩
          have D1 := Lib.hid (hD.out.trans (hb.mono hD.out.size))
          have O1 := Lib.hid (hO'.out.below hb)
          clear hb
          have hz : ((([] : List (Int × Int)).length : Nat) : Int) = 0 := rfl
          go_wp2_with (at_builtin; refine wpList_snocS _ (by rfl) _ _ (by rfl) w.heap.size _ [] (k : Int) (k : Int) (by rfl) (by rfl) O1.out (by simp) D1.out.size ?_)
          intro v7 w7 hown7 hgrow7
          have hB7 := Lib.hid (below_snocS D1.out O1.out hgrow7)
          have hO7 : Hid (OwnS w.heap.size w7 v7 (intsS (win p (k + 1)))) := Lib.hid (by rw [HS.out]; exact hown7)
          clear hown7 hgrow7
          go_wp2_with fail
          go_roundw
          case rel => exact ⟨k + 1, by omega, by go_num, hO7, hB7⟩
          case measure => simp [intOf]; omega
        | cons x r =>
          obtain ⟨f, u⟩ := x
          obtain ⟨l, hll⟩ : ∃ l, l = intsS r.reverse := ⟨_, rfl⟩
          have hw0 : intsS (win p k) = l ++ [((f : Int), (u : Int))] := by unfold win; rw [he, hll, List.reverse_cons, intsS_app]; rfl
          have hlen : l.length < k := by
            have := wr_len p k
            rw [he] at this
            rw [hll, intsS_len, List.length_reverse]
            simp at this; omega
          have hw1 : (l ++ [((f : Int), (u : Int))]).length = l.length + 1 := by simp
          rw [hw0] at hO
          obtain ⟨g, cap, rfl, hg, -, -⟩ := hO.out.last
          have j0 : (0 : Int) < (l.length : Int) + 1 := by omega
          have j1 : decide ((0 : Int) < (l.length : Int) + 1) = true := decide_eq_true (by omega)
          have j2 : IntKind.i64.wrap ((l.length : Int) + 1 - 1) = (l.length : Int) := by rw [IntWalk.i64_in _ (by omega)]; omega
          have j3 : (0 : Int) ≤ (l.length : Int) := by omega
          have j4 : (l.length : Int) < (l.length : Int) + 1 := by omega
          have HG := Lib.hid hg
          by_cases hu : u + 1 = k
          · have HS : Hid (intsS (win p (k + 1)) = l ++ [((f : Int), (k : Int))]) := Lib.hid (by unfold win; rw [wr_more hpt he hu, List.reverse_cons, intsS_app, ← hll]; rfl)
            have j5 : ((u : Int) == (k : Int) - 1) = true := by rw [beq_iff_eq]; omega
            clear hw0 hw1 he hll hpt hu hg
            go_wp2_with fail
            refine (cH.out _).mono ?_
            rintro e w1 ⟨rfl, hb⟩
            have D1 := Lib.hid (hD.out.trans (hb.mono hD.out.size))
            have O1 := Lib.hid (hO.out.below hb)
            clear hb
            obtain ⟨g2, cap2, e2, -, kc, kf⟩ := O1.out.last
            simp only [Value.slice.injEq, Option.some.injEq, Addr.mk.injEq, and_true, true_and] at e2
            obtain ⟨rfl, rfl⟩ := e2
            have O2 := Lib.hid (O1.out.put (k : Int))
            rw [← HS.out] at O2
            have D2 := Lib.hid (D1.out.setCell (p := ⟨g, l.length * 2 + 1, none⟩) HG.out (.int .i64 (k : Int)))
            go_wp2_with fail
            go_roundw
            case rel => exact ⟨k + 1, by omega, by go_num, O2, D2⟩
            case measure => simp [intOf]; omega
          · have HS : Hid (intsS (win p (k + 1)) = (l ++ [((f : Int), (u : Int))]) ++ [((k : Int), (k : Int))]) := Lib.hid (by unfold win; rw [wr_new hpt he hu, List.reverse_cons, List.reverse_cons, intsS_app, intsS_app, ← hll]; rfl)
            have j5 : ((u : Int) == (k : Int) - 1) = false := by rw [beq_eq_false_iff_ne]; omega
            have hDl : Hid ((l ++ [((f : Int), (u : Int))]).length + 1 ≤ 1099511627) := Lib.hid (by rw [hw1]; omega)
            clear hw0 hw1 he hll hpt hu hg
            go_wp2_with fail
            refine (cH.out _).mono ?_
            rintro e w1 ⟨rfl, hb⟩
            have D1 := Lib.hid (hD.out.trans (hb.mono hD.out.size))
            have O1 := Lib.hid (hO.out.below hb)
            clear hb
            obtain ⟨g2, cap2, e2, -, kc, kf⟩ := O1.out.last
            simp only [Value.slice.injEq, Option.some.injEq, Addr.mk.injEq, and_true, true_and] at e2
            obtain ⟨rfl, rfl⟩ := e2
            go_wp2_with (at_builtin; refine wpList_snocS _ (by rfl) _ _ (by rfl) w.heap.size _ (l ++ [((f : Int), (u : Int))]) (k : Int) (k : Int) (by rfl) (by rfl) O1.out hDl.out D1.out.size ?_)
            intro v7 w7 hown7 hgrow7
            have hB7 := Lib.hid (below_snocS D1.out O1.out hgrow7)
            have hO7 : Hid (OwnS w.heap.size w7 v7 (intsS (win p (k + 1)))) := Lib.hid (by rw [HS.out]; simpa using hown7)
            clear hown7 hgrow7
            go_wp2_with fail
            go_roundw
            case rel => exact ⟨k + 1, by omega, by go_num, hO7, hB7⟩
            case measure => simp [intOf]; omega
    · have s1 : decide ((k : Int) < 96) = false := decide_eq_false (by omega)
      have hk6 : k = 96 := by omega
      rw [hk6] at hO
      go_wp2_with fail
      go_ret2
      exact ⟨_, rfl, hO.out.list, hD.out⟩
theorem refWindows_any (s t n least : Int) (w : World) : Calls Try.prog 18 #[.int .i64 s, .int .i64 t, .int .i64 n, .int .i64 least] w (GivesS2 (winA s t n least).1 (winA s t n least).2 w) := by
  have cT := Lib.hid (fun w => refTis_any t w)
  by_cases h0 : s < 0
  · skip
    have HA : Hid (winA s t n least = ([], 1)) := Lib.hid (by unfold winA okS; rw [if_neg (by simp; omega)])
    have t1 : decide (s < 0) = true := decide_eq_true h0
    rw [HA.out]
    go_enter Try.func18, Try.ntmps18
    go_wp2_with fail
    go_ret2
    exact ⟨_, rfl, list_nil _, Below.refl _ _⟩
  · have t1 : decide (s < 0) = false := decide_eq_false h0
    by_cases h1 : 15 < s
    · skip
      have HA : Hid (winA s t n least = ([], 1)) := Lib.hid (by unfold winA okS; rw [if_neg (by simp; omega)])
      have t2 : decide (15 < s) = true := decide_eq_true h1
      rw [HA.out]
      go_enter Try.func18, Try.ntmps18
      go_wp2_with fail
      go_ret2
      exact ⟨_, rfl, list_nil _, Below.refl _ _⟩
    · have t2 : decide (15 < s) = false := decide_eq_false h1
      cases hT : okT t with
      | false =>
        have HA : Hid (winA s t n least = ([], 1)) := Lib.hid (by unfold winA; rw [hT, if_neg (by simp)])
        rw [hT] at cT
        clear hT
        rw [HA.out]
        go_enter Try.func18, Try.ntmps18
        go_wp2_with fail
        refine (cT.out _).mono ?_
        rintro e w' ⟨rfl, rfl⟩
        go_wp2_with fail
        go_ret2
        exact ⟨_, rfl, list_nil _, Below.refl _ _⟩
      | true =>
        by_cases h2 : n < 0
        · skip
          have HA : Hid (winA s t n least = ([], 1)) := Lib.hid (by unfold winA okN; rw [if_neg (by simp; omega)])
          rw [hT] at cT
          have t3 : decide (n < 0) = true := decide_eq_true h2
          clear hT
          rw [HA.out]
          go_enter Try.func18, Try.ntmps18
          go_wp2_with fail
          refine (cT.out _).mono ?_
          rintro e w' ⟨rfl, rfl⟩
          go_wp2_with fail
          go_ret2
          exact ⟨_, rfl, list_nil _, Below.refl _ _⟩
        · have t3 : decide (n < 0) = false := decide_eq_false h2
          by_cases h3 : 399 < n
          · skip
            have HA : Hid (winA s t n least = ([], 1)) := Lib.hid (by unfold winA okN; rw [if_neg (by simp; omega)])
            rw [hT] at cT
            have t4 : decide (399 < n) = true := decide_eq_true h3
            clear hT
            rw [HA.out]
            go_enter Try.func18, Try.ntmps18
            go_wp2_with fail
            refine (cT.out _).mono ?_
            rintro e w' ⟨rfl, rfl⟩
            go_wp2_with fail
            go_ret2
            exact ⟨_, rfl, list_nil _, Below.refl _ _⟩
          · obtain ⟨u, rfl, hu⟩ := okT_yes hT
            obtain ⟨q, rfl⟩ : ∃ q : Nat, s = (q : Int) := ⟨s.toNat, by omega⟩
            obtain ⟨r, rfl⟩ : ∃ q : Nat, n = (q : Int) := ⟨n.toNat, by omega⟩
            rw [winA_ok least (by omega) hu (by omega)]
            exact refWindows_ok q u r least (by omega) hu (by omega) w
set_option maxHeartbeats 1000000 in
/-- two equal lists of spans (the laws ask no more) -/
theorem refSpans_same (v1 v2 : Value) (l : List (Int × Int)) (w : World) (h1 : ListS w v1 l) (h2 : ListS w v2 l) (hmax : l.length ≤ 1000000) :
    Calls Try.prog 19 #[v1, v2] w fun e w' => e = .returned (.bool true) ∧ Below w.heap.size w w' := by
  obtain ⟨a1, c1, rfl, k1, i1⟩ := h1.out
  obtain ⟨a2, c2, rfl, k2, i2⟩ := h2.out
  have D0 : Hid (Below w.heap.size w w) := Lib.hid (Below.refl _ _)
  clear h1 h2
  have I1 := Lib.hid i1
  have I2 := Lib.hid i2
  clear i1 i2
  obtain ⟨n, hn⟩ : ∃ n, n = l.length := ⟨_, rfl⟩
  rw [← hn] at hmax
  rw [← hn]
  have HN := Lib.hid hn
  clear k1 k2 hn
  go_enter Try.func19, Try.ntmps19
  go_wp2_with fail
  go_loopw [5] (fun i wr => ∃ k : Nat, k ≤ n ∧ i = .int .i64 k ∧ Hid (Below w.heap.size w wr)) (fun i _ => n - (intOf i).toNat)
  case atStart => exact ⟨0, by omega, rfl, D0⟩
  case round =>
    obtain ⟨k, hk, rfl, hD⟩ := hrel
    by_cases hlt : k < n
    · have hkl : k < l.length := by have := HN.out; omega
      obtain ⟨b1, o1, rfl⟩ := I1.out.at0 hkl
      obtain ⟨b2, o2, rfl⟩ := I2.out.at0 hkl
      obtain ⟨hc1, hc3⟩ := (I1.out.bel hD.out).cell hkl
      obtain ⟨hc2, hc4⟩ := (I2.out.bel hD.out).cell hkl
      obtain ⟨x, hxk⟩ : ∃ x, x = l[k] := ⟨_, rfl⟩
      rw [← hxk] at hc1 hc3 hc2 hc4
      obtain ⟨x1, x2⟩ := x
      simp only at hc1 hc2 hc3 hc4
      have f1 : IntKind.i64.wrap ((k : Int) + 1) = (k : Int) + 1 := IntWalk.i64_in _ (by omega)
      have q1 : (0 : Int) ≤ (k : Int) := by omega
      have q2 : (k : Int) < (n : Int) := by omega
      clear hxk
      go_wp2_with fail
      go_quiet (fail)
      go_wp2_with fail
      go_roundw
      case rel => exact ⟨k + 1, by omega, by go_num, Lib.hid (below_drewN hD.out _)⟩
      case measure => simp [intOf]; omega
    · go_wp2_with fail
      go_ret
      exact ⟨rfl, hD.out⟩
end Go.Proofs.Ytebkifhdbpeeoaa.Am
