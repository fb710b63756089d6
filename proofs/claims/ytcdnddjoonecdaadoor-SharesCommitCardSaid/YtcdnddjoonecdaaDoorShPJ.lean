/-
  The program's Join of layer 7.
-/
import Derived.Test.YtcdnddjoonecdaaDoorShPS
import Derived.Test.YtcdnddjoonecdaaDoorShRefJ
import Derived.Test.YtcdnddjoonecdaaDoorFdInter
set_option linter.unusedVariables false
set_option maxRecDepth 100000
namespace Go.Proofs.YtcdnddjoonecdaaDoor
open Go.RowKit
open Fdp
theorem pvaluesP_any (a : Option Addr) (n cap : Nat) (l : List (Int × Int)) (x : Int) (w : World) (h : PtsAt w a n l) (hcap : n ≤ cap) (hcm : cap ≤ maxLen) :
    Calls Tryd.prog 39 #[.slice a n cap, .int .i64 x] w fun e w' => e = .returned (.int .i64 (interE l x).1) ∧ Below w.heap.size w w' := by
  have hc := fInter_any a n cap l x w h hcap hcm
  generalize interE l x = r at *
  clear h hcap hcm
  go_enter Tryd.func39, Tryd.ntmps39
  go_wp2_with fail
  refine hc.mono ?_
  rintro e w2 ⟨rfl, hb⟩
  go_wp2_with fail
  go_ret
  exact ⟨rfl, hb⟩
theorem pinter_first {l : List (Int × Int)} (hv : validsS l = true) (hd : diffX (Xs l) = true) {N : Nat} (h1 : 1 ≤ N) (h2 : N ≤ 16) (hl : N ≤ l.length) {x : Int} (hx : El x) (a : Option Addr) (cap : Nat) (w : World) (h : PtsAt w a N (l.take N)) (hcap : N ≤ cap) (hcm : cap ≤ maxLen) :
    Calls Tryd.prog 39 #[.slice a N cap, .int .i64 x] w fun e w' => e = .returned (.int .i64 (interF (l.take N) x)) ∧ Below w.heap.size w w' := by
  have := pvaluesP_any a N cap (l.take N) x w h hcap hcm
  have e : interE (l.take N) x = (interF (l.take N) x, 0) := by
    unfold interE
    rw [decide_eq_true (show 1 ≤ (l.take N).length ∧ (l.take N).length ≤ 16 by rw [List.length_take]; omega), pairs_take (valids_pairs hv) N, okE_iff.2 hx, diff_take hd N]; rfl
  rw [e] at this
  exact this
/-- the first ones of points in memory, and those behind them -/
theorem PtsAt.front {w : World} {R n N : Nat} {l : List (Int × Int)} (h : PtsAt w (some ⟨R, 0, none⟩) n l) (hN : N ≤ n) : PtsAt w (some ⟨R, 0, none⟩) N (l.take N) := by
  have hl := h.len
  refine ⟨by rw [List.length_take]; omega, fun h0 => ⟨R, 0, rfl, fun j hj => ?_⟩⟩
  rw [List.length_take] at hj
  rw [List.getElem_take]
  exact h.cell (by omega)
theorem PtsAt.behind {w : World} {R n N : Nat} {l : List (Int × Int)} (h : PtsAt w (some ⟨R, 0, none⟩) n l) {j : Nat} (hj : N + j < l.length) : w.cell? ⟨R, N * 2 + j * 2, none⟩ = some (.int .i64 (l[N + j].1)) ∧ w.cell? ⟨R, N * 2 + j * 2 + 1, none⟩ = some (.int .i64 (l[N + j].2)) := by
  have := h.cell hj
  rw [Nat.zero_add, Nat.add_mul] at this
  exact this
set_option maxHeartbeats 4000000 in
theorem pJoin_any (a : Option Addr) (n cap : Nat) (l : List (Int × Int)) (need : Int) (w : World) (h : PtsAt w a n l) (hn : n ≤ 1000) (hcap : n ≤ cap) (hcm : cap ≤ maxLen) :
    Calls Tryd.prog 19 #[.slice a n cap, .int .i64 need] w (GivesN (joinE l need) w) := by
  have HH := Lib.hid h
  have HL := Lib.hid h.len
  have hn6 : n ≤ 1000000 := by omega
  have hmf : ∀ (fn : Fn) (first cap : Array Value) (w : World), (Instr.makeFunc fn first cap).run Tryd.prog w = .ok (.func fn first cap) w := fun _ _ _ _ => rfl
  clear h hcap hcm
  by_cases g1 : 1 ≤ need ∧ need ≤ 16
  · have G1 := Lib.hid g1
    obtain ⟨N, rfl⟩ : ∃ N : Nat, need = N := ⟨need.toNat, by omega⟩
    have hN1 : 1 ≤ N := by omega
    have hN16 : N ≤ 16 := by omega
    have HTN : Hid ((N : Int).toNat = N) := Lib.hid (by omega)
    cases hv : validsS l with
    | false =>
      rw [joinE_valid hv]
      have HV := Lib.hid hv
      clear g1 hv
      go_enter Tryd.func19, Tryd.ntmps19
      go_wp2_with fail
      refine (within_yes _ _ _ _ G1.out.1 G1.out.2).mono ?_
      rintro e w' ⟨rfl, rfl⟩
      go_wp2_with fail
      refine (valid_shares a n cap l _ HH.out hn6).mono ?_
      rintro e w1 ⟨rfl, hb⟩
      rw [HV.out]
      have D1 := Lib.hid hb
      clear hb
      go_wp2_with fail
      go_ret2
      exact ⟨rfl, D1.out⟩
    | true =>
      have HV := Lib.hid hv
      cases hd : diffX (Xs l) with
      | false =>
        rw [joinE_twice g1 hv hd]
        have HD := Lib.hid hd
        clear g1 hv hd
        go_enter Tryd.func19, Tryd.ntmps19
        go_wp2_with fail
        refine (within_yes _ _ _ _ G1.out.1 G1.out.2).mono ?_
        rintro e w' ⟨rfl, rfl⟩
        go_wp2_with fail
        refine (valid_shares a n cap l _ HH.out hn6).mono ?_
        rintro e w1 ⟨rfl, hb⟩
        rw [HV.out]
        have D1 := Lib.hid hb
        clear hb
        go_wp2_with fail
        refine (repeats_shares a n cap l _ (HH.out.bel D1.out) hn6 HV.out).mono ?_
        rintro e w2 ⟨rfl, hb⟩
        rw [HD.out]
        have D2 := Lib.hid (D1.out.trans (hb.mono D1.out.size))
        clear hb
        go_wp2_with fail
        go_ret2
        exact ⟨rfl, D2.out⟩
      | true =>
        have HD := Lib.hid hd
        by_cases g2 : n < N
        · rw [joinE_few g1 hv hd (by rw [← HL.out]; omega)]
          have t1 : decide (n < N) = true := decide_eq_true g2
          clear g1 hv hd
          go_enter Tryd.func19, Tryd.ntmps19
          go_wp2_with fail
          refine (within_yes _ _ _ _ G1.out.1 G1.out.2).mono ?_
          rintro e w' ⟨rfl, rfl⟩
          go_wp2_with fail
          refine (valid_shares a n cap l _ HH.out hn6).mono ?_
          rintro e w1 ⟨rfl, hb⟩
          rw [HV.out]
          have D1 := Lib.hid hb
          clear hb
          go_wp2_with fail
          refine (repeats_shares a n cap l _ (HH.out.bel D1.out) hn6 HV.out).mono ?_
          rintro e w2 ⟨rfl, hb⟩
          rw [HD.out]
          have D2 := Lib.hid (D1.out.trans (hb.mono D1.out.size))
          clear hb
          go_wp2_with fail
          go_ret2
          exact ⟨rfl, D2.out⟩
        · have hNn : N ≤ n := by omega
          have hNl : Hid (N ≤ l.length) := Lib.hid (by rw [← HL.out]; exact hNn)
          have hnl : Hid ((l.length : Int) < (N : Int) → False) := Lib.hid (by have := hNl.out; omega)
          have t1 : decide (n < N) = false := decide_eq_false g2
          obtain ⟨J, hJ⟩ : ∃ J, J = joinE l N := ⟨_, rfl⟩
          rw [← hJ]
          have HJ := Lib.hid hJ
          clear g1 hv hd hJ g2
          go_enter Tryd.func19, Tryd.ntmps19
          go_wp2_with fail
          refine (within_yes _ _ _ _ G1.out.1 G1.out.2).mono ?_
          rintro e w' ⟨rfl, rfl⟩
          go_wp2_with fail
          refine (valid_shares a n cap l _ HH.out hn6).mono ?_
          rintro e w1 ⟨rfl, hb⟩
          rw [HV.out]
          have D1 := Lib.hid hb
          clear hb
          go_wp2_with fail
          refine (repeats_shares a n cap l _ (HH.out.bel D1.out) hn6 HV.out).mono ?_
          rintro e w2 ⟨rfl, hb⟩
          rw [HD.out]
          have D2 := Lib.hid (D1.out.trans (hb.mono D1.out.size))
          clear hb
          go_wp2_with fail
          refine (pointsOf_any a n cap l _ (HH.out.bel D2.out) hn6).mono ?_
          rintro e w3 ⟨R, rfl, hP, hb⟩
          have D3 := Lib.hid (D2.out.trans (hb.mono D2.out.size))
          have HP := Lib.hid hP
          have cV : Hid (∀ (x : Int) (w' : World), El x → Below w3.heap.size w3 w' → Calls Tryd.prog 39 #[.slice (some ⟨R, 0, none⟩) N n, .int .i64 x] w' fun e w'' => e = .returned (.int .i64 (interF (l.take N) x)) ∧ Below w'.heap.size w' w'') := Lib.hid (fun x w' hx hb => pinter_first HV.out HD.out hN1 hN16 hNl.out hx _ _ _ ((HP.out.bel hb).front hNn) hNn (by unfold maxLen; omega))
          clear hb hP
          by_cases hEq : N = n
          · have hro : Hid (restOn l N = true) := Lib.hid (rest_all fun p hp h1 => absurd hp (by have := HL.out; omega))
            have hb : Hid (J = (interF (l.take N) 0, 0)) := Lib.hid (by rw [HJ.out]; have := joinE_ok G1.out HV.out HD.out hnl.out (by rw [HTN.out]; exact hro.out); rw [HTN.out] at this; exact this)
            subst hEq
            go_wp2_with fail
            refine wp_loop_rounds 1 ?_
            rw [rounds_succ]
            go_wp2_with fail
            refine (cV.out _ _ (by decide) (Below.refl _ _)).mono ?_
            rintro e w4 ⟨rfl, hb4⟩
            have D4 := Lib.hid (D3.out.trans (hb4.mono D3.out.size))
            clear hb4
            go_wp2_with fail
            go_ret2
            rw [hb.out]
            exact ⟨rfl, D4.out⟩
          · have hNm : N < n := by omega
            clear hEq
            go_wp2_with fail
            go_loopw [34] (fun ii wr => ∃ j : Nat, j ≤ n - N ∧ ii = .int .i64 (j : Int) ∧ Hid (∀ p (hp : p < l.length), N ≤ p → p < N + j → interF (l.take N) l[p].1 = l[p].2) ∧ Hid (Below w3.heap.size w3 wr)) (fun ii _ => n - N - (intOf ii).toNat)
            case atStart => exact ⟨0, by omega, rfl, (show _ from fun p _ h h' => absurd h (by omega)), Lib.hid (Below.refl _ _)⟩
            case round =>
              obtain ⟨j, hj, rfl, hx, hZ⟩ := hrel
              by_cases hlt : j < n - N
              · have hjl : N + j < l.length := by have := HL.out; omega
                obtain ⟨hca, hcb⟩ := (HP.out.bel hZ.out).behind hjl
                obtain ⟨x, hxx⟩ : ∃ x, x = l[N + j].1 := ⟨_, rfl⟩
                obtain ⟨y, hyy⟩ : ∃ y, y = l[N + j].2 := ⟨_, rfl⟩
                rw [← hxx] at hca
                rw [← hyy] at hcb
                have hxE : Hid (El x) := Lib.hid (by
                  have := validsS_iff.1 HV.out _ (List.getElem_mem hjl)
                  rw [← hxx] at this
                  unfold El; omega)
                obtain ⟨z, hz⟩ : ∃ z, z = interF (l.take N) x := ⟨_, rfl⟩
                have cZ : Hid (∀ w', Below w3.heap.size w3 w' → Calls Tryd.prog 39 #[.slice (some ⟨R, 0, none⟩) N n, .int .i64 x] w' fun e w'' => e = .returned (.int .i64 z) ∧ Below w'.heap.size w' w'') := Lib.hid (fun w' h => by rw [hz]; exact cV.out x w' hxE.out h)
                have b1 : (0 : Int) ≤ (j : Int) := by omega
                have b2 : (j : Int) < ((n - N : Nat) : Int) := by omega
                have hZ1 := Lib.hid (hZ.out.alloc hZ.out.size (Obj.cells #[Value.int .i64 x, Value.int .i64 y] 66))
                have hy1 : Hid ((wr.alloc (Obj.cells #[Value.int .i64 x, Value.int .i64 y] 66)).cell? ⟨wr.heap.size, 1, none⟩ = some (.int .i64 y)) := Lib.hid (by rw [Lib.cell_of_heap (heap_lastF _ _)]; rfl)
                by_cases hzy : z = y
                · have hx2 : Hid (∀ p (hp : p < l.length), N ≤ p → p < N + (j + 1) → interF (l.take N) l[p].1 = l[p].2) := (show _ from fun p hp h1 h2 => by
                    by_cases e : p = N + j
                    · subst e; rw [← hxx, ← hyy, ← hz]; exact hzy
                    · exact hx.out p hp h1 (by omega))
                  have c2 : (z != y) = false := by rw [hzy]; simp
                  clear hzy hz hxx hyy
                  go_wp2_with fail
                  go_region_law (first | (go_simp; go_at_call 39; refine (cZ.out _ hZ1.out.drew).mono ?_; rintro e w5 ⟨rfl, hb5⟩; have hZ5 := Lib.hid (hZ1.out.drew.trans (hb5.mono hZ1.out.drew.size)); have hy5 : w5.cell? ⟨wr.heap.size, 1, none⟩ = some (.int .i64 y) := (hb5.cell (p := ⟨wr.heap.size, 1, none⟩) (cell_ltF hy1.out)).trans hy1.out; clear hb5) | fail "no arm")
                  all_goals
                    go_wp2_with fail
                    go_roundw
                    case rel => exact ⟨j + 1, by omega, by go_num, hx2, hZ5⟩
                    case measure => simp [intOf]; omega
                · have hb : Hid (J = (0, 24)) := Lib.hid (by rw [HJ.out, joinE_proof G1.out HV.out HD.out hnl.out (by rw [HTN.out]; exact rest_no (i := N + j) (by omega) hjl (by rw [← hxx, ← hyy, ← hz]; exact hzy))])
                  have c2 : (z != y) = true := by simpa using hzy
                  clear hzy hz hxx hyy
                  go_wp2_with fail
                  go_region_law (first | (go_simp; go_at_call 39; refine (cZ.out _ hZ1.out.drew).mono ?_; rintro e w5 ⟨rfl, hb5⟩; have hZ5 := Lib.hid (hZ1.out.drew.trans (hb5.mono hZ1.out.drew.size)); have hy5 : w5.cell? ⟨wr.heap.size, 1, none⟩ = some (.int .i64 y) := (hb5.cell (p := ⟨wr.heap.size, 1, none⟩) (cell_ltF hy1.out)).trans hy1.out; clear hb5) | fail "no arm")
                  all_goals
                    go_wp2_with fail
                    go_ret2
                    rw [hb.out]
                    exact ⟨rfl, D3.out.trans (hZ5.out.mono D3.out.size)⟩
              · obtain rfl : j = n - N := by omega
                have hro : Hid (restOn l N = true) := Lib.hid (rest_all fun p hp h1 => hx.out p hp h1 (by have := HL.out; omega))
                have hb : Hid (J = (interF (l.take N) 0, 0)) := Lib.hid (by rw [HJ.out]; have := joinE_ok G1.out HV.out HD.out hnl.out (by rw [HTN.out]; exact hro.out); rw [HTN.out] at this; exact this)
                clear hx
                go_wp2_with fail
                refine (cV.out _ _ (by decide) hZ.out).mono ?_
                rintro e w4 ⟨rfl, hb4⟩
                have D4 := Lib.hid (D3.out.trans ((hZ.out.trans (hb4.mono hZ.out.size)).mono D3.out.size))
                clear hb4
                go_wp2_with fail
                go_ret2
                rw [hb.out]
                exact ⟨rfl, D4.out⟩
  · rw [joinE_arg g1]
    have G1 := Lib.hid g1
    clear g1
    go_enter Tryd.func19, Tryd.ntmps19
    go_wp2_with fail
    refine (within_no _ _ _ _ G1.out).mono ?_
    rintro e w' ⟨rfl, rfl⟩
    go_wp2_with fail
    go_ret2
    exact ⟨rfl, Below.refl _ _⟩
end Go.Proofs.YtcdnddjoonecdaaDoor
