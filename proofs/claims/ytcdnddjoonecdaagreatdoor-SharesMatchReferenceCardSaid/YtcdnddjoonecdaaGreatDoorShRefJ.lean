/-
  The document's own answers of layer 7: Join.
-/
import Derived.Test.YtcdnddjoonecdaaGreatDoorShRefS
import Derived.Test.YtcdnddjoonecdaaGreatDoorFdD
set_option linter.unusedVariables false
set_option maxRecDepth 100000
namespace Go.Proofs.YtcdnddjoonecdaaGreatDoor
open Go.RowKit
open Fdp
theorem joinE_arg {l : List (Int × Int)} {n : Int} (h : ¬ (1 ≤ n ∧ n ≤ 16)) : joinE l n = (0, 1) := by unfold joinE; rw [decide_eq_false h, if_neg (by simp)]
theorem joinE_valid {l : List (Int × Int)} {n : Int} (h : validsS l = false) : joinE l n = (0, 1) := by unfold joinE; rw [h, if_neg (by simp)]
theorem joinE_twice {l : List (Int × Int)} {n : Int} (h1 : 1 ≤ n ∧ n ≤ 16) (hv : validsS l = true) (hd : diffX (Xs l) = false) : joinE l n = (0, 8) := by
  unfold joinE; rw [decide_eq_true h1, hv, hd, if_pos (by simp), if_neg (by simp)]
theorem joinE_few {l : List (Int × Int)} {n : Int} (h1 : 1 ≤ n ∧ n ≤ 16) (hv : validsS l = true) (hd : diffX (Xs l) = true) (hl : (l.length : Int) < n) : joinE l n = (0, 25) := by
  unfold joinE; rw [decide_eq_true h1, hv, hd, if_pos (by simp), if_pos rfl, if_pos hl]
theorem joinE_proof {l : List (Int × Int)} {n : Int} (h1 : 1 ≤ n ∧ n ≤ 16) (hv : validsS l = true) (hd : diffX (Xs l) = true) (hl : ¬ (l.length : Int) < n) (hr : restOn l n.toNat = false) : joinE l n = (0, 24) := by
  unfold joinE; rw [decide_eq_true h1, hv, hd, if_pos (by simp), if_pos rfl, if_neg hl, hr, if_neg (by simp)]
theorem joinE_ok {l : List (Int × Int)} {n : Int} (h1 : 1 ≤ n ∧ n ≤ 16) (hv : validsS l = true) (hd : diffX (Xs l) = true) (hl : ¬ (l.length : Int) < n) (hr : restOn l n.toNat = true) : joinE l n = (interF (l.take n.toNat) 0, 0) := by
  unfold joinE; rw [decide_eq_true h1, hv, hd, if_pos (by simp), if_pos rfl, if_neg hl, hr, if_pos rfl]
theorem valids_no {l : List (Int × Int)} {k : Nat} (hk : k < l.length) (h : validS l[k] = false) : validsS l = false := by
  unfold validsS; rw [List.all_eq_false]; exact ⟨_, List.getElem_mem hk, by simp [h]⟩
theorem valids_upto {l : List (Int × Int)} (h : ∀ j (hj : j < l.length), validS l[j] = true) : validsS l = true := by
  unfold validsS; rw [List.all_eq_true]; intro x hx; obtain ⟨j, hj, rfl⟩ := List.getElem_of_mem hx; exact h j hj
theorem rest_no {l : List (Int × Int)} {n i : Nat} (hn : n ≤ i) (hi : i < l.length) (h : interF (l.take n) l[i].1 ≠ l[i].2) : restOn l n = false := by
  unfold restOn
  rw [List.all_eq_false]
  refine ⟨l[i], ?_, by simpa using h⟩
  rw [List.mem_iff_getElem]
  exact ⟨i - n, by simp; omega, by rw [List.getElem_drop]; congr 1; omega⟩
theorem rest_all {l : List (Int × Int)} {n : Nat} (h : ∀ i (hi : i < l.length), n ≤ i → interF (l.take n) l[i].1 = l[i].2) : restOn l n = true := by
  unfold restOn
  rw [List.all_eq_true]
  intro q hq
  obtain ⟨j, hj, rfl⟩ := List.getElem_of_mem hq
  rw [List.getElem_drop]
  have hj' : n + j < l.length := by rw [List.length_drop] at hj; omega
  simpa using h (n + j) hj' (by omega)
/-- the polynomial through the first shares: the document's own answer at an element -/
theorem refInter_first {l : List (Int × Int)} (hv : validsS l = true) (hd : diffX (Xs l) = true) {N : Nat} (h1 : 1 ≤ N) (h2 : N ≤ 16) (hl : N ≤ l.length) {x : Int} (hx : El x) (a : Option Addr) (cap : Nat) (w : World) (h : PtsAt w a N (l.take N)) :
    Calls Tryz.prog 24 #[.slice a N cap, .int .i64 x] w fun e w' => e = .returned (.tuple #[.int .i64 (interF (l.take N) x), .int .i64 0]) ∧ Below w.heap.size w w' := by
  have := refInter_any a N cap (l.take N) x w h (max_small (by omega))
  rw [interE_ok (by rw [List.length_take]; omega) (pairs_take (valids_pairs hv) N) (okE_iff.2 hx) (diff_take hd N)] at this
  exact this
set_option maxHeartbeats 4000000 in
theorem refJoin_any (a : Option Addr) (n cap : Nat) (l : List (Int × Int)) (need : Int) (w : World) (h : PtsAt w a n l) (hn : n ≤ 1000) :
    Calls Tryz.prog 9 #[.slice a n cap, .int .i64 need] w (GivesN (joinE l need) w) := by
  have HH := Lib.hid h
  have HL := Lib.hid h.len
  have D0 : Hid (Below w.heap.size w w) := Lib.hid (Below.refl _ _)
  clear h
  by_cases g1 : need < 1
  · rw [joinE_arg (by omega)]
    go_enter Tryz.func9, Tryz.ntmps9
    go_wp2_with fail
    go_ret2
    exact ⟨rfl, Below.refl _ _⟩
  · by_cases g2 : 16 < need
    · rw [joinE_arg (by omega)]
      have g1' : ¬ need < 1 := g1
      go_enter Tryz.func9, Tryz.ntmps9
      go_wp2_with fail
      go_ret2
      exact ⟨rfl, Below.refl _ _⟩
    · obtain ⟨N, rfl⟩ : ∃ N : Nat, need = N := ⟨need.toNat, by omega⟩
      have hN1 : 1 ≤ N := by omega
      have hN16 : N ≤ 16 := by omega
      have HNN : Hid (1 ≤ (N : Int) ∧ (N : Int) ≤ 16) := Lib.hid (by omega)
      have HTN : Hid ((N : Int).toNat = N) := Lib.hid (by omega)
      clear g1 g2
      go_enter Tryz.func9, Tryz.ntmps9
      go_wp2_with fail
      go_loopw [6] (fun ii wr => ∃ k : Nat, k ≤ n ∧ ii = .int .i64 (k : Int) ∧ Hid (∀ j (hj : j < l.length), j < k → validS l[j] = true) ∧ Hid (Below w.heap.size w wr)) (fun ii _ => n - (intOf ii).toNat)
      case atStart => exact ⟨0, by omega, rfl, (show _ from fun j _ h => absurd h (by omega)), D0⟩
      case round =>
        clear D0
        obtain ⟨k, hk, rfl, hx, hD⟩ := hrel
        by_cases hkn : k < n
        · obtain ⟨b, off, rfl, -⟩ := HH.out.cells (by omega)
          have hkl : k < l.length := by rw [← HL.out]; exact hkn
          obtain ⟨hc1, hc2⟩ := (HH.out.bel hD.out).cell hkl
          obtain ⟨u, hu⟩ : ∃ u, u = l[k].1 := ⟨_, rfl⟩
          obtain ⟨v, hv⟩ : ∃ v, v = l[k].2 := ⟨_, rfl⟩
          rw [← hu] at hc1
          rw [← hv] at hc2
          have HUV : Hid (l[k] = (u, v)) := Lib.hid (by rw [hu, hv])
          clear hu hv
          cases hval : validS (u, v) with
          | false =>
            have hb : Hid (joinE l N = (0, 1)) := Lib.hid (joinE_valid (valids_no hkl (by rw [HUV.out]; exact hval)))
            have cV : Hid (∀ w', Calls Tryz.prog 23 #[.agg #[.int .i64 u, .int .i64 v]] w' fun e w'' => e = .returned (.bool false) ∧ Below w'.heap.size w' w'') := Lib.hid (fun w' => by rw [← hval]; exact refvalidS_any u v w')
            clear hval
            go_wp2_with fail
            refine (cV.out _).mono ?_
            rintro e w2 ⟨rfl, hb2⟩
            have hD2 := Lib.hid (hD.out.trans (hb2.mono hD.out.size))
            clear hb2
            go_wp2_with fail
            go_ret2
            exact ⟨by rw [hb.out]; rfl, hD2.out⟩
          | true =>
            have cV : Hid (∀ w', Calls Tryz.prog 23 #[.agg #[.int .i64 u, .int .i64 v]] w' fun e w'' => e = .returned (.bool true) ∧ Below w'.heap.size w' w'') := Lib.hid (fun w' => by rw [← hval]; exact refvalidS_any u v w')
            have hx2 : Hid (∀ j (hj : j < l.length), j < k + 1 → validS l[j] = true) := (show _ from fun j hj h => by
              by_cases e : j = k
              · subst e; rw [HUV.out]; exact hval
              · exact hx.out j hj (by omega))
            clear hval
            go_wp2_with fail
            refine (cV.out _).mono ?_
            rintro e w2 ⟨rfl, hb2⟩
            have hD2 := Lib.hid (hD.out.trans (hb2.mono hD.out.size))
            clear hb2 hc1 hc2
            go_wp2_with fail
            go_roundw
            case rel => exact ⟨k + 1, by omega, by go_num, hx2, hD2⟩
            case measure => simp [intOf]; omega
        · obtain rfl : k = n := by omega
          have HV : Hid (validsS l = true) := Lib.hid (valids_upto fun j hj => hx.out j hj (by rw [HL.out]; exact hj))
          have hXl : Hid ((Xs l).length = l.length) := Lib.hid (by simp)
          clear hx
          go_wp2_with fail
          obtain ⟨wo, rfl⟩ : ∃ wo : World, wo = wr := ⟨_, rfl⟩
          have hO0 : Hid (OwnP wo.heap.size wo (.slice none 0 0) (l.take (min 0 N))) := Lib.hid (by simp; exact World.ownsRow_nil _ _ _ _)
          go_loopw [7, 8] (fun pp ii wr => ∃ i : Nat, i ≤ k ∧ ii = .int .i64 (i : Int) ∧ Hid (Dif (Xs l) i 0) ∧ Hid (OwnP wo.heap.size wr pp (l.take (min i N))) ∧ Hid (Below wo.heap.size wo wr)) (fun _ ii _ => k - (intOf ii).toNat)
          case atStart => exact ⟨0, by omega, rfl, Lib.hid (Dif.start _), hO0, Lib.hid (Below.refl _ _)⟩
          case round =>
            clear hO0
            obtain ⟨i, hi, rfl, hdf, hO, hZ⟩ := hrel
            by_cases hik : i < k
            · have hil : i < l.length := by rw [← HL.out]; exact hik
              obtain ⟨b, off, rfl, -⟩ := HH.out.cells (by omega)
              go_wp2_with fail
              obtain ⟨wq, rfl⟩ : ∃ wq : World, wq = wr := ⟨_, rfl⟩
              have hO2 : Hid (OwnP wo.heap.size wq u7 (l.take (min i N))) := hO
              go_loopw [9] (fun kk wr => ∃ m : Nat, m ≤ i ∧ kk = .int .i64 (m : Int) ∧ Hid (Dif (Xs l) i m) ∧ Hid (OwnP wo.heap.size wr u7 (l.take (min i N))) ∧ Hid (Below wo.heap.size wo wr)) (fun kk _ => i - (intOf kk).toNat)
              case atStart => exact ⟨0, by omega, rfl, hdf, hO, hZ⟩
              case round =>
                clear hdf hO hZ hO2
                obtain ⟨m, hm, rfl, hdf, hO, hZ⟩ := hrel
                have hDD := Lib.hid (hD.out.trans (hZ.out.mono hD.out.size))
                by_cases hmi : m < i
                · have hml : m < l.length := by omega
                  have hca := ((HH.out.bel hDD.out).cell hml).1
                  have hcb := ((HH.out.bel hDD.out).cell hil).1
                  obtain ⟨p, hp⟩ : ∃ p, p = Xp l m := ⟨_, rfl⟩
                  obtain ⟨q, hq⟩ : ∃ q, q = Xp l i := ⟨_, rfl⟩
                  rw [← Xp_get hml, ← hp] at hca
                  rw [← Xp_get hil, ← hq] at hcb
                  have b1 : (0 : Int) ≤ (m : Int) := by omega
                  have b2 : (m : Int) < (k : Int) := by omega
                  have b3 : (0 : Int) ≤ (i : Int) := by omega
                  have b4 : (i : Int) < (k : Int) := by omega
                  by_cases hpq : p = q
                  · have hb : Hid (joinE l N = (0, 8)) := Lib.hid (joinE_twice HNN.out HV.out (Dif.no (l := Xs l) (k := i) (m := m) (by rw [hXl.out]; exact hil) (by rw [hXl.out]; exact hml) hmi (by simp; rw [← Xp_get hil, ← Xp_get hml, ← hp, ← hq]; exact hpq.symm)))
                    have c1 : (p == q) = true := by rw [hpq]; simp
                    clear hpq hp hq
                    go_wp2_with fail
                    go_quiet (fail)
                    go_wp2_with fail
                    go_ret2
                    exact ⟨by rw [hb.out]; rfl, below_drewN hDD.out _⟩
                  · have hdf2 : Hid (Dif (Xs l) i (m + 1)) := Lib.hid (hdf.out.next (by rw [hXl.out]; exact hil) (by rw [hXl.out]; exact hml) (by simp; rw [← Xp_get hil, ← Xp_get hml, ← hp, ← hq]; exact fun e => hpq e.symm))
                    have c1 : (p == q) = false := by simpa using hpq
                    clear hpq hp hq
                    go_wp2_with fail
                    go_quiet (fail)
                    go_wp2_with fail
                    go_roundw
                    case rel => exact ⟨m + 1, by omega, by go_num, hdf2, Lib.hid (own_drewN hO.out _), Lib.hid (below_drewN hZ.out _)⟩
                    case measure => simp [intOf]; omega
                · obtain rfl : m = i := by omega
                  have hdf3 : Hid (Dif (Xs l) (m + 1) 0) := Lib.hid hdf.out.done
                  by_cases hmN : m < N
                  · have hml : m < l.length := hil
                    obtain ⟨hca, hcb⟩ := (HH.out.bel hDD.out).cell hml
                    obtain ⟨x, hx⟩ : ∃ x, x = l[m].1 := ⟨_, rfl⟩
                    obtain ⟨y, hy⟩ : ∃ y, y = l[m].2 := ⟨_, rfl⟩
                    rw [← hx] at hca
                    rw [← hy] at hcb
                    have b3 : (0 : Int) ≤ (m : Int) := by omega
                    have b4 : (m : Int) < (k : Int) := by omega
                    have hTk : Hid (l.take (min (m + 1) N) = l.take (min m N) ++ [(x, y)]) := Lib.hid (by
                      rw [show min (m + 1) N = m + 1 by omega, show min m N = m by omega, List.take_succ_eq_append_getElem hml, hx, hy])
                    have hl1 : Hid ((l.take (min m N)).length + 1 ≤ 1000000) := Lib.hid (by simp; omega)
                    have hbW : Below wr.heap.size wr (wr.alloc (Obj.cells #[Value.int .i64 x, Value.int .i64 y] 50)).drew := ((Below.refl _ _).alloc (Nat.le_refl _) _).drew
                    have HO3 := Lib.hid (own_bel hO.out hbW)
                    have HZ3 := Lib.hid (hZ.out.trans (hbW.mono hZ.out.size))
                    have HP3 : Hid (PtsAt (wr.alloc (Obj.cells #[Value.int .i64 x, Value.int .i64 y] 50)).drew (some ⟨wr.heap.size, 0, none⟩) 1 [(x, y)]) := Lib.hid ((pts_one wr x y rfl).bel ((Below.refl _ _).drew))
                    clear hx hy hbW hO hZ hdf
                    go_wp2_with fail
                    go_region_law (first | (refine step_catP _ (by rfl) _ _ (by rfl) wo.heap.size u7 (l.take (min m N)) [(x, y)] _ 1 1 (by rfl) (by rfl) HO3.out HP3.out (fun h => by cases h) hl1.out HZ3.out.size ?_; intro v6 w6 hO6 hg6; have HO6 : Hid (OwnP wo.heap.size w6 v6 (l.take (min (m + 1) N))) := Lib.hid (by rw [hTk.out]; exact hO6); have HZ6 := Lib.hid (below_app HZ3.out HZ3.out.size HO3.out hg6); clear hO6 hg6) | fail "no arm")
                    all_goals
                      go_wp2_with fail
                      go_roundw
                      case rel => exact ⟨m + 1, by omega, by go_num, hdf3, HO6, HZ6⟩
                      case measure => simp [intOf]; omega
                  · have hO3 : Hid (OwnP wo.heap.size wr u7 (l.take (min (m + 1) N))) := Lib.hid (by
                      have := hO.out
                      rwa [show min m N = min (m + 1) N by omega] at this)
                    go_wp2_with fail
                    go_roundw
                    case rel => exact ⟨m + 1, by omega, by go_num, hdf3, hO3, hZ⟩
                    case measure => simp [intOf]; omega
            · obtain rfl : i = k := by omega
              have HDX : Hid (diffX (Xs l) = true) := Lib.hid (Dif.all (by rw [hXl.out, ← HL.out]; exact hdf.out))
              clear hdf
              have hDD := Lib.hid (hD.out.trans (hZ.out.mono hD.out.size))
              by_cases hiN : i < N
              · have hb : Hid (joinE l N = (0, 25)) := Lib.hid (joinE_few HNN.out HV.out HDX.out (by rw [← HL.out]; omega))
                have t1 : decide (i < N) = true := decide_eq_true hiN
                go_wp2_with fail
                go_ret2
                exact ⟨by rw [hb.out]; rfl, hDD.out⟩
              · have hNi : N ≤ i := by omega
                have t1 : decide (i < N) = false := decide_eq_false hiN
                have hnl : Hid (¬ ((l.length : Int) < (N : Int))) := Lib.hid (by rw [← HL.out]; omega)
                have hNl : Hid (N ≤ l.length) := Lib.hid (by rw [← HL.out]; exact hNi)
                have hO2 := hO.out
                rw [show min i N = N by omega] at hO2
                obtain ⟨a3, c3, rfl, i1, i2, i3⟩ := hO2.at2 (n := N) (by rw [List.length_take]; have := hNl.out; omega)
                have J3 := Lib.hid i3
                have cI : Hid (∀ (x : Int) (w' : World), El x → PtsAt w' a3 N (l.take N) → Calls Tryz.prog 24 #[.slice a3 N c3, .int .i64 x] w' fun e w'' => e = .returned (.tuple #[.int .i64 (interF (l.take N) x), .int .i64 0]) ∧ Below w'.heap.size w' w'') := Lib.hid (fun x w' hx h => refInter_first HV.out HDX.out hN1 hN16 hNl.out hx a3 c3 w' h)
                clear hO hO2 i1 i2 i3 hiN
                go_wp2_with fail
                obtain ⟨wq, rfl⟩ : ∃ wq : World, wq = wr := ⟨_, rfl⟩
                go_loopw [10] (fun ii wr => ∃ j : Nat, N ≤ j ∧ j ≤ i ∧ ii = .int .i64 (j : Int) ∧ Hid (∀ p (hp : p < l.length), N ≤ p → p < j → interF (l.take N) l[p].1 = l[p].2) ∧ Hid (Below wq.heap.size wq wr)) (fun ii _ => i - (intOf ii).toNat)
                case atStart => exact ⟨N, by omega, by omega, rfl, (show _ from fun p _ h h' => absurd h (by omega)), Lib.hid (Below.refl _ _)⟩
                case round =>
                  obtain ⟨j, hj1, hj2, rfl, hx, hY⟩ := hrel
                  have hEE := Lib.hid (hDD.out.trans (hY.out.mono hDD.out.size))
                  by_cases hji : j < i
                  · obtain ⟨b, off, rfl, -⟩ := HH.out.cells (by omega)
                    have hjl : j < l.length := by rw [← HL.out]; exact hji
                    obtain ⟨hca, hcb⟩ := (HH.out.bel hEE.out).cell hjl
                    obtain ⟨x, hxx⟩ : ∃ x, x = l[j].1 := ⟨_, rfl⟩
                    obtain ⟨y, hyy⟩ : ∃ y, y = l[j].2 := ⟨_, rfl⟩
                    rw [← hxx] at hca
                    rw [← hyy] at hcb
                    have hxE : Hid (El x) := Lib.hid (by
                      have := validsS_iff.1 HV.out _ (List.getElem_mem hjl)
                      rw [← hxx] at this
                      unfold El; omega)
                    have b1 : (0 : Int) ≤ (j : Int) := by omega
                    have b2 : (j : Int) < (i : Int) := by omega
                    obtain ⟨z, hz⟩ : ∃ z, z = interF (l.take N) x := ⟨_, rfl⟩
                    have cZ : Hid (∀ w', PtsAt w' a3 N (l.take N) → Calls Tryz.prog 24 #[.slice a3 N c3, .int .i64 x] w' fun e w'' => e = .returned (.tuple #[.int .i64 z, .int .i64 0]) ∧ Below w'.heap.size w' w'') := Lib.hid (fun w' h => by rw [hz]; exact cI.out x w' hxE.out h)
                    have hcb2 := hcb
                    by_cases hzy : z = y
                    · have hx2 : Hid (∀ p (hp : p < l.length), N ≤ p → p < j + 1 → interF (l.take N) l[p].1 = l[p].2) := (show _ from fun p hp h1 h2 => by
                        by_cases e : p = j
                        · subst e; rw [← hxx, ← hyy, ← hz]; exact hzy
                        · exact hx.out p hp h1 (by omega))
                      have c1 : (z == y) = true := by rw [hzy]; simp
                      have c2 : (z != y) = false := by rw [hzy]; simp
                      have HYY := Lib.hid hyy
                      clear hzy hz hxx hyy
                      go_wp2_with fail
                      refine (cZ.out _ (J3.out.bel hY.out)).mono ?_
                      rintro e w5 ⟨rfl, hb5⟩
                      have hY5 := Lib.hid (hY.out.trans (hb5.mono hY.out.size))
                      have hcy : w5.cell? ⟨b, off + j * 2 + 1, none⟩ = some (.int .i64 y) := (hb5.cell (p := ⟨b, off + j * 2 + 1, none⟩) (cell_ltF hcb)).trans hcb
                      clear hb5 hcb hca hcb2
                      go_wp2_with fail
                      go_roundw
                      case rel => exact ⟨j + 1, by omega, by omega, by go_num, hx2, hY5⟩
                      case measure => simp [intOf]; omega
                    · have hb : Hid (joinE l N = (0, 24)) := Lib.hid (joinE_proof HNN.out HV.out HDX.out (by have := hnl.out; omega) (by rw [HTN.out]; exact rest_no hj1 hjl (by rw [← hxx, ← hyy, ← hz]; exact hzy)))
                      have c1 : (z == y) = false := by simpa using hzy
                      have c2 : (z != y) = true := by simpa using hzy
                      clear hzy hz hxx hyy
                      go_wp2_with fail
                      refine (cZ.out _ (J3.out.bel hY.out)).mono ?_
                      rintro e w5 ⟨rfl, hb5⟩
                      have hE5 := Lib.hid (hEE.out.trans (hb5.mono hEE.out.size))
                      have hcy : w5.cell? ⟨b, off + j * 2 + 1, none⟩ = some (.int .i64 y) := (hb5.cell (p := ⟨b, off + j * 2 + 1, none⟩) (cell_ltF hcb)).trans hcb
                      clear hb5 hcb hca hcb2
                      go_wp2_with fail
                      go_ret2
                      exact ⟨by rw [hb.out]; rfl, hE5.out⟩
                  · obtain rfl : j = i := by omega
                    have hro : Hid (restOn l N = true) := Lib.hid (rest_all fun p hp h1 => hx.out p hp h1 (by rw [HL.out]; exact hp))
                    obtain ⟨z, hz⟩ : ∃ z, z = interF (l.take N) 0 := ⟨_, rfl⟩
                    have hb : Hid (joinE l N = (z, 0)) := Lib.hid (by rw [hz]; have := joinE_ok HNN.out HV.out HDX.out (by have := hnl.out; omega) (by rw [HTN.out]; exact hro.out); rw [HTN.out] at this; exact this)
                    have cZ : Hid (∀ w', PtsAt w' a3 N (l.take N) → Calls Tryz.prog 24 #[.slice a3 N c3, .int .i64 0] w' fun e w'' => e = .returned (.tuple #[.int .i64 z, .int .i64 0]) ∧ Below w'.heap.size w' w'') := Lib.hid (fun w' h => by rw [hz]; exact cI.out 0 w' (by decide) h)
                    clear hz hx
                    go_wp2_with fail
                    refine (cZ.out _ (J3.out.bel hY.out)).mono ?_
                    rintro e w5 ⟨rfl, hb5⟩
                    have hE5 := Lib.hid (hEE.out.trans (hb5.mono hEE.out.size))
                    clear hb5
                    go_wp2_with fail
                    go_ret2
                    exact ⟨by rw [hb.out]; rfl, hE5.out⟩
end Go.Proofs.YtcdnddjoonecdaaGreatDoor
