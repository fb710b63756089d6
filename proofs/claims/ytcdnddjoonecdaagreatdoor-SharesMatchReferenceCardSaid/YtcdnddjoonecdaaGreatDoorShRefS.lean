/-
  The document's own answers of layer 7: Element, Valid, Split.
-/
import Derived.Test.YtcdnddjoonecdaaGreatDoorShA
import Derived.Test.YtcdnddjoonecdaaGreatDoorFdC
set_option linter.unusedVariables false
set_option maxRecDepth 100000
namespace Go.Proofs.YtcdnddjoonecdaaGreatDoor
open Go.RowKit
open Fdp
theorem refel_any (x : Int) (w : World) : Calls Tryz.prog 17 #[.int .i64 x] w fun e w' => e = .returned (.bool (okE x)) ∧ w = w' := by
  by_cases h1 : x < 0
  · have hb : Hid (okE x = false) := Lib.hid (okE_no.2 (.inl h1))
    have e1 : ¬ 0 ≤ x := by omega
    go_enter Tryz.func17, Tryz.ntmps17
    go_wp2_with fail
    go_ret
    exact ⟨by rw [hb.out]; rfl, rfl⟩
  · have e1 : 0 ≤ x := by omega
    by_cases h2 : x < 2147483647
    · have hb : Hid (okE x = true) := Lib.hid (okE_iff.2 ⟨e1, by omega⟩)
      go_enter Tryz.func17, Tryz.ntmps17
      go_wp2_with fail
      go_ret
      exact ⟨by rw [hb.out]; rfl, rfl⟩
    · have hb : Hid (okE x = false) := Lib.hid (okE_no.2 (.inr (by omega)))
      have e2 : 2147483647 ≤ x := by omega
      go_enter Tryz.func17, Tryz.ntmps17
      go_wp2_with fail
      go_ret
      exact ⟨by rw [hb.out]; rfl, rfl⟩
theorem refel_yes (x : Int) (w : World) (h : okE x = true) : Calls Tryz.prog 17 #[.int .i64 x] w fun e w' => e = .returned (.bool true) ∧ w = w' := by
  rw [← h]; exact refel_any x w
theorem refel_no (x : Int) (w : World) (h : okE x = false) : Calls Tryz.prog 17 #[.int .i64 x] w fun e w' => e = .returned (.bool false) ∧ w = w' := by
  rw [← h]; exact refel_any x w
theorem refvalidS_any (x y : Int) (w : World) : Calls Tryz.prog 23 #[.agg #[.int .i64 x, .int .i64 y]] w fun e w' => e = .returned (.bool (validS (x, y))) ∧ Below w.heap.size w w' := by
  by_cases h1 : x < 1
  · have hb : Hid (validS (x, y) = false) := Lib.hid (by unfold validS; simp; omega)
    have e1 : ¬ 1 ≤ x := by omega
    go_enter Tryz.func23, Tryz.ntmps23
    go_wp2_with fail
    go_ret
    exact ⟨by rw [hb.out]; rfl, (Below.refl _ _).alloc (Nat.le_refl _) _⟩
  · have e1 : 1 ≤ x := by omega
    by_cases h2 : 16 < x
    · have hb : Hid (validS (x, y) = false) := Lib.hid (by unfold validS; simp; omega)
      have e2 : ¬ x ≤ 16 := by omega
      go_enter Tryz.func23, Tryz.ntmps23
      go_wp2_with fail
      go_ret
      exact ⟨by rw [hb.out]; rfl, (Below.refl _ _).alloc (Nat.le_refl _) _⟩
    · have e2 : x ≤ 16 := by omega
      have hb : Hid (validS (x, y) = okE y) := Lib.hid (by unfold validS; simp [e1, e2])
      go_enter Tryz.func23, Tryz.ntmps23
      go_wp2_with fail
      refine (refel_any _ _).mono ?_
      rintro e w' ⟨rfl, rfl⟩
      go_wp2_with fail
      go_ret
      exact ⟨by rw [hb.out]; rfl, (Below.refl _ _).alloc (Nat.le_refl _) _⟩
theorem refEval_ok (a : Option Addr) (n cap : Nat) (l : List Int) (x : Int) (w : World) (h : IntsAt w a n l) (hn : n ≤ 16) (hp : allE l = true) (hx : El x) :
    Calls Tryz.prog 18 #[.slice a n cap, .int .i64 x] w fun e w' => e = .returned (.tuple #[.int .i64 (evF x l), .int .i64 0]) ∧ Below w.heap.size w w' := by
  have := refEval_any a n cap l x w h (max_small (by omega))
  unfold evalE at this
  rw [hp, okE_iff.2 hx, if_pos (by rw [← h.len]; simpa using hn)] at this
  exact this
theorem splitE_total {s n t : Int} {r : List Int} (h : ¬ (1 ≤ t ∧ t ≤ 16)) : splitE s n t r = ([], 1) := by
  unfold splitE argsS; rw [decide_eq_false h, if_neg (by simp)]
theorem splitE_need {s n t : Int} {r : List Int} (h : ¬ (1 ≤ n ∧ n ≤ t)) : splitE s n t r = ([], 1) := by
  unfold splitE argsS; rw [decide_eq_false h, if_neg (by simp)]
theorem splitE_len {s n t : Int} {r : List Int} (h : ¬ ((r.length : Int) = n - 1)) : splitE s n t r = ([], 1) := by
  unfold splitE argsS; rw [decide_eq_false h, if_neg (by simp)]
theorem splitE_no {s n t : Int} {r : List Int} (h : argsS s n t r = false) : splitE s n t r = ([], 1) := by unfold splitE; rw [h, if_neg (by simp)]
/-- the shares with the X up to k -/
theorem sharesL_next (c : List Int) (k : Nat) : sharesL c (k + 1) = sharesL c k ++ [((k : Int) + 1, evF ((k : Int) + 1) c)] := by
  unfold sharesL; rw [List.range_succ, List.map_append]; rfl
/-- the call answers with a list of shares and an error -/
def GivesSh (r : List (Int × Int) × Int) (w : World) (e : Ending) (w' : World) : Prop := ∃ v, e = .returned (.tuple #[v, .int .i64 r.2]) ∧ PtsOk w' v r.1 ∧ Below w.heap.size w w'
theorem pts_none (w : World) : PtsOk w (.slice none 0 0) [] := ⟨none, 0, rfl, Nat.le_refl _, by unfold maxLen; omega, fun _ => rfl, pts_nil w⟩
theorem OwnSh.ok {B : Nat} {w : World} {v : Value} {l : List (Int × Int)} (h : OwnSh B w v l) : PtsOk w v l := by
  rcases h.2 with ⟨rfl, h0⟩ | ⟨g, cap, cur, rfl, h1, h2, h3, h4, h5, h6⟩
  · obtain rfl : l = [] := List.eq_nil_of_length_eq_zero h0
    exact pts_none w
  · obtain ⟨a', c', e, k1, k2, k3⟩ := h.at
    cases e
    exact ⟨_, _, rfl, k1, k2, (fun e => by cases e), k3⟩
set_option maxHeartbeats 4000000 in
theorem refSplit_any (secret need total : Int) (a : Option Addr) (n cap : Nat) (l : List Int) (w : World) (h : IntsAt w a n l) (hn : n ≤ maxLen) (hb1 : -9223372036854775808 ≤ need ∧ need ≤ 9223372036854775807) :
    Calls Tryz.prog 7 #[.int .i64 secret, .int .i64 need, .int .i64 total, .slice a n cap] w (GivesSh (splitE secret need total l) w) := by
  have hn' : n ≤ 9223372036854775807 := by unfold maxLen at hn; omega
  have HH := Lib.hid h
  have HL := Lib.hid h.len
  have D0 : Hid (Below w.heap.size w w) := Lib.hid (Below.refl _ _)
  clear h hn
  cases hs : okE secret with
  | false =>
    rw [splitE_no (by unfold argsS; rw [hs]; simp)]
    have HS := Lib.hid hs
    clear hs hb1
    go_enter Tryz.func7, Tryz.ntmps7
    go_wp2_with fail
    refine (refel_no _ _ HS.out).mono ?_
    rintro e w' ⟨rfl, rfl⟩
    go_wp2_with fail
    go_ret2
    exact ⟨_, rfl, pts_none _, Below.refl _ _⟩
  | true =>
    have HS := Lib.hid hs
    clear hs
    by_cases g1 : total < 1
    · skip
      rw [splitE_total (by omega)]
      go_enter Tryz.func7, Tryz.ntmps7
      go_wp2_with fail
      refine (refel_yes _ _ HS.out).mono ?_
      rintro e w' ⟨rfl, rfl⟩
      go_wp2_with fail
      go_ret2
      exact ⟨_, rfl, pts_none _, Below.refl _ _⟩
    · have g1' : 1 ≤ total := by omega
      by_cases g2 : 16 < total
      · skip
        rw [splitE_total (by omega)]
        go_enter Tryz.func7, Tryz.ntmps7
        go_wp2_with fail
        refine (refel_yes _ _ HS.out).mono ?_
        rintro e w' ⟨rfl, rfl⟩
        go_wp2_with fail
        go_ret2
        exact ⟨_, rfl, pts_none _, Below.refl _ _⟩
      · have g2' : total ≤ 16 := by omega
        by_cases g3 : need < 1
        · skip
          rw [splitE_need (by omega)]
          go_enter Tryz.func7, Tryz.ntmps7
          go_wp2_with fail
          refine (refel_yes _ _ HS.out).mono ?_
          rintro e w' ⟨rfl, rfl⟩
          go_wp2_with fail
          go_ret2
          exact ⟨_, rfl, pts_none _, Below.refl _ _⟩
        · have g3' : 1 ≤ need := by omega
          by_cases g4 : total < need
          · skip
            rw [splitE_need (by omega)]
            go_enter Tryz.func7, Tryz.ntmps7
            go_wp2_with fail
            refine (refel_yes _ _ HS.out).mono ?_
            rintro e w' ⟨rfl, rfl⟩
            go_wp2_with fail
            go_ret2
            exact ⟨_, rfl, pts_none _, Below.refl _ _⟩
          · have g4' : need ≤ total := by omega
            have e1 : IntKind.i64.wrap (need - 1) = need - 1 := IntWalk.i64_in _ (by omega)
            by_cases g5 : (n : Int) = need - 1
            · have e2 : ((n : Int) == need - 1) = true := by rw [g5]; simp
              have e3 : ((n : Int) != need - 1) = false := by rw [g5]; simp
              have hA0 : Hid (argsS secret need total l = allE l) := Lib.hid (by
                unfold argsS
                rw [HS.out, decide_eq_true (p := 1 ≤ total ∧ total ≤ 16) ⟨g1', g2'⟩, decide_eq_true (p := 1 ≤ need ∧ need ≤ total) ⟨g3', g4'⟩, decide_eq_true (p := (l.length : Int) = need - 1) (by rw [← HL.out]; exact g5)]
                simp)
              have hn15 : n ≤ 15 := by omega
              have G5 := Lib.hid g5
              clear g5
              go_enter Tryz.func7, Tryz.ntmps7
              go_wp2_with fail
              refine (refel_yes _ _ HS.out).mono ?_
              rintro e w' ⟨rfl, rfl⟩
              go_wp2_with fail
              have hO1 : Hid (OwnI w.heap.size (w.alloc (Obj.cells #[Value.int .i64 secret] 3)) (.slice (some ⟨w.heap.size, 0, none⟩) 1 1) (secret :: l.take 0)) := Lib.hid (World.ownsRow_lit w #[Value.int .i64 secret] 1 (Nat.le_refl _) (by unfold maxLen; omega) rfl)
              have hD1 : Hid (Below w.heap.size w (w.alloc (Obj.cells #[Value.int .i64 secret] 3))) := Lib.hid ((Below.refl _ _).alloc (Nat.le_refl _) _)
              have hx0 : Hid (∀ j (hj : j < l.length), j < 0 → okE l[j] = true) := (show _ from fun j _ h => absurd h (by omega))
              go_loopw [10, 11] (fun v ii wr => ∃ k : Nat, k ≤ n ∧ ii = .int .i64 (k : Int) ∧ Hid (∀ j (hj : j < l.length), j < k → okE l[j] = true) ∧ Hid (OwnI w.heap.size wr v (secret :: l.take k)) ∧ Hid (Below w.heap.size w wr)) (fun _ ii _ => n - (intOf ii).toNat)
              case atStart => exact ⟨0, by omega, rfl, hx0, hO1, hD1⟩
              case round =>
                clear hO1 hD1 hx0
                obtain ⟨k, hk, rfl, hx, hO, hD⟩ := hrel
                by_cases hkn : k < n
                · obtain ⟨b, off, rfl, -⟩ := HH.out.cells (by omega)
                  have hkl : k < l.length := by rw [← HL.out]; exact hkn
                  have hc := (HH.out.bel hD.out).cell hkl
                  obtain ⟨y, hy⟩ : ∃ y, y = l[k] := ⟨_, rfl⟩
                  rw [← hy] at hc
                  have HY := Lib.hid hy
                  clear hy
                  cases hye : okE y with
                  | false =>
                    have hb : Hid (splitE secret need total l = ([], 1)) := Lib.hid (splitE_no (by rw [hA0.out]; exact allE_no hkl (by rw [← HY.out]; exact hye)))
                    have HYE := Lib.hid hye
                    clear hye
                    go_wp2_with fail
                    refine (refel_no _ _ HYE.out).mono ?_
                    rintro e w' ⟨rfl, rfl⟩
                    go_wp2_with fail
                    go_ret2
                    unfold GivesSh
                    rw [hb.out]
                    exact ⟨_, rfl, pts_none _, hD.out⟩
                  | true =>
                    have HYE := Lib.hid hye
                    clear hye
                    have hl1 : Hid ((secret :: l.take k).length + 1 ≤ 1000000) := Lib.hid (by simp; omega)
                    have hO2 := Lib.hid (own_bel hO.out ((Below.refl _ wr).alloc (Nat.le_refl _) (Obj.cells #[Value.int .i64 y] 3)))
                    have hD2 := Lib.hid (hD.out.alloc hD.out.size (Obj.cells #[Value.int .i64 y] 3))
                    have hTk : Hid (secret :: l.take (k + 1) = (secret :: l.take k) ++ [y]) := Lib.hid (by rw [List.take_succ_eq_append_getElem hkl, HY.out]; rfl)
                    have hx2 : Hid (∀ j (hj : j < l.length), j < k + 1 → okE l[j] = true) := (show _ from fun j hj h => by
                      by_cases e : j = k
                      · subst e; rw [← HY.out]; exact HYE.out
                      · exact hx.out j hj (by omega))
                    go_wp2_with fail
                    refine (refel_yes _ _ HYE.out).mono ?_
                    rintro e w' ⟨rfl, rfl⟩
                    go_wp2_with (at_builtin; refine wpList_catI _ rfl _ _ rfl w.heap.size _ (secret :: l.take k) [y] _ 1 1 rfl rfl hO2.out (ints_one _ _ (by simp)) (fun h => by cases h) hl1.out hD2.out.size ?_)
                    intro v6 w6 hO6 hg6 ha6
                    have hO7 : Hid (OwnI w.heap.size w6 v6 (secret :: l.take (k + 1))) := Lib.hid (by rw [hTk.out]; exact hO6)
                    have hD7 := Lib.hid (below_app hD2.out hD2.out.size hO2.out hg6)
                    clear hO6 hg6 ha6 hO2 hD2 hO hD hc
                    go_wp2_with fail
                    go_roundw
                    case rel => exact ⟨k + 1, by omega, by go_num, hx2, hO7, hD7⟩
                    case measure => simp [intOf]; omega
                · obtain rfl : k = n := by omega
                  have hAl : Hid (allE l = true) := Lib.hid (allE_upto fun j hj => hx.out j hj (by rw [HL.out]; exact hj))
                  have hans : Hid (splitE secret need total l = (sharesL (secret :: l) total.toNat, 0)) := Lib.hid (by unfold splitE; rw [hA0.out, hAl.out, if_pos rfl])
                  have hO1 := hO.out
                  rw [List.take_of_length_le (by rw [← HL.out]; exact Nat.le_refl _)] at hO1
                  obtain ⟨pa, pc, rfl, j1, j2, j3⟩ := hO1.at2 (n := k + 1) (by simp; exact HL.out)
                  obtain ⟨k1, hk1⟩ : ∃ k1, k1 = k + 1 := ⟨_, rfl⟩
                  rw [← hk1] at j3 ⊢
                  have J3 := Lib.hid j3
                  have hk16 : Hid (k1 ≤ 16) := Lib.hid (by omega)
                  have hcE : Hid (allE (secret :: l) = true) := Lib.hid (allE_iff.2 fun c hc => by
                    rcases List.mem_cons.1 hc with rfl | hc
                    · exact okE_iff.1 HS.out
                    · exact allE_iff.1 hAl.out c hc)
                  obtain ⟨T, hT⟩ : ∃ T : Nat, T = total.toNat := ⟨_, rfl⟩
                  obtain rfl : total = (T : Int) := by omega
                  have hT16 : T ≤ 16 := by omega
                  have hT1 : 1 ≤ T := by omega
                  have hTT : Hid ((T : Int).toNat = T) := Lib.hid (by omega)
                  clear hO hO1 j1 j2 j3 hk1 hx hT
                  go_wp2_with fail
                  obtain ⟨wo, rfl⟩ : ∃ wo : World, wo = wr := ⟨_, rfl⟩
                  have hSh0 : Hid (OwnSh wo.heap.size wo (.slice none 0 0) (sharesL (secret :: l) 0)) := Lib.hid (World.ownsRow_nil _ _ _ _)
                  go_loopw [12, 13] (fun v ii wr => ∃ (j x : Nat), Hid (x = j + 1) ∧ j ≤ T ∧ ii = .int .i64 (x : Int) ∧ Hid (OwnSh wo.heap.size wr v (sharesL (secret :: l) j)) ∧ Hid (Below wo.heap.size wo wr)) (fun _ ii _ => T + 1 - (intOf ii).toNat)
                  case atStart => exact ⟨0, 1, Lib.hid rfl, by omega, rfl, hSh0, Lib.hid (Below.refl _ _)⟩
                  case round =>
                    clear hSh0
                    obtain ⟨j, x, hxj, hj, rfl, hO, hZ⟩ := hrel
                    have hx1 := hxj.out
                    by_cases hjT : x ≤ T
                    · have hx16 : Hid (El (x : Int)) := Lib.hid (by unfold El; omega)
                      obtain ⟨y, hy⟩ : ∃ y, y = evF (x : Int) (secret :: l) := ⟨_, rfl⟩
                      have cE : Hid (∀ w', IntsAt w' pa k1 (secret :: l) → Calls Tryz.prog 18 #[.slice pa k1 pc, .int .i64 (x : Int)] w' fun e w'' => e = .returned (.tuple #[.int .i64 y, .int .i64 0]) ∧ Below w'.heap.size w' w'') := Lib.hid (fun w' h => by rw [hy]; exact refEval_ok _ _ _ _ _ _ h hk16.out hcE.out hx16.out)
                      have hnx : Hid (sharesL (secret :: l) x = sharesL (secret :: l) j ++ [((x : Int), y)]) := Lib.hid (by
                        rw [hx1, sharesL_next, hy, hx1]; simp)
                      have hl1 : Hid ((sharesL (secret :: l) j).length + 1 ≤ 1000000) := Lib.hid (by rw [sharesL_len]; omega)
                      clear hy hx1
                      go_wp2_with fail
                      refine (cE.out _ (J3.out.bel hZ.out)).mono ?_
                      rintro e w5 ⟨rfl, hb⟩
                      have hZ5 := Lib.hid (hZ.out.trans (hb.mono hZ.out.size))
                      have hO5 := Lib.hid (own_bel (own_bel hO.out hb) ((Below.refl _ w5).alloc (Nat.le_refl _) (Obj.cells #[Value.int .i64 (x : Int), Value.int .i64 y] 25)))
                      have hZ6 := Lib.hid (hZ5.out.alloc hZ5.out.size (Obj.cells #[Value.int .i64 (x : Int), Value.int .i64 y] 25))
                      clear hb hO hZ hZ5
                      go_wp2_with (at_builtin; refine wpList_catSh _ rfl _ _ rfl wo.heap.size _ (sharesL (secret :: l) j) [((x : Int), y)] _ 1 1 rfl rfl hO5.out (sh_one _ _ _ (by simp)) (fun h => by cases h) hl1.out hZ6.out.size ?_)
                      intro v7 w7 hO7 hg7
                      have hO8 : Hid (OwnSh wo.heap.size w7 v7 (sharesL (secret :: l) x)) := Lib.hid (by rw [hnx.out]; exact hO7)
                      have hZ8 := Lib.hid (below_app hZ6.out hZ6.out.size hO5.out hg7)
                      clear hO7 hg7 hO5 hZ6
                      go_wp2_with fail
                      go_roundw
                      case rel => exact ⟨x, x + 1, Lib.hid rfl, by omega, by go_num, hO8, hZ8⟩
                      case measure => simp [intOf]; omega
                    · obtain rfl : j = T := by omega
                      clear hx1
                      go_wp2_with fail
                      go_ret2
                      unfold GivesSh
                      rw [hans.out, hTT.out]
                      exact ⟨_, rfl, OwnSh.ok hO.out, hD.out.trans (hZ.out.mono hD.out.size)⟩
            · have e2 : ((n : Int) == need - 1) = false := by simpa using g5
              have e3 : ((n : Int) != need - 1) = true := by simpa using g5
              rw [splitE_len (by rw [← HL.out]; exact g5)]
              go_enter Tryz.func7, Tryz.ntmps7
              go_wp2_with fail
              refine (refel_yes _ _ HS.out).mono ?_
              rintro e w' ⟨rfl, rfl⟩
              go_wp2_with fail
              go_ret2
              exact ⟨_, rfl, pts_none _, Below.refl _ _⟩
end Go.Proofs.YtcdnddjoonecdaaGreatDoor
