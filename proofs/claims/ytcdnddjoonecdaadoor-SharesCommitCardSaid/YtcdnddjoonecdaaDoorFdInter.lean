/-
  The program's Interpolate (layer 6).
-/
import Derived.Test.YtcdnddjoonecdaaDoorFdCo
set_option linter.unusedVariables false
set_option maxRecDepth 100000
namespace Go.Proofs.YtcdnddjoonecdaaDoor
open Go.RowKit
open Fdp
set_option maxHeartbeats 2000000 in
theorem through_any (a : Option Addr) (n cap : Nat) (l : List (Int × Int)) (x : Int) (w : World) (h : PtsAt w a n l) (hp : pairsE l = true) (hd : diffX (Xs l) = true) (hn : n ≤ 16) (h0 : 0 < n) (hx : 0 ≤ x ∧ x < 2147483647) :
    Calls Tryd.prog 70 #[.slice a n cap, .int .i64 x] w fun e w' => e = .returned (.int .i64 (interF l x)) ∧ Below w.heap.size w w' := by
  have HH := Lib.hid h
  have HP := Lib.hid hp
  have HDX := Lib.hid hd
  have HO := Lib.hid hx
  clear h hp hd hx
  have e1 : IntKind.i64.wrap ((n : Int) - 1) = (n : Int) - 1 := IntWalk.i64_in _ (by omega)
  go_enter Tryd.func70, Tryd.ntmps70
  go_wp2_with fail
  refine (coefs_any HH.out HP.out hn h0).mono ?_
  rintro e w5 ⟨R, D, rfl, hD, hco, hb⟩
  have HD := Lib.hid hD
  have HCO := Lib.hid hco
  have HB := Lib.hid hb
  clear hD hco hb
  go_wp2_with fail
  go_loopw [5, 7] (fun vv ii wr => ∃ (z v : Int) (k : Nat), k ≤ n ∧ vv = .int .i64 v ∧ ii = .int .i64 z ∧ Hid (z = (k : Int) - 1) ∧ Hid (0 ≤ v ∧ v < 2147483647) ∧ Hid (Nest l x k v) ∧ Hid (Below w5.heap.size w5 wr)) (fun _ ii _ => (intOf ii + 1).toNat)
  case atStart => exact ⟨_, 0, n, by omega, rfl, rfl, Lib.hid rfl, Lib.hid (by omega), Lib.hid (by have := Nest.start l x; rw [← HH.out.len] at this; exact this), Lib.hid (Below.refl _ _)⟩
  case round =>
    obtain ⟨z, v, k, hk, rfl, rfl, hz, hv, hN, hE⟩ := hrel
    have hzz := hz.out
    by_cases hk0 : k = 0
    · subst hk0
      have hz0 : z < 0 := by omega
      have e : v = interF l x := hN.out.done hv.out HP.out HDX.out (by rw [← HH.out.len]; exact h0)
      subst e
      clear hzz
      go_wp2_with fail
      go_ret
      exact ⟨rfl, HB.out.trans (hE.out.mono HB.out.size)⟩
    · obtain ⟨j, hj⟩ : ∃ j, j = k - 1 := ⟨_, rfl⟩
      obtain rfl : z = (j : Int) := by omega
      have hjn : j < n := by omega
      have hjl : j < l.length := by rw [← HH.out.len]; exact hjn
      have hjD : j < D.length := by rw [HCO.out.len]; exact hjl
      have hkj : Hid (k = j + 1) := Lib.hid (by omega)
      have hjk : j ≤ n := by omega
      clear hk0 hj hzz hz
      obtain ⟨u, hu⟩ : ∃ u, u = Xp l j := ⟨_, rfl⟩
      obtain ⟨c, hc⟩ : ∃ c, c = D[j] := ⟨_, rfl⟩
      have hN2 : Hid (Nest l x j (sumF (mulF v (difF x u)) c)) := Lib.hid (Nest.step (by rw [← hkj.out]; exact hN.out) HCO.out hjD hc hu)
      have hur : Hid (0 ≤ u ∧ u < 2147483647) := Lib.hid (by rw [hu, Xp_get hjl]; exact (pairsE_iff.1 HP.out _ (List.getElem_mem _)).1)
      have hcr : Hid (0 ≤ c ∧ c < 2147483647) := Lib.hid (by rw [hc]; exact HCO.out.el _ (List.getElem_mem _))
      obtain ⟨b, off, rfl, -⟩ := HH.out.cells h0
      have hcx := ((HH.out.bel (HB.out.trans (hE.out.mono HB.out.size))).cell hjl).1
      rw [← Xp_get hjl, ← hu] at hcx
      have hcc := (HD.out.bel hE.out).cell hjD
      rw [← hc, Nat.zero_add] at hcc
      have HU := Lib.hid hu
      have HC := Lib.hid hc
      have b1 : (0 : Int) ≤ (j : Int) := by omega
      have b2 : (j : Int) < (n : Int) := by omega
      clear hu hc
      go_wp2_with fail
      go_quiet ((first | (go_at_call 76; exact quiet_same (dif_any _ _ _ HO.out hur.out)) | (go_at_call 59; exact quiet_same (product_any _ _ _ hv.out (difF_range _ _))) | (go_at_call 58; exact quiet_same (fsum_any _ _ _ (mulF_range _ _) hcr.out))))
      go_wp2_with fail
      go_roundw
      case rel => exact ⟨(j : Int) - 1, _, j, hjk, rfl, rfl, Lib.hid rfl, Lib.hid (sumF_range _ _), hN2, Lib.hid (below_drewN hE.out _)⟩
      case measure => simp [intOf]
def interE (l : List (Int × Int)) (x : Int) : Int × Int := if decide (1 ≤ l.length ∧ l.length ≤ 16) && pairsE l && okE x then (if diffX (Xs l) then (interF l x, 0) else (0, 8)) else (0, 1)
theorem pairs_yes (a : Option Addr) (n cap : Nat) (l : List (Int × Int)) (w : World) (h : PtsAt w a n l) (hn : n ≤ 1000000) (hb : pairsE l = true) :
    Calls Tryd.prog 68 #[.slice a n cap] w fun e w' => e = .returned (.bool true) ∧ Below w.heap.size w w' := by
  rw [← hb]; exact pairs_any a n cap l w h hn
theorem pairs_no (a : Option Addr) (n cap : Nat) (l : List (Int × Int)) (w : World) (h : PtsAt w a n l) (hn : n ≤ 1000000) (hb : pairsE l = false) :
    Calls Tryd.prog 68 #[.slice a n cap] w fun e w' => e = .returned (.bool false) ∧ Below w.heap.size w w' := by
  rw [← hb]; exact pairs_any a n cap l w h hn
theorem repeats_no (a : Option Addr) (n cap : Nat) (l : List (Int × Int)) (w : World) (h : PtsAt w a n l) (hn : n ≤ 1000000) (hcap : n ≤ cap) (hcm : cap ≤ maxLen) (hb : diffX (Xs l) = true) :
    Calls Tryd.prog 69 #[.slice a n cap] w fun e w' => e = .returned (.bool false) ∧ Below w.heap.size w w' := by
  have := repeats_any a n cap l w h hn hcap hcm
  rw [hb] at this; exact this
theorem repeats_yes (a : Option Addr) (n cap : Nat) (l : List (Int × Int)) (w : World) (h : PtsAt w a n l) (hn : n ≤ 1000000) (hcap : n ≤ cap) (hcm : cap ≤ maxLen) (hb : diffX (Xs l) = false) :
    Calls Tryd.prog 69 #[.slice a n cap] w fun e w' => e = .returned (.bool true) ∧ Below w.heap.size w w' := by
  have := repeats_any a n cap l w h hn hcap hcm
  rw [hb] at this; exact this
set_option maxHeartbeats 2000000 in
theorem fInter_any (a : Option Addr) (n cap : Nat) (l : List (Int × Int)) (x : Int) (w : World) (h : PtsAt w a n l) (hcap : n ≤ cap) (hcm : cap ≤ maxLen) :
    Calls Tryd.prog 56 #[.slice a n cap, .int .i64 x] w (GivesN (interE l x) w) := by
  unfold interE
  have hn' : n ≤ 9223372036854775807 := by unfold maxLen at hcm; omega
  have HCM := Lib.hid hcm
  have HCP := Lib.hid hcap
  have HH := Lib.hid h
  have hlen := h.len
  clear h hcm hcap
  by_cases h1 : 1 ≤ n ∧ n ≤ 16
  · obtain ⟨h1, h16⟩ := h1
    have g1 : ¬ n < 1 := by omega
    have g16 : ¬ 16 < n := by omega
    have hn6 : n ≤ 1000000 := by omega
    cases hA : pairsE l with
    | false =>
      rw [if_neg (by simp)]
      have HA := Lib.hid hA
      clear hA hlen
      go_enter Tryd.func56, Tryd.ntmps56
      go_wp2_with fail
      refine (pairs_no _ _ _ l _ HH.out hn6 HA.out).mono ?_
      rintro e w1 ⟨rfl, hb⟩
      have D1 := Lib.hid hb
      clear hb
      go_wp2_with fail
      go_ret2
      exact ⟨rfl, D1.out⟩
    | true =>
      have HA := Lib.hid hA
      clear hA
      cases hX : okE x with
      | false =>
        rw [if_neg (by simp)]
        have HX : Hid (allE [x] = false) := Lib.hid (by rw [all_one]; exact hX)
        clear hX hlen
        go_enter Tryd.func56, Tryd.ntmps56
        go_wp2_with fail
        refine (pairs_yes _ _ _ l _ HH.out hn6 HA.out).mono ?_
        rintro e w1 ⟨rfl, hb⟩
        have D1 := Lib.hid hb
        clear hb
        go_wp2_with fail
        refine (elements_no _ _ _ [x] _ (ints_one _ _ (by simp)) (max_small (by decide)) HX.out).mono ?_
        rintro e w' ⟨rfl, rfl⟩
        go_wp2_with fail
        go_ret2
        exact ⟨rfl, D1.out.alloc D1.out.size _⟩
      | true =>
        rw [if_pos (by rw [← hlen]; simp; omega)]
        have HX : Hid (allE [x] = true) := Lib.hid (by rw [all_one]; exact hX)
        have HO := Lib.hid (okE_iff.1 hX)
        clear hX hlen
        cases hd : diffX (Xs l) with
        | false =>
          rw [if_neg (by simp)]
          have HD := Lib.hid hd
          clear hd
          go_enter Tryd.func56, Tryd.ntmps56
          go_wp2_with fail
          refine (pairs_yes _ _ _ l _ HH.out hn6 HA.out).mono ?_
          rintro e w1 ⟨rfl, hb⟩
          have D1 := Lib.hid hb
          clear hb
          go_wp2_with fail
          refine (elements_yes _ _ _ [x] _ (ints_one _ _ (by simp)) (max_small (by decide)) HX.out).mono ?_
          rintro e w' ⟨rfl, rfl⟩
          have D2 := Lib.hid (D1.out.alloc D1.out.size (Obj.cells #[Value.int .i64 x] 3))
          clear D1
          go_wp2_with fail
          refine (repeats_yes _ _ _ l _ (HH.out.bel D2.out) hn6 HCP.out HCM.out HD.out).mono ?_
          rintro e w3 ⟨rfl, hb⟩
          have D3 := Lib.hid (D2.out.trans (hb.mono D2.out.size))
          clear hb
          go_wp2_with fail
          go_ret2
          exact ⟨rfl, D3.out⟩
        | true =>
          rw [if_pos rfl]
          have HD := Lib.hid hd
          clear hd
          go_enter Tryd.func56, Tryd.ntmps56
          go_wp2_with fail
          refine (pairs_yes _ _ _ l _ HH.out hn6 HA.out).mono ?_
          rintro e w1 ⟨rfl, hb⟩
          have D1 := Lib.hid hb
          clear hb
          go_wp2_with fail
          refine (elements_yes _ _ _ [x] _ (ints_one _ _ (by simp)) (max_small (by decide)) HX.out).mono ?_
          rintro e w' ⟨rfl, rfl⟩
          have D2 := Lib.hid (D1.out.alloc D1.out.size (Obj.cells #[Value.int .i64 x] 3))
          clear D1
          go_wp2_with fail
          refine (repeats_no _ _ _ l _ (HH.out.bel D2.out) hn6 HCP.out HCM.out HD.out).mono ?_
          rintro e w3 ⟨rfl, hb⟩
          have D3 := Lib.hid (D2.out.trans (hb.mono D2.out.size))
          clear hb
          go_wp2_with fail
          refine (through_any _ _ _ l _ _ (HH.out.bel D3.out) HA.out HD.out h16 h1 HO.out).mono ?_
          rintro e w4 ⟨rfl, hb⟩
          have D4 := Lib.hid (D3.out.trans (hb.mono D3.out.size))
          clear hb
          go_wp2_with fail
          go_ret2
          exact ⟨rfl, D4.out⟩
  · rw [if_neg (by rw [← hlen]; simp; omega)]
    clear hlen
    by_cases g1 : n < 1
    · have hn0 : n ≤ 16 := by omega
      go_enter Tryd.func56, Tryd.ntmps56
      go_wp2_with fail
      go_ret2
      exact ⟨rfl, Below.refl _ _⟩
    · have g16 : 16 < n := by omega
      go_enter Tryd.func56, Tryd.ntmps56
      go_wp2_with fail
      go_ret2
      exact ⟨rfl, Below.refl _ _⟩
end Go.Proofs.YtcdnddjoonecdaaDoor
