/-
  The helper of the statements of layer 7 that computes the coefficients of the polynomial through points.
-/
import Derived.Test.YtcdnddjoonecdaaShRow
set_option linter.unusedVariables false
set_option maxRecDepth 100000
namespace Go.Proofs.Ytcdnddjoonecdaa
open Go.RowKit
open Fdp
set_option maxHeartbeats 8000000 in
theorem lthrough_any (a : Option Addr) (n cap : Nat) (l : List (Int × Int)) (w : World) (h : PtsAt w a n l) (hn : n ≤ 16) (hp : pairsE l = true) (hd : diffX (Xs l) = true) :
    Calls Try.prog 14 #[.slice a n cap] w fun e w' => ∃ R o, e = .returned (.slice (some ⟨R, 0, none⟩) n n) ∧ RowB R o w' ∧ w.heap.size ≤ R ∧ OutT l l.length o ∧ Below w.heap.size w w' := by
  obtain ⟨j0, hj0, jz0, jz1, jz2⟩ := info_parts infoI
  have HH := Lib.hid h
  have HL := Lib.hid h.len
  have HP := Lib.hid hp
  have hD := diff_of hd (Xs_range hp)
  have hnd : Hid (∀ i k, i < l.length → k < l.length → k ≠ i → ¬ (2147483647 : Int) ∣ Xp l i - Xp l k) := Lib.hid (fun i k hi hk hne he => by
    rw [Xp_get hi, Xp_get hk] at he
    rcases Nat.lt_or_gt_of_ne hne with h' | h'
    · have := List.pairwise_iff_getElem.1 hD k i (by simpa using hk) (by simpa using hi) h'
      simp only [List.getElem_map] at this
      exact this (E.symm he)
    · have := List.pairwise_iff_getElem.1 hD i k (by simpa using hi) (by simpa using hk) h'
      simp only [List.getElem_map] at this
      exact this he)
  clear h hp hd hD
  go_enter Try.func14, Try.ntmps14
  go_wp2_with (at_make; refine wpList_make_full _ rfl _ _ 22 rfl w.heap.size 3 j0 (.int .i64 0) 1 Try.underlying22 hj0 jz0 jz1 _ _ _ _ n rfl rfl (by omega) (by omega) (by rw [jz2]; omega) (by unfold maxLen; omega) (Nat.le_refl _) ?_)
  intro w1 hown hgrow
  obtain ⟨R, hR⟩ : ∃ R, R = w.heap.size := ⟨_, rfl⟩
  have D1 : Hid (Below w.heap.size w w1) := Lib.hid ((Below.refl _ _).grown hgrow (Nat.le_refl _) (fun k h => by cases h))
  have hR1 : Hid (RowB R (zerosL n) w1) := Lib.hid (by rw [hR]; exact row_of_own hown)
  have hT0 : Hid (OutT l 0 (zerosL n)) := Lib.hid (by rw [HL.out]; exact OutT.start l)
  have hRb : Hid (w.heap.size ≤ R) := Lib.hid (by rw [hR]; exact Nat.le_refl _)
  rw [← hR] at ⊢
  clear hown hgrow hR
  go_wp2_with fail
  go_loopw [4] (fun ii wr => ∃ (i : Nat) (o : List Int), i ≤ n ∧ ii = .int .i64 (i : Int) ∧ Hid (OutT l i o) ∧ Hid (RowB R o wr) ∧ Hid (Below w.heap.size w wr)) (fun ii _ => n - (intOf ii).toNat)
  case atStart => exact ⟨0, _, by omega, rfl, hT0, hR1, D1⟩
  case round =>
    clear hT0 hR1 D1
    obtain ⟨i, o, hi, rfl, hO, hR, hD⟩ := hrel
    by_cases hin : i < n
    · have hil : i < l.length := by rw [← HL.out]; exact hin
      obtain ⟨b, off, rfl, -⟩ := HH.out.cells (by omega)
      obtain ⟨xi, hxi⟩ : ∃ x, x = Xp l i := ⟨_, rfl⟩
      obtain ⟨yi, hyi⟩ : ∃ y, y = Yp l i := ⟨_, rfl⟩
      have hc2 := ((HH.out.bel hD.out).cell hil).2
      rw [← Yp_get hil, ← hyi] at hc2
      have exi : Hid (El xi) := Lib.hid (by rw [hxi, Xp_get hil]; exact (pairsE_iff.1 HP.out _ (List.getElem_mem _)).1)
      have eyi : Hid (El yi) := Lib.hid (by rw [hyi, Yp_get hil]; exact (pairsE_iff.1 HP.out _ (List.getElem_mem _)).2)
      have hTT : Hid (TermT l i 0 [yi]) := Lib.hid (TermT.start hyi eyi.out)
      have HXI := Lib.hid hxi
      clear hxi hyi
      go_wp2_with fail
      obtain ⟨T0, hT0⟩ : ∃ T, T = wr.heap.size := ⟨_, rfl⟩
      have hRT0 : Hid (RowB T0 [yi] (wr.alloc (Obj.cells #[Value.int .i64 yi] 3))) := Lib.hid (by rw [hT0]; exact RowB.one wr yi)
      have hR0 := Lib.hid (hR.out.bel ((Below.refl _ wr).alloc (Nat.le_refl _) (Obj.cells #[Value.int .i64 yi] 3)))
      have hD0 := Lib.hid (hD.out.alloc hD.out.size (Obj.cells #[Value.int .i64 yi] 3))
      have hTb : Hid (w.heap.size ≤ T0 ∧ T0 ≠ R) := Lib.hid ⟨by rw [hT0]; exact hD.out.size, by have := hR.out.lt; omega⟩
      rw [← hT0]
      clear hT0 hc2 hR hD
      obtain ⟨wo, rfl⟩ : ∃ wo : World, wo = wr := ⟨_, rfl⟩
      go_loopw [5, 6] (fun tt kk wr => ∃ (k T m : Nat) (t : List Int), k ≤ n ∧ tt = .slice (some ⟨T, 0, none⟩) m m ∧ kk = .int .i64 (k : Int) ∧ Hid (m = t.length) ∧ Hid (TermT l i k t) ∧ Hid (RowB T t wr) ∧ Hid (RowB R o wr) ∧ Hid (w.heap.size ≤ T ∧ T ≠ R) ∧ Hid (Below w.heap.size w wr)) (fun _ kk _ => n - (intOf kk).toNat)
      case atStart => exact ⟨0, T0, 1, [yi], by omega, rfl, rfl, Lib.hid rfl, hTT, hRT0, hR0, hTb, hD0⟩
      case round =>
        clear hTT hRT0 hR0 hTb hD0
        obtain ⟨k, T, m, t, hk, rfl, rfl, hm, hTT, hRT, hR, hTb, hD⟩ := hrel
        by_cases hkn : k < n
        · have hkl : k < l.length := by rw [← HL.out]; exact hkn
          by_cases hki : k = i
          · subst hki
            go_wp2_with fail
            go_roundw
            case rel => exact ⟨k + 1, T, m, t, by omega, rfl, by go_num, hm, Lib.hid hTT.out.skip, hRT, hR, hTb, hD⟩
            case measure => simp [intOf]; omega
          · have c1 : ((k : Int) == (i : Int)) = false := beq_eq_false_iff_ne.2 (by omega)
            have c2 : (k == i) = false := by simpa using hki
            obtain ⟨xk, hxk⟩ : ∃ x, x = Xp l k := ⟨_, rfl⟩
            have hck := ((HH.out.bel hD.out).cell hkl).1
            rw [← Xp_get hkl, ← hxk] at hck
            have exk : El xk := by rw [hxk, Xp_get hkl]; exact (pairsE_iff.1 HP.out _ (List.getElem_mem _)).1
            have e0 : IntKind.i64.wrap (-xk) = -xk := IntWalk.i64_in _ (by unfold El at exk; omega)
            obtain ⟨mi, hmi⟩ : ∃ x, x = elemF (-xk) := ⟨_, rfl⟩
            have emi : Hid (El mi) := Lib.hid (by rw [hmi]; exact elemF_el _)
            obtain ⟨s, hs⟩ : ∃ s, s = sumF xi mi := ⟨_, rfl⟩
            have es : Hid (El s) := Lib.hid (by rw [hs]; exact sumF_range _ _)
            have hmE : Hid (E 2147483647 mi (-(Xp l k))) := Lib.hid (by rw [hmi, ← hxk]; exact E.emod _)
            have hsE : E 2147483647 s (Xp l i - Xp l k) := by
              rw [hs]
              refine (sumF_E _ _).trans (((E.of HXI.out).add hmE.out).trans (E.of (by omega)))
            have hs0 : Hid (s ≠ 0) := Lib.hid (fun e => hnd.out i k hil hkl hki (E.zero.1 (hsE.symm.trans (E.of e))))
            obtain ⟨bb, hbb⟩ : ∃ b, b = ivI s := ⟨_, rfl⟩
            have ebb : Hid (El bb) := Lib.hid (by rw [hbb]; exact ivI_range _)
            have hbE : Hid (bb = ivI (Xp l i - Xp l k)) := Lib.hid (by rw [hbb]; exact ivI_E hsE)
            have hm16 : m ≤ 16 := by
              have h1 := hm.out
              rw [hTT.out.len] at h1
              unfold tnum at h1
              split at h1 <;> omega
            obtain ⟨m1, hm1⟩ : ∃ m1, m1 = m + 1 := ⟨_, rfl⟩
            have e1 : IntKind.i64.wrap ((m : Int) + 1) = (m1 : Int) := by rw [IntWalk.i64_in _ (by omega)]; omega
            have e2 : (m : Int) + 1 = (m1 : Int) := by omega
            have hm17 : m1 ≤ 17 := by omega
            have cEl : Hid (∀ w', Calls Try.prog 11 #[.int .i64 (-xk)] w' fun e w'' => e = .returned (.int .i64 mi) ∧ w' = w'') := Lib.hid (fun w' => by rw [hmi]; exact element_any _ _)
            have cAd : Hid (∀ w', Calls Try.prog 22 #[.int .i64 xi, .int .i64 mi] w' fun e w'' => e = .returned (.tuple #[.int .i64 s, .int .i64 0]) ∧ Below w'.heap.size w' w'') := Lib.hid (fun w' => by rw [hs]; exact fAdd_ok _ _ _ exi.out emi.out)
            have cIv : Hid (∀ w', Calls Try.prog 23 #[.int .i64 s] w' fun e w'' => e = .returned (.tuple #[.int .i64 bb, .int .i64 0]) ∧ Below w'.heap.size w' w'') := Lib.hid (fun w' => by rw [hbb]; exact fInverse_ok _ _ es.out hs0.out)
            have hci := ((HH.out.bel hD.out).cell hil).1
            rw [← Xp_get hil, ← HXI.out] at hci
            have HM1 := Lib.hid hm1
            have HKI : Hid (k ≠ i) := Lib.hid hki
            clear hxk hmi hs hbb hsE exk hm1 hki
            go_wp2_with fail
            refine (cEl.out _).mono ?_
            rintro e w' ⟨rfl, rfl⟩
            go_wp2_with fail
            refine (cAd.out _).mono ?_
            rintro e w2 ⟨rfl, hb⟩
            have hD2 := Lib.hid (hD.out.trans (hb.mono hD.out.size)); have hRT2 := Lib.hid (hRT.out.bel hb); have hR2 := Lib.hid (hR.out.bel hb)
            clear hb hD hRT hR hck hci
            go_wp2_with fail
            refine (cIv.out _).mono ?_
            rintro e w3 ⟨rfl, hb⟩
            have hD3 := Lib.hid (hD2.out.trans (hb.mono hD2.out.size)); have hRT3 := Lib.hid (hRT2.out.bel hb); have hR3 := Lib.hid (hR2.out.bel hb)
            clear hb hD2 hRT2 hR2
            go_wp2_with (at_make; refine wpList_make_full _ rfl _ _ 22 rfl w.heap.size 3 j0 (.int .i64 0) 1 Try.underlying22 hj0 jz0 jz1 _ _ _ _ m1 rfl rfl (by omega) (by omega) (by rw [jz2]; omega) (by unfold maxLen; omega) hD3.out.size ?_)
            intro w4 hown hgrow
            obtain ⟨X, hX⟩ : ∃ X, X = w3.heap.size := ⟨_, rfl⟩
            have hD4 : Hid (Below w.heap.size w w4) := Lib.hid (hD3.out.grown hgrow hD3.out.size (fun k h => by cases h))
            have hb4 : Below w3.heap.size w3 w4 := (Below.refl _ _).grown hgrow (Nat.le_refl _) (fun k h => by cases h)
            have hRX4 : Hid (RowB X (zerosL m1) w4) := Lib.hid (by rw [hX]; exact row_of_own hown)
            have hXb : Hid (w.heap.size ≤ X ∧ X ≠ R ∧ X ≠ T) := Lib.hid ⟨by rw [hX]; exact hD3.out.size, by have := hR3.out.lt; omega, by have := hRT3.out.lt; omega⟩
            have hRT4 := Lib.hid (hRT3.out.bel hb4); have hR4 := Lib.hid (hR3.out.bel hb4)
            have hNT : Hid (NextT t bb mi 0 (zerosL m1)) := Lib.hid (by rw [HM1.out, hm.out]; exact NextT.start t bb mi)
            rw [← hX]
            clear hown hgrow hX hb4 hD3 hRT3 hR3
            go_wp2_with fail
            obtain ⟨wp, rfl⟩ : ∃ wp : World, wp = wr := ⟨_, rfl⟩
            go_loopw [11] (fun jj wr => ∃ (j : Nat) (d : List Int), j ≤ m ∧ jj = .int .i64 (j : Int) ∧ Hid (NextT t bb mi j d) ∧ Hid (RowB X d wr) ∧ Hid (RowB T t wr) ∧ Hid (RowB R o wr) ∧ Hid (Below w.heap.size w wr)) (fun jj _ => m - (intOf jj).toNat)
            case atStart => exact ⟨0, _, by omega, rfl, hNT, hRX4, hRT4, hR4, hD4⟩
            case round =>
              clear hNT hRX4 hRT4 hR4 hD4
              obtain ⟨j, d, hj, rfl, hNT, hRX, hRT, hR, hD⟩ := hrel
              by_cases hjm : j < m
              · have hjt : j < t.length := by rw [← hm.out]; exact hjm
                have hjd : j < d.length := by rw [hNT.out.len]; omega
                obtain ⟨tj, htj⟩ : ∃ x, x = t[j] := ⟨_, rfl⟩
                obtain ⟨dj, hdj⟩ : ∃ x, x = d[j] := ⟨_, rfl⟩
                have etj : El tj := by rw [htj]; exact hTT.out.el _ (List.getElem_mem _)
                have edj : El dj := by rw [hdj]; exact hNT.out.el _ (List.getElem_mem _)
                obtain ⟨cc, hcc⟩ : ∃ x, x = mulF tj bb := ⟨_, rfl⟩
                have ecc : El cc := by rw [hcc]; exact mulF_range _ _
                obtain ⟨lo, hlo⟩ : ∃ x, x = mulF cc mi := ⟨_, rfl⟩
                have elo : El lo := by rw [hlo]; exact mulF_range _ _
                obtain ⟨s1, hs1⟩ : ∃ x, x = sumF dj lo := ⟨_, rfl⟩
                have es1 : El s1 := by rw [hs1]; exact sumF_range _ _
                obtain ⟨d1, hd1⟩ : ∃ x, x = d.set j s1 := ⟨_, rfl⟩
                have hd1l : d1.length = m1 := by rw [hd1, List.length_set, hNT.out.len, ← hm.out, HM1.out]
                have hj1 : j + 1 < d1.length := by rw [hd1l]; omega
                obtain ⟨ej, hej⟩ : ∃ x, x = d1[j + 1] := ⟨_, rfl⟩
                have eej : El ej := by
                  rw [hej]
                  refine set_el (l := d) (j := j) (v := s1) hNT.out.el es1 _ ?_
                  rw [← hd1]; exact List.getElem_mem _
                have hj1d : j + 1 < d.length := by rw [hd1, List.length_set] at hj1; exact hj1
                have HEJd : Hid (ej = d[j + 1]) := Lib.hid (by subst hd1; rw [hej, List.getElem_set_ne (by omega)])
                obtain ⟨s2, hs2⟩ : ∃ x, x = sumF ej cc := ⟨_, rfl⟩
                have hNT2 : Hid (NextT t bb mi (j + 1) (d1.set (j + 1) s2)) := Lib.hid (by
                  subst hd1
                  exact hNT.out.next hjt (by rw [hcc, htj]) hlo (by rw [hs1, hdj]) (by rw [hs2, hej]))
                have cM1 : Hid (∀ w', Calls Try.prog 24 #[.int .i64 tj, .int .i64 bb] w' fun e w'' => e = .returned (.tuple #[.int .i64 cc, .int .i64 0]) ∧ Below w'.heap.size w' w'') := Lib.hid (fun w' => by rw [hcc]; exact fMul_ok _ _ _ etj ebb.out)
                have cM2 : Hid (∀ w', Calls Try.prog 24 #[.int .i64 cc, .int .i64 mi] w' fun e w'' => e = .returned (.tuple #[.int .i64 lo, .int .i64 0]) ∧ Below w'.heap.size w' w'') := Lib.hid (fun w' => by rw [hlo]; exact fMul_ok _ _ _ ecc emi.out)
                have cA1 : Hid (∀ w', Calls Try.prog 22 #[.int .i64 dj, .int .i64 lo] w' fun e w'' => e = .returned (.tuple #[.int .i64 s1, .int .i64 0]) ∧ Below w'.heap.size w' w'') := Lib.hid (fun w' => by rw [hs1]; exact fAdd_ok _ _ _ edj elo)
                have cA2 : Hid (∀ w', Calls Try.prog 22 #[.int .i64 ej, .int .i64 cc] w' fun e w'' => e = .returned (.tuple #[.int .i64 s2, .int .i64 0]) ∧ Below w'.heap.size w' w'') := Lib.hid (fun w' => by rw [hs2]; exact fAdd_ok _ _ _ eej ecc)
                have hct := hRT.out.cell hjt
                rw [← htj] at hct
                have e3 : IntKind.i64.wrap ((j : Int) + 1) = (j : Int) + 1 := IntWalk.i64_in _ (by omega)
                have b0 : (0 : Int) ≤ (j : Int) + 1 := by omega
                have b1 : (j : Int) + 1 < (m1 : Int) := by omega
                have b2 : ((j : Int) + 1).toNat = j + 1 := by omega
                have b3 : (j : Int) < (m1 : Int) := by omega
                have b4 : j < m1 := by omega
                have HDJ := Lib.hid hdj
                have HD1 := Lib.hid hd1
                have HEJ := Lib.hid hej
                have HB2 := Lib.hid b2
                clear htj hdj hcc hlo hs1 hd1 hej hs2 etj edj ecc elo es1 eej hd1l b2
                go_wp2_with fail
                refine (cM1.out _).mono ?_
                rintro e w5 ⟨rfl, hb⟩
                have hD5 := Lib.hid (hD.out.trans (hb.mono hD.out.size)); have hRT5 := Lib.hid (hRT.out.bel hb); have hR5 := Lib.hid (hR.out.bel hb); have hRX5 := Lib.hid (hRX.out.bel hb)
                clear hb hD hRT hR hRX hct
                go_wp2_with fail
                refine (cM2.out _).mono ?_
                rintro e w6 ⟨rfl, hb⟩
                have hD6 := Lib.hid (hD5.out.trans (hb.mono hD5.out.size)); have hRT6 := Lib.hid (hRT5.out.bel hb); have hR6 := Lib.hid (hR5.out.bel hb); have hRX6 := Lib.hid (hRX5.out.bel hb)
                clear hb hD5 hRT5 hR5 hRX5
                have hcx := hRX6.out.cell hjd
                rw [← HDJ.out] at hcx
                go_wp2_with fail
                refine (cA1.out _).mono ?_
                rintro e w7 ⟨rfl, hb⟩
                have hD7 := Lib.hid (hD6.out.trans (hb.mono hD6.out.size)); have hRT7 := Lib.hid (hRT6.out.bel hb); have hR7 := Lib.hid (hR6.out.bel hb); have hRX7 := Lib.hid (hRX6.out.bel hb)
                clear hb hD6 hRT6 hR6 hRX6 hcx
                have hcx := hRX7.out.cell hjd
                rw [← HDJ.out] at hcx
                have hfx := hRX7.out.fz j
                have hD8 := Lib.hid (hD7.out.setCell (p := ⟨X, j, none⟩) hXb.out.1 (.int .i64 s1))
                have hRT8 := Lib.hid (hRT7.out.other (fun e => hXb.out.2.2 e.symm) j (.int .i64 s1)); have hR8 := Lib.hid (hR7.out.other (fun e => hXb.out.2.1 e.symm) j (.int .i64 s1))
                have hRX8 : Hid (RowB X d1 (w7.setCell ⟨X, j, none⟩ (.int .i64 s1))) := Lib.hid (by rw [HD1.out]; exact hRX7.out.set j s1)
                have hcy := hRX7.out.cell (j := j + 1) hj1d
                rw [← HEJd.out] at hcy
                clear hD7 hRT7 hR7 hRX7
                go_wp2_with fail
                refine (cA2.out _).mono ?_
                rintro e w9 ⟨rfl, hb⟩
                have hD9 := Lib.hid (hD8.out.trans (hb.mono hD8.out.size)); have hRT9 := Lib.hid (hRT8.out.bel hb); have hR9 := Lib.hid (hR8.out.bel hb); have hRX9 := Lib.hid (hRX8.out.bel hb)
                clear hb hD8 hRT8 hR8 hRX8 hcx hfx hcy
                have hcx := hRX9.out.cell hj1
                rw [← HEJ.out] at hcx
                have hfx := hRX9.out.fz (j + 1)
                have hDa := Lib.hid (hD9.out.setCell (p := ⟨X, j + 1, none⟩) hXb.out.1 (.int .i64 s2))
                have hRTa := Lib.hid (hRT9.out.other (fun e => hXb.out.2.2 e.symm) (j + 1) (.int .i64 s2)); have hRa := Lib.hid (hR9.out.other (fun e => hXb.out.2.1 e.symm) (j + 1) (.int .i64 s2))
                have hRXa := Lib.hid (hRX9.out.set (j + 1) s2)
                clear hD9 hRT9 hR9 hRX9
                go_wp2_with fail
                go_roundw
                case rel => exact ⟨j + 1, _, by omega, by go_num, hNT2, hRXa, hRTa, hRa, hDa⟩
                case measure => simp [intOf]; omega
              · obtain rfl : j = m := by omega
                have hTT2 : Hid (TermT l i (k + 1) d) := Lib.hid (hTT.out.next HKI.out hmE.out hbE.out (by rw [← hm.out]; exact hNT.out))
                have hm2 : Hid (m1 = d.length) := Lib.hid (by rw [hNT.out.len, ← hm.out]; exact HM1.out)
                go_wp2_with fail
                go_roundw
                case rel => exact ⟨k + 1, X, m1, d, by omega, rfl, by go_num, hm2, hTT2, hRX, hR, Lib.hid ⟨hXb.out.1, hXb.out.2.1⟩, hD⟩
                case measure => simp [intOf]; omega
        · obtain rfl : k = n := by omega
          have hTn : Hid (TermT l i l.length t) := Lib.hid (by rw [← HL.out]; exact hTT.out)
          obtain rfl : m = k := by
            have h1 := hm.out
            rw [hTT.out.len] at h1
            unfold tnum at h1
            rw [if_pos hin] at h1
            omega
          have hol : Hid (o.length = m) := Lib.hid (by rw [hO.out.len, ← HL.out])
          have hAT : Hid (AddT o t 0 o) := Lib.hid (AddT.start t hO.out.el)
          clear hTT
          go_wp2_with fail
          obtain ⟨wp, rfl⟩ : ∃ wp : World, wp = wr := ⟨_, rfl⟩
          go_loopw [16] (fun jj wr => ∃ (j : Nat) (d : List Int), j ≤ m ∧ jj = .int .i64 (j : Int) ∧ Hid (AddT o t j d) ∧ Hid (RowB T t wr) ∧ Hid (RowB R d wr) ∧ Hid (Below w.heap.size w wr)) (fun jj _ => m - (intOf jj).toNat)
          case atStart => exact ⟨0, o, by omega, rfl, hAT, hRT, hR, hD⟩
          case round =>
            clear hAT hRT hR hD
            obtain ⟨j, d, hj, rfl, hAT, hRT, hR, hD⟩ := hrel
            by_cases hjm : j < m
            · have hjt : j < t.length := by rw [← hm.out]; exact hjm
              have hjd : j < d.length := by rw [hAT.out.len, hol.out]; exact hjm
              obtain ⟨tj, htj⟩ : ∃ x, x = t[j] := ⟨_, rfl⟩
              obtain ⟨dj, hdj⟩ : ∃ x, x = d[j] := ⟨_, rfl⟩
              have etj : El tj := by rw [htj]; exact hTn.out.el _ (List.getElem_mem _)
              have edj : El dj := by rw [hdj]; exact hAT.out.el _ (List.getElem_mem _)
              obtain ⟨s1, hs1⟩ : ∃ x, x = sumF dj tj := ⟨_, rfl⟩
              have hAT2 : Hid (AddT o t (j + 1) (d.set j s1)) := Lib.hid (hAT.out.next hjt hjd (by rw [hs1, hdj, htj]))
              have cA1 : Hid (∀ w', Calls Try.prog 22 #[.int .i64 dj, .int .i64 tj] w' fun e w'' => e = .returned (.tuple #[.int .i64 s1, .int .i64 0]) ∧ Below w'.heap.size w' w'') := Lib.hid (fun w' => by rw [hs1]; exact fAdd_ok _ _ _ edj etj)
              have hct := hRT.out.cell hjt
              rw [← htj] at hct
              have hcd := hR.out.cell hjd
              rw [← hdj] at hcd
              have b1 : (0 : Int) ≤ (j : Int) := by omega
              have b2 : (j : Int) < (m : Int) := by omega
              have HDJ := Lib.hid hdj
              have hDd : Hid (Below w.heap.size w wr.drew) := Lib.hid hD.out.drew
              have hRd : Hid (RowB R d wr.drew) := Lib.hid (hR.out.bel (Below.refl _ _).drew)
              have hTd : Hid (RowB T t wr.drew) := Lib.hid (hRT.out.bel (Below.refl _ _).drew)
              clear htj hdj hs1 etj edj hD hR hRT
              go_wp2_with fail
              go_region_law (first | (go_simp; go_at_call 22; refine (cA1.out _).mono ?_; rintro e w5 ⟨rfl, hb5⟩; have hD5 := Lib.hid (hDd.out.trans (hb5.mono hDd.out.size)); have hR5 := Lib.hid (hRd.out.bel hb5); have hT5 := Lib.hid (hTd.out.bel hb5); have hcr := hR5.out.cell hjd; rw [← HDJ.out] at hcr; have hfr := hR5.out.fz j; clear hb5) | fail "no arm")
              all_goals
                go_wp2_with fail
                go_roundw
                case rel => exact ⟨j + 1, _, by omega, by go_num, hAT2, Lib.hid (hT5.out.other hTb.out.2 j _), Lib.hid (hR5.out.set j s1), Lib.hid (hD5.out.setCell (p := ⟨R, j, none⟩) hRb.out _)⟩
                case measure => simp [intOf]; omega
            · obtain rfl : j = m := by omega
              have hO2 : Hid (OutT l (i + 1) d) := Lib.hid (hO.out.next hTn.out (by rw [← hm.out]; exact hAT.out))
              go_wp2_with fail
              go_roundw
              case rel => exact ⟨i + 1, d, by omega, by go_num, hO2, hR, hD⟩
              case measure => simp [intOf]; omega
    · obtain rfl : i = n := by omega
      go_wp2_with fail
      go_ret
      exact ⟨R, o, rfl, hR.out, hRb.out, by rw [← HL.out]; exact hO.out, hD.out⟩
end Go.Proofs.Ytcdnddjoonecdaa
