/-
  Another Y of one of more than need shares (SharesWrong, P7.5).
-/
import Derived.Test.YtcdnddjoonecdaaShB
set_option linter.unusedVariables false
set_option maxRecDepth 100000
namespace Go.Proofs.Ytcdnddjoonecdaa
open Go.RowKit
open Fdp
set_option maxHeartbeats 2000000 in
theorem walkSharesWrong (s : Int) (vq : Value) (q : List Int) (need total bits which by_ : Int) (w : World) (hs64 : -9223372036854775808 ≤ s ∧ s ≤ 9223372036854775807) (hq : IntsOk w vq q) (hu1 : 0 ≤ need ∧ need ≤ 255) (hu2 : 0 ≤ total ∧ total ≤ 255) (hu3 : 0 ≤ bits ∧ bits ≤ 255) (hu4 : 0 ≤ which ∧ which ≤ 255) (hb64 : -9223372036854775808 ≤ by_ ∧ by_ ≤ 9223372036854775807) :
    Calls Try.prog 6 #[.int .i64 s, vq, .int .u8 need, .int .u8 total, .int .u8 bits, .int .u8 which, .int .i64 by_] w fun e w' => e = .returned (.bool true) ∧ Below w.heap.size w w' := by
  clear hs64 hb64
  obtain ⟨qa, cq, rfl, hqa1, hqa2, hqa3, hqa4⟩ := hq.form
  obtain ⟨mq, hnqa⟩ : ∃ n, n = q.length := ⟨_, rfl⟩
  rw [← hnqa] at hqa1 hqa4 ⊢
  have HQ := Lib.hid hqa4
  have hqa5 : mq ≤ maxLen := by omega
  clear hqa1 hqa2 hqa3 hqa4 hnqa hq
  obtain ⟨n, hn⟩ : ∃ n, n = mN need := ⟨_, rfl⟩
  obtain ⟨m, hm⟩ : ∃ m, m = mM need total := ⟨_, rfl⟩
  have rN := mN_range need
  have rM := mM_range need total
  rw [← hn] at rN
  rw [← hn, ← hm] at rM
  have HN := Lib.hid hn
  have HMM := Lib.hid hm
  clear hn hm
  have D0 := Lib.hid (Below.refl w.heap.size w)
  go_enter Try.func6, Try.ntmps6
  go_wp2_with fail
  refine (head7_any _).mono ?_
  rintro e w1 ⟨rfl, hb⟩
  have D1 := Lib.hid (D0.out.trans (hb.mono D0.out.size))
  clear hb D0
  go_wp2_with fail
  refine (made_any qa mq cq q need total _ (HQ.out.bel D1.out) hqa5 hu1 hu2).mono ?_
  rintro e w2 ⟨v2, R, rfl, hO, hR, hE, hb⟩
  rw [← HN.out] at hR ⊢
  rw [← HMM.out]
  obtain ⟨a2, c2, rfl, j1, j2, j3⟩ := hO.at2 (n := n - 1) (by omega)
  have J2 := Lib.hid j3
  have HR := Lib.hid hR
  have ER := Lib.hid hE
  have D2 := Lib.hid (D1.out.trans (hb.mono D1.out.size))
  have B2 := Lib.hid hb
  clear hO j1 j2 j3 hR hE hb D1
  go_wp2_with fail
  refine (element_any s _).mono ?_
  rintro e w' ⟨rfl, rfl⟩
  go_wp2_with fail
  have hsp := split_made (elemF_el s) rN.1 rM.1 rM.2 HR.out ER.out
  obtain ⟨x0, hx0⟩ : ∃ x, x = elemF s := ⟨_, rfl⟩
  rw [← hx0] at hsp ⊢
  clear hx0
  have k1 : n - 1 ≤ maxLen := max_small (by omega)
  have k2 : -9223372036854775808 ≤ (n : Int) ∧ (n : Int) ≤ 9223372036854775807 := by omega
  have k3 := pSplit_open x0 n m _ (n - 1) c2 R _ J2.out k1 k2 hsp (m := m) (sharesL_len _ _).symm
  refine (k3).mono ?_
  rintro e w3 ⟨b1, c1, ⟨rfl, hq1, hq2, hq3⟩, hb⟩
  have D3 := Lib.hid (D2.out.trans (hb.mono D2.out.size))
  have Q1 := Lib.hid hq3
  clear hq1 hq2 hq3 hsp k1 k2 k3
  clear hb D2
  go_wp2_with fail
  clear J2
  refine (chosen_any _ m _ _ bits _ Q1.out (by omega) hu3).mono ?_
  rintro e w4 ⟨v, S, rfl, hO, hS, hb⟩
  have D4 := Lib.hid (D3.out.trans (hb.mono D3.out.size))
  have hsz := D3.out.size
  clear hb D3
  have hlen := sub_len hS
  obtain ⟨z, hz⟩ : ∃ z, z = S.length := ⟨_, rfl⟩
  have HS := Lib.hid hS
  have HZ := Lib.hid hz
  rw [← hz] at hlen
  by_cases hzn : z ≤ n
  · obtain ⟨a5, c5, rfl, j1, j2, j3⟩ := hO.at2 (n := z) hz
    clear hO j1 j2 j3 hS hz
    go_wp2_with fail
    go_ret
    exact ⟨rfl, D4.out⟩
  · obtain ⟨g5, c5, rfl, j1, j2, j3, j4⟩ := hO.own (n := z) hz (by omega)
    have J5 := Lib.hid j4
    have HC := Lib.hid j1
    have HM := Lib.hid j2
    have HG := Lib.hid j3
    clear hO j1 j2 j3 j4 hS hz
    obtain ⟨b0, hb0⟩ : ∃ x, x = elemF by_ := ⟨_, rfl⟩
    have hbe : El b0 := by rw [hb0]; exact elemF_el by_
    have HB0 := Lib.hid hb0
    clear hb0
    by_cases hb0 : b0 = 0
    · go_wp2_with fail
      refine (element_any by_ _).mono ?_
      rintro e w' ⟨rfl, rfl⟩
      rw [← HB0.out]
      go_wp2_with fail
      go_ret
      exact ⟨rfl, D4.out⟩
    · obtain ⟨k, hk⟩ : ∃ k : Nat, k = which.toNat % z := ⟨_, rfl⟩
      have hkz : k < z := by rw [hk]; exact Nat.mod_lt _ (by omega)
      have hkS : k < S.length := by rw [← HZ.out]; exact hkz
      have f0 : IntKind.i64.wrap which = which := IntWalk.i64_in _ (by omega)
      have f1 : which.tmod (z : Int) = (k : Int) := by
        obtain ⟨r, rfl⟩ : ∃ r : Nat, which = r := ⟨which.toNat, by omega⟩
        rw [Int.tmod_eq_emod_of_nonneg (by omega), hk, Int.toNat_natCast]
        exact (Int.natCast_emod r z).symm
      have f2 : ((z : Int) == 0) = false := beq_eq_false_iff_ne.2 (by omega)
      have f3 : ¬ z = 0 := by omega
      have f4 : IntKind.i64.wrap (k : Int) = (k : Int) := IntWalk.i64_in _ (by omega)
      have f5 : (b0 == 0) = false := beq_eq_false_iff_ne.2 hb0
      have b1_ : (0 : Int) ≤ (k : Int) := by omega
      have b2_ : (k : Int) < (z : Int) := by omega
      obtain ⟨y, hy⟩ : ∃ y, y = S[k].2 := ⟨_, rfl⟩
      have hye : El y := by rw [hy]; exact (validsS_iff.1 (sub_valid (by omega) HS.out) _ (List.getElem_mem hkS)).2
      obtain ⟨hc1, hc2⟩ := J5.out.cell hkS
      rw [← hy] at hc2
      have hfr := J5.out.fz (k * 2 + 1)
      have f6 : IntKind.i64.wrap (y + b0) = y + b0 := IntWalk.i64_in _ (by unfold El at hye hbe; omega)
      have F6 := Lib.hid f6
      obtain ⟨y2, hy2⟩ : ∃ x, x = elemF (y + b0) := ⟨_, rfl⟩
      have hj := wrong_set (n := n) (k := k) (y := y2) (by omega) HS.out rN.1 (by omega) (by rw [← HZ.out]; omega) HR.out hkS (by rw [hy2]; exact elemF_el _) (by rw [hy2, ← hy]; exact elem_moved hye hbe hb0)
      have HP := Lib.hid (((J5.out.setY hkS y2).bel (Below.refl _ _).drew).pts (n := z) (by simp; exact HZ.out))
      have D5 := Lib.hid ((D4.out.setCell (p := ⟨g5, k * 2 + 1, none⟩) (Nat.le_trans hsz HG.out) (.int .i64 y2)).drew)
      have HJ := Lib.hid hj
      have HY := Lib.hid hy
      have HY2 := Lib.hid hy2
      clear hj hy hy2 hc1 hk hye hbe hb0
      go_wp2_with fail
      refine (element_any by_ _).mono ?_
      rintro e w' ⟨rfl, rfl⟩
      rw [← HB0.out]
      go_wp2_with fail
      go_region_law (first | (go_simp; go_at_call 11; refine (element_any _ _).mono ?_; rintro e w' ⟨rfl, rfl⟩; first | rw [← HB0.out] | rw [← HY2.out] | (rw [F6.out, ← HY2.out])) | fail "no arm")
      all_goals
        go_wp2_with fail
        refine (pJoin_is _ z _ (S.set k (S[k].1, y2)) n _ HP.out (by omega) HC.out HM.out HJ.out).mono ?_
        rintro e w9 ⟨rfl, hb⟩
        have D9 := Lib.hid (D5.out.trans (hb.mono D5.out.size))
        clear hb
        go_wp2_with fail
        go_ret
        exact ⟨rfl, D9.out⟩
end Go.Proofs.Ytcdnddjoonecdaa
