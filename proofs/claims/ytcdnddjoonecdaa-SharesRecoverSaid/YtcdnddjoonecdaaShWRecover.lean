/-
  Shares are joined to the secret (SharesRecover, P7.2).
-/
import Derived.Test.YtcdnddjoonecdaaShLaws
set_option linter.unusedVariables false
set_option maxRecDepth 100000
namespace Go.Proofs.Ytcdnddjoonecdaa
open Go.RowKit
open Fdp
set_option maxHeartbeats 2000000 in
theorem walkSharesRecover (s : Int) (vq : Value) (q : List Int) (need total bits : Int) (w : World) (hs64 : -9223372036854775808 ≤ s ∧ s ≤ 9223372036854775807) (hq : IntsOk w vq q) (hu1 : 0 ≤ need ∧ need ≤ 255) (hu2 : 0 ≤ total ∧ total ≤ 255) (hu3 : 0 ≤ bits ∧ bits ≤ 255) :
    Calls Try.prog 3 #[.int .i64 s, vq, .int .u8 need, .int .u8 total, .int .u8 bits] w fun e w' => e = .returned (.bool true) ∧ Below w.heap.size w w' := by
  clear hs64
  obtain ⟨qa, cq, rfl, hqa1, hqa2, hqa3, hqa4⟩ := hq.form
  obtain ⟨mq, hnqa⟩ : ∃ n, n = q.length := ⟨_, rfl⟩
  rw [← hnqa] at hqa1 hqa4 ⊢
  have HQ := Lib.hid hqa4
  have hqa5 : mq ≤ maxLen := by omega
  clear hqa1 hqa2 hqa3 hqa4 hnqa hq
  obtain ⟨n, hn⟩ : ∃ n, n = mN need := ⟨_, rfl⟩
  obtain ⟨m, hm⟩ : ∃ m, m = mM need total := ⟨_, rfl⟩
  have rN := mN_range need
  have rM := mM_range need total
  rw [← hn] at rN
  rw [← hn, ← hm] at rM
  have HN := Lib.hid hn
  have HMM := Lib.hid hm
  clear hn hm
  have D0 := Lib.hid (Below.refl w.heap.size w)
  go_enter Try.func3, Try.ntmps3
  go_wp2_with fail
  refine (head7_any _).mono ?_
  rintro e w1 ⟨rfl, hb⟩
  have D1 := Lib.hid (D0.out.trans (hb.mono D0.out.size))
  clear hb D0
  go_wp2_with fail
  refine (made_any qa mq cq q need total _ (HQ.out.bel D1.out) hqa5 hu1 hu2).mono ?_
  rintro e w2 ⟨v2, R, rfl, hO, hR, hE, hb⟩
  rw [← HN.out] at hR ⊢
  rw [← HMM.out]
  obtain ⟨a2, c2, rfl, j1, j2, j3⟩ := hO.at2 (n := n - 1) (by omega)
  have J2 := Lib.hid j3
  have HR := Lib.hid hR
  have ER := Lib.hid hE
  have D2 := Lib.hid (D1.out.trans (hb.mono D1.out.size))
  have B2 := Lib.hid hb
  clear hO j1 j2 j3 hR hE hb D1
  go_wp2_with fail
  refine (element_any s _).mono ?_
  rintro e w' ⟨rfl, rfl⟩
  go_wp2_with fail
  have hsp := split_made (elemF_el s) rN.1 rM.1 rM.2 HR.out ER.out
  obtain ⟨x0, hx0⟩ : ∃ x, x = elemF s := ⟨_, rfl⟩
  have hxe : El x0 := by rw [hx0]; exact elemF_el s
  rw [← hx0] at hsp ⊢
  have HX := Lib.hid hx0
  clear hx0
  have k1 : n - 1 ≤ maxLen := max_small (by omega)
  have k2 : -9223372036854775808 ≤ (n : Int) ∧ (n : Int) ≤ 9223372036854775807 := by omega
  have k3 := pSplit_open x0 n m _ (n - 1) c2 R _ J2.out k1 k2 hsp (m := m) (sharesL_len _ _).symm
  refine (k3).mono ?_
  rintro e w3 ⟨b1, c1, ⟨rfl, hq1, hq2, hq3⟩, hb⟩
  have D3 := Lib.hid (D2.out.trans (hb.mono D2.out.size))
  have Q1 := Lib.hid hq3
  clear hq1 hq2 hq3 hsp k1 k2 k3
  clear hb D2
  go_wp2_with fail
  clear J2
  refine (chosen_any _ m _ _ bits _ Q1.out (by omega) hu3).mono ?_
  rintro e w4 ⟨v, S, rfl, hO, hS, hb⟩
  have D4 := Lib.hid (D3.out.trans (hb.mono D3.out.size))
  clear hb D3
  have hlen := sub_len hS
  obtain ⟨z, hz⟩ : ∃ z, z = S.length := ⟨_, rfl⟩
  obtain ⟨a5, c5, rfl, j1, j2, j3⟩ := hO.at2 (n := z) hz
  have J5 := Lib.hid j3
  have HS := Lib.hid hS
  have HZ := Lib.hid hz
  have HC := Lib.hid j1
  have HM := Lib.hid j2
  rw [← hz] at hlen
  clear hO j1 j2 j3 hS hz
  go_wp2_with fail
  by_cases hzn : z < n
  · have hj := recover_few (n := n) (by omega) HS.out rN.1 (by omega) (by rw [← HZ.out]; exact hzn)
    refine (pJoin_is _ z _ S n _ J5.out (by omega) HC.out HM.out hj).mono ?_
    rintro e w5 ⟨rfl, hb⟩
    have D5 := Lib.hid (D4.out.trans (hb.mono D4.out.size))
    clear hb D4
    clear hj
    go_wp2_with fail
    go_ret
    exact ⟨rfl, D5.out⟩
  · have hj := recover_ok (n := n) (by omega) HS.out rN.1 (by omega) (by rw [← HZ.out]; omega) HR.out hxe
    refine (pJoin_is _ z _ S n _ J5.out (by omega) HC.out HM.out hj).mono ?_
    rintro e w5 ⟨rfl, hb⟩
    have D5 := Lib.hid (D4.out.trans (hb.mono D4.out.size))
    clear hb D4
    clear hj
    go_wp2_with fail
    refine (element_any s _).mono ?_
    rintro e w' ⟨rfl, rfl⟩
    rw [← HX.out]
    go_wp2_with fail
    go_ret
    exact ⟨rfl, D5.out⟩
end Go.Proofs.Ytcdnddjoonecdaa
