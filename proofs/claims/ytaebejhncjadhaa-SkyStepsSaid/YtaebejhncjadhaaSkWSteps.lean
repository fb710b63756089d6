/-
  The law SkySteps (layer 10): its walk.
-/
import Derived.Test.YtaebejhncjadhaaSkWNear
set_option linter.unusedVariables false
set_option maxRecDepth 100000
namespace Go.Proofs.Ytaebejhncjadhaa
open Go.RowKit
open Sk
set_option maxHeartbeats 4000000 in
theorem walkSkySteps (i j : Int) (w : World) (hi : 0 ≤ i ∧ i ≤ 65535) (hj : 0 ≤ j ∧ j ≤ 65535) :
    Calls Try.prog 7 #[.int .u16 i, .int .u16 j] w fun e w' => e = .returned (.bool true) ∧ Below w.heap.size w w' := by
  obtain ⟨I0, rfl⟩ : ∃ X : Nat, i = (X : Int) := ⟨i.toNat, by omega⟩
  obtain ⟨J0, rfl⟩ : ∃ X : Nat, j = (X : Int) := ⟨j.toNat, by omega⟩
  obtain ⟨a, ha⟩ : ∃ a, a = I0 % 512 := ⟨_, rfl⟩
  obtain ⟨b, hb⟩ : ∃ a, a = J0 % 512 := ⟨_, rfl⟩
  have la : a < 512 := by omega
  have lb : b < 512 := by omega
  have g1 : IntKind.i64.wrap (I0 : Int) = (I0 : Int) := IntWalk.i64_in _ (by omega)
  have g2 : IntKind.i64.wrap (J0 : Int) = (J0 : Int) := IntWalk.i64_in _ (by omega)
  have e1 : Int.tmod (I0 : Int) 512 = (a : Int) := by rw [Int.tmod_eq_emod_of_nonneg (by omega)]; omega
  have e2 : Int.tmod (J0 : Int) 512 = (b : Int) := by rw [Int.tmod_eq_emod_of_nonneg (by omega)]; omega
  have e4 : (I0 : Int) % 512 = (a : Int) := by omega
  have e5 : (J0 : Int) % 512 = (b : Int) := by omega
  obtain ⟨d, hd⟩ : ∃ d, d = dis a b := ⟨_, rfl⟩
  have hdl := dis_le la lb
  rw [← hd] at hdl
  have cD := Lib.hid (fun w => dist_any a b d la lb hd w)
  have cN := Lib.hid (fun w => near_any a 1 la (by omega) w)
  have hst := least_step la lb
  obtain ⟨nl, hnl⟩ : ∃ l, l = nea a 1 := ⟨_, rfl⟩
  have HLT : Hid (∀ k (hk : k < nl.length), nl[k] < 512) := Lib.hid (by subst hnl; exact fun k hk => (nea_mem.1 (List.getElem_mem hk)).1)
  have hn5 := nea_le a 1
  rw [← hnl] at cN hn5 hst
  rw [← hd] at hst
  have HST := Lib.hid hst
  have D0 := Lib.hid (Below.refl w.heap.size w)
  clear ha hb hd hnl hi hj hst
  go_enter Try.func7, Try.ntmps7
  go_wp2_with fail
  refine (head_any _).mono ?_
  rintro e w1 ⟨rfl, hb⟩
  have D1 := Lib.hid (D0.out.trans (hb.mono D0.out.size))
  clear hb D0
  go_wp2_with fail
  refine (cD.out _).mono ?_
  rintro e w2 ⟨rfl, hb⟩
  have D2 := Lib.hid (D1.out.trans (hb.mono D1.out.size))
  clear hb D1
  go_wp2_with fail
  refine (cN.out _).mono ?_
  rintro e w3 ⟨v, rfl, hl, hb⟩
  obtain ⟨ad, cap, rfl, hcap, hat⟩ := hl.out
  rw [intsN_len] at hcap hat ⊢
  have D3 := Lib.hid (D2.out.trans (hb.mono D2.out.size))
  have A3 := Lib.hid hat
  clear hb D2 hl hat
  obtain ⟨n, hn⟩ : ∃ n, n = nl.length := ⟨_, rfl⟩
  rw [← hn] at A3 hcap hn5 ⊢
  have HN := Lib.hid hn
  clear hn
  go_wp2_with fail
  go_loopw [12, 13] (fun vl ii wr => ∃ k : Nat, k ≤ n ∧ ii = .int .i64 (k : Int) ∧ vl = .int .i64 ((leastF b (nl.take k) d : Nat) : Int) ∧ Hid (Below w3.heap.size w3 wr)) (fun _ ii _ => n - (intOf ii).toNat)
  case atStart => exact ⟨0, by omega, rfl, by rw [List.take_zero]; rfl, Lib.hid (Below.refl _ _)⟩
  case round =>
    obtain ⟨k, hk, rfl, rfl, hB⟩ := hrel
    by_cases hlt : k < n
    · have hkl : k < nl.length := by have := HN.out; omega
      obtain ⟨bl, off, rfl⟩ := list_cell A3.out hkl
      have hAt := Lib.hid (A3.out.bel hB.out)
      have hc := list_at hAt.out hkl
      have hsucc := leastF_take b hkl d
      have hX5 := HLT.out k hkl
      obtain ⟨X, hX⟩ : ∃ X, X = nl[k] := ⟨_, rfl⟩
      rw [← hX] at hc hsucc hX5
      clear hX
      obtain ⟨x, hx⟩ : ∃ x, x = dis X b := ⟨_, rfl⟩
      rw [← hx] at hsucc
      have cX := Lib.hid (fun w => dist_any X b x hX5 lb hx w)
      have q1 : (0 : Int) ≤ (k : Int) := by omega
      have q2 : (k : Int) < (n : Int) := by omega
      have f1 : IntKind.i64.wrap ((k : Int) + 1) = (k : Int) + 1 := IntWalk.i64_in _ (by omega)
      obtain ⟨l0, hl0⟩ : ∃ l0, l0 = leastF b (nl.take k) d := ⟨_, rfl⟩
      rw [← hl0] at hsucc ⊢
      obtain ⟨l1, hl1⟩ : ∃ l1, l1 = leastF b (nl.take (k + 1)) d := ⟨_, rfl⟩
      rw [← hl1] at hsucc
      have m1 : min (l0 : Int) (x : Int) = (l1 : Int) := by omega
      have m2 : min l0 x = l1 := hsucc.symm
      have HL1 := Lib.hid hl1
      clear hx hl0 hl1 hsucc
      go_wp2_with fail
      refine (cX.out _).mono ?_
      rintro e w4 ⟨rfl, hb⟩
      have DB := Lib.hid (hB.out.trans (hb.mono hB.out.size))
      clear hb
      go_wp2_with fail
      go_roundw
      case rel => exact ⟨k + 1, by omega, by go_num, by rw [← HL1.out], DB⟩
      case measure => simp [intOf]; omega
    · have hkn : nl.take k = nl := List.take_of_length_le (by have := HN.out; omega)
      rw [hkn, HST.out]
      have D4 := Lib.hid (D3.out.trans (hB.out.mono D3.out.size))
      clear hkn
      by_cases hd0 : d = 0
      · subst hd0
        go_wp2_with fail
        go_ret
        exact ⟨rfl, D4.out⟩
      · have t1 : ((d : Int) == 0) = false := by rw [beq_eq_false_iff_ne]; omega
        have t2 : decide (0 < (d : Int)) = true := decide_eq_true (by omega)
        have t3 : decide (0 < d) = true := decide_eq_true (by omega)
        have t4 : IntKind.i64.wrap ((d : Int) - 1) = (d : Int) - 1 := IntWalk.i64_in _ (by omega)
        have t5 : ((d - 1 : Nat) : Int) = (d : Int) - 1 := by omega
        rw [t5]
        have t6 : (((d : Int) - 1) == ((d : Int) - 1)) = true := by simp
        go_wp2_with fail
        go_ret
        exact ⟨rfl, D4.out⟩
end Go.Proofs.Ytaebejhncjadhaa
