/-
  The program's highest and combined.
-/
import Derived.Test.YtbcoblpnihdhgaaDoorLmEst
import Derived.Test.YtbcoblpnihdhgaaDoorLmLeh
set_option linter.unusedVariables false
set_option maxRecDepth 100000
namespace Go.Proofs.YtbcoblpnihdhgaaDoor
open Go.RowKit
set_option maxHeartbeats 2000000 in
theorem highest_any (p : Nat → Prop) (x K : Nat) (vx : Value) (w : World) (hx : IntsIn p w vx (Lim.ls x)) (hK : Lim.nl x ≤ K) (hK2 : 2 ≤ K) (hKm : K ≤ 1000000) :
    Calls Tryd.prog 65 #[vx, .int .i64 (K : Int)] w fun e w' => e = .returned (.int .i64 ((x / Lim.B ^ (K - 2) : Nat) : Int)) ∧ w = w' := by
  obtain ⟨a, ca, rfl, a1, a2, a3⟩ := hx.open_
  have A3 := Lib.hid a3
  obtain ⟨na, hna⟩ : ∃ na, na = (Lim.ls x).length := ⟨_, rfl⟩
  rw [← hna] at a1 ⊢
  have ENA := Lib.hid hna
  have hmA : Hid (Lim.nl x = na) := Lib.hid hna.symm
  rw [show Lim.nl x = na from hna.symm] at hK
  have hxK : Hid (x < Lim.B ^ K) := Lib.hid (Lim.nl_le.1 (by rw [hmA.out]; exact hK))
  clear hx a3 hna
  obtain ⟨V, hV⟩ : ∃ V, V = x / Lim.B ^ (K - 2) := ⟨_, rfl⟩
  rw [← hV]
  have HV := Lib.hid hV
  clear hV
  have f1 : IntKind.i64.wrap ((K : Int) - 1) = (K : Int) - 1 := IntWalk.i64_in _ (by omega)
  have f2 : IntKind.i64.wrap ((K : Int) - 2) = (K : Int) - 2 := IntWalk.i64_in _ (by omega)
  go_enter Tryd.func65, Tryd.ntmps65
  go_wp2_with fail
  go_loop [5, 6] (fun vv ii => ∃ r y : Nat, r ≤ 2 ∧ ii = .int .i64 ((K : Int) - 1 - (r : Int)) ∧ vv = .int .i64 (y : Int) ∧ Hid (y = x / Lim.B ^ (K - r)) ∧ y < 1000000000000000000) (fun _ ii => (intOf ii + 3 - (K : Int)).toNat)
  case atStart => exact ⟨0, 0, by omega, by simp, rfl, Lib.hid (by rw [Nat.sub_zero, Nat.div_eq_of_lt hxK.out]), by omega⟩
  case round =>
    obtain ⟨r, y, hr, rfl, rfl, hy, hyb⟩ := hrel
    by_cases hr2 : r < 2
    · obtain ⟨k, hk⟩ : ∃ k, k + 1 + r = K := ⟨K - 1 - r, by omega⟩
      have e0 : (K : Int) - 1 - (r : Int) = (k : Int) := by omega
      have hnext : y * 1000000000 + Lim.pl x k = x / Lim.B ^ (K - (r + 1)) := by
        have h0 := Lim.div_split x k
        rw [show (1000000000 : Nat) = Lim.B from rfl, hy.out, show K - r = k + 1 by omega, show K - (r + 1) = k by omega]
        exact h0
      have hy9 : y < 1000000000 := by
        have h1 : y < Lim.B ^ r := by
          rw [hy.out, Nat.div_lt_iff_lt_mul (Lim.B_pow _), ← Nat.pow_add, show r + (K - r) = K by omega]
          exact hxK.out
        have h2 : Lim.B ^ r ≤ Lim.B ^ 1 := Nat.pow_le_pow_right Lim.B_pos (by omega)
        rw [Nat.pow_one, Lim.B_eq] at h2
        rw [Lim.B_eq] at h1
        omega
      have hpB := Lim.pl_lt x k
      rw [Lim.B_eq] at hpB
      have g1 : IntKind.i64.wrap ((y : Int) * 1000000000) = (y : Int) * 1000000000 := IntWalk.i64_in _ (by omega)
      have g2 : ¬ (k : Int) < (K : Int) - 2 := by omega
      have g3 : IntKind.i64.wrap ((k : Int) - 1) = (k : Int) - 1 := IntWalk.i64_in _ (by omega)
      have g4 : (K : Int) - 2 ≤ (k : Int) := by omega
      by_cases c : k < na
      · obtain ⟨ba, oa, rfl, _, hca⟩ := A3.out (by rw [← ENA.out]; omega)
        have hca1 := hca k (by rw [← ENA.out]; omega)
        rw [Lim.pl_ls] at hca1
        obtain ⟨d, hd⟩ : ∃ d, d = Lim.pl x k := ⟨_, rfl⟩
        rw [← hd] at hca1 hpB hnext
        obtain ⟨z, hz⟩ : ∃ z, z = y * 1000000000 + d := ⟨_, rfl⟩
        rw [← hz] at hnext
        have HN := Lib.hid hnext
        have hzb : z < 1000000000000000000 := by omega
        have g7 : (y : Int) * 1000000000 + (d : Int) = (z : Int) := by omega
        have g5 : IntKind.i64.wrap (z : Int) = (z : Int) := IntWalk.i64_in _ (by omega)
        have g6 : (k : Int) < (na : Int) := by omega
        have HCA := Lib.hid hca
        clear hd hca hnext hz
        rw [e0]
        go_wp2_with fail
        go_round
        case rel => exact ⟨r + 1, z, by omega, by congr 1; omega, rfl, Lib.hid HN.out, hzb⟩
        case measure => simp [intOf]; omega
      · have hz : Lim.pl x k = 0 := Lim.pl_out (by rw [hmA.out]; omega)
        rw [hz, Nat.add_zero] at hnext
        obtain ⟨z, hz2⟩ : ∃ z, z = y * 1000000000 := ⟨_, rfl⟩
        rw [← hz2] at hnext
        have HN := Lib.hid hnext
        have hzb : z < 1000000000000000000 := by omega
        have g6 : ¬ (k : Int) < (na : Int) := by omega
        have g7 : (y : Int) * 1000000000 = (z : Int) := by omega
        have g5 : IntKind.i64.wrap (z : Int) = (z : Int) := IntWalk.i64_in _ (by omega)
        clear hz hnext hz2 g1
        rw [e0]
        go_wp2_with fail
        go_round
        case rel => exact ⟨r + 1, z, by omega, by congr 1; omega, rfl, Lib.hid HN.out, hzb⟩
        case measure => simp [intOf]; omega
    · obtain rfl : r = 2 := by omega
      have hVy : y = V := by rw [hy.out, HV.out]
      subst hVy
      have e0 : (K : Int) - 1 - ((2 : Nat) : Int) = (K : Int) - 3 := by omega
      have g2 : (K : Int) - 3 < (K : Int) - 2 := by omega
      rw [e0]
      go_wp2_with fail
      go_ret
      exact ⟨rfl, rfl⟩
/-- the combination up to a place -/
structure Comb (A C : Nat) (f g : Int) (i : Nat) (S : List Nat) (c : Int) : Prop where
  lo : Lim.Lo S
  lo1 : -3000000000 ≤ c
  hi1 : c ≤ 3000000000
  zero : ∀ j, i ≤ j → S.getD j 0 = 0
  sum : (Lim.lv S : Int) + c * ((Lim.B ^ i : Nat) : Int) = f * ((A % Lim.B ^ i : Nat) : Int) + g * ((C % Lim.B ^ i : Nat) : Int)
theorem Comb.start (A C : Nat) (f g : Int) (L : Nat) : Comb A C f g 0 (List.replicate L 0) 0 :=
  ⟨Lim.Lo.zeros L, by omega, by omega, (Sums.start A C L).zero, by rw [Lim.lv_zeros]; simp [Nat.mod_one]⟩
theorem Comb.next {A C : Nat} {f g : Int} {i : Nat} {S : List Nat} {c : Int} (h : Comb A C f g i S c) (hi : i < S.length) (z : Int) (hz : z = c + f * (Lim.pl A i : Nat) + g * (Lim.pl C i : Nat)) (hzb : -2500000000000000000 ≤ z ∧ z ≤ 2500000000000000000) (d : Nat) (e : Int) (hd : (d : Int) = z % 1000000000) (he : e = z / 1000000000) :
    Comb A C f g (i + 1) (S.set i d) e := by
  have hdB : d < 1000000000 := by omega
  refine ⟨h.lo.set _ _ (by rw [Lim.B_eq]; exact hdB), by omega, by omega, fun j hj => ?_, ?_⟩
  · rw [getD_set_ne _ _ _ _ (by omega)]; exact h.zero j (by omega)
  · have h4 := Lim.lv_set S i d hi
    rw [h.zero i (Nat.le_refl _), Nat.zero_mul, Nat.add_zero] at h4
    have h5 := h.sum
    rw [h4, Lim.mod_next A i, Lim.mod_next C i, Nat.pow_succ]
    generalize Lim.B ^ i = t at *
    generalize A % t = a0 at *
    generalize C % t = c0 at *
    generalize Lim.pl A i = x at *
    generalize Lim.pl C i = y at *
    have hzd : z = (d : Int) + 1000000000 * e := by omega
    have e1 : (d : Int) * (t : Int) + e * ((t : Int) * 1000000000) = z * (t : Int) := by
      rw [hzd, Int.add_mul, Int.mul_comm (t : Int) 1000000000, ← Int.mul_assoc, Int.mul_comm e]
    have e2 : z * (t : Int) = c * (t : Int) + f * ((x : Int) * (t : Int)) + g * ((y : Int) * (t : Int)) := by
      rw [hz, Int.add_mul, Int.add_mul, Int.mul_assoc, Int.mul_assoc]
    have e3 : ((Lim.B : Nat) : Int) = 1000000000 := rfl
    simp only [Int.natCast_add, Int.natCast_mul, Int.mul_add, e3]
    generalize (d : Int) * (t : Int) = u1 at *
    generalize e * ((t : Int) * 1000000000) = u2 at *
    generalize f * ((x : Int) * (t : Int)) = u3 at *
    generalize g * ((y : Int) * (t : Int)) = u4 at *
    generalize c * (t : Int) = u5 at *
    generalize f * (a0 : Int) = u6 at *
    generalize g * (c0 : Int) = u7 at *
    omega
theorem Comb.done {A C F : Nat} {f g : Int} {i : Nat} {S : List Nat} {c : Int} (h : Comb A C f g i S c) (hA : Lim.nl A ≤ i) (hC : Lim.nl C ≤ i) (hi : S.length = i) (hF : (F : Int) = f * (A : Int) + g * (C : Int)) (hFb : F < Lim.B ^ i) : Lim.lv S = F := by
  have h5 := h.sum
  rw [Lim.mod_all hA, Lim.mod_all hC, ← hF] at h5
  have h6 := Lim.lv_lt h.lo
  rw [hi] at h6
  generalize Lim.B ^ i = t at *
  have hc : c = 0 := by
    rcases (by omega : c = 0 ∨ c ≤ -1 ∨ 1 ≤ c) with q | q | q
    · exact q
    · have := Int.mul_le_mul_of_nonneg_right q (Int.natCast_nonneg t)
      omega
    · have := Int.mul_le_mul_of_nonneg_right q (Int.natCast_nonneg t)
      omega
  rw [hc, Int.zero_mul] at h5
  omega
end Go.Proofs.YtbcoblpnihdhgaaDoor
