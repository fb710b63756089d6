/-
  The program's estimate of the quotient of a part and the divisor.
-/
import Derived.Test.YtbcoblpnihdhgaaDoorLmScaled
set_option linter.unusedVariables false
set_option maxRecDepth 100000
namespace Go.Proofs.YtbcoblpnihdhgaaDoor
open Go.RowKit
namespace Lim
theorem div_split (x t : Nat) : x / B ^ (t + 1) * B + pl x t = x / B ^ t := by
  rw [pl, Nat.pow_succ, ← Nat.div_div_eq_div_mul, Nat.mul_comm, Nat.div_add_mod]
theorem pl_top {x t : Nat} (h : x < B ^ (t + 1)) : pl x t = x / B ^ t := by
  rw [pl, Nat.mod_eq_of_lt]
  rw [Nat.div_lt_iff_lt_mul (B_pow t), Nat.mul_comm, ← Nat.pow_succ]
  exact h
theorem pl_shift (V i j : Nat) : pl V (i + j) = pl (V / B ^ i) j := by
  rw [pl, pl, Nat.pow_add, Nat.div_div_eq_div_mul]
/-- the estimate from the three highest limbs -/
theorem est_of {u d t h q r x y : Nat} (hd : nl d = t + 2) (hu : u < d * B) (htop : 500000000 ≤ pl d (t + 1)) (hh : h = pl u (t + 2) * B + pl u (t + 1)) (hq : q = h / pl d (t + 1)) (hr : r = h % pl d (t + 1)) (hx : x = q * pl d t) (hy : y = r * B + pl u t) :
    (¬ y < x → u / d ≤ q ∧ q ≤ u / d + 1) ∧ (y < x → 1 ≤ q ∧ u / d ≤ q - 1 ∧ q - 1 ≤ u / d + 1) := by
  have hdl : d < B ^ (t + 2) := nl_le.1 (by omega)
  have hul : u < B ^ (t + 3) := Nat.lt_of_lt_of_le hu (by rw [Nat.pow_succ]; exact Nat.mul_le_mul_right _ (Nat.le_of_lt hdl))
  have h1 : h = u / B ^ (t + 1) := by rw [hh, pl_top hul, div_split]
  have h2 : pl d (t + 1) = d / B ^ (t + 1) := pl_top hdl
  have := estimate_ok (k := t + 2) (v1 := pl d (t + 1)) (v2 := pl d t) (H := h) (u2 := pl u t) (by omega) hu h2 htop (by rw [h2]; exact div_split d t) h1 (by rw [h1]; exact div_split u t)
  rw [hx, hy, hq, hr]
  exact this
end Lim
set_option maxHeartbeats 4000000 in
theorem estimate_any (p : Nat → Prop) (H L i t : Nat) (S : List Nat) (cap d u : Nat) (vd : Value) (w : World) (hR : RowAt H L S w) (hlo : Lim.Lo S) (hu : u = Lim.lv S / Lim.B ^ i) (hk : Lim.nl d = t + 2) (hL : i + (t + 2) + 1 ≤ L) (hud : u < d * Lim.B) (htop : 500000000 ≤ Lim.pl d (t + 1)) (hd : IntsIn p w vd (Lim.ls d)) (hkl : t + 2 ≤ 100000) :
    Calls Tryd.prog 80 #[vd, .slice (some ⟨H, i, none⟩) (t + 3) cap] w fun e w' => ∃ q n : Nat, e = .returned (.int .i64 (q : Int)) ∧ u / d ≤ q ∧ q ≤ u / d + 1 ∧ w' = w.drewN n := by
  obtain ⟨a, ca, rfl, a1, a2, a3⟩ := hd.open_
  obtain ⟨k, hk'⟩ : ∃ k, k = (Lim.ls d).length := ⟨_, rfl⟩
  rw [← hk'] at a1 a3 ⊢
  have hkt : k = t + 2 := by rw [hk', ← hk]; rfl
  obtain ⟨bd, od, rfl, _, hcd⟩ := a3 (by omega)
  have hc1 := hcd (t + 1) (by omega)
  have hc2 := hcd t (by omega)
  rw [Lim.pl_ls] at hc1 hc2
  have hp : ∀ j, S.getD (i + j) 0 = Lim.pl u j := fun j => by rw [Lim.getD_pl _ _ hlo, Lim.pl_shift, hu]
  have g0 := hR.cell (i + (t + 2)) (by omega)
  have g1 := hR.cell (i + (t + 1)) (by omega)
  have g2 := hR.cell (i + t) (by omega)
  rw [hp] at g0 g1 g2
  have b0 := Lim.pl_lt u (t + 2)
  have b1 := Lim.pl_lt u (t + 1)
  have b2 := Lim.pl_lt u t
  have b3 := Lim.pl_lt d (t + 1)
  have b4 := Lim.pl_lt d t
  obtain ⟨h, hh⟩ : ∃ h, h = Lim.pl u (t + 2) * Lim.B + Lim.pl u (t + 1) := ⟨_, rfl⟩
  obtain ⟨q, hq⟩ : ∃ q, q = h / Lim.pl d (t + 1) := ⟨_, rfl⟩
  obtain ⟨r, hr⟩ : ∃ r, r = h % Lim.pl d (t + 1) := ⟨_, rfl⟩
  obtain ⟨x, hx⟩ : ∃ x, x = q * Lim.pl d t := ⟨_, rfl⟩
  obtain ⟨y, hy⟩ : ∃ y, y = r * Lim.B + Lim.pl u t := ⟨_, rfl⟩
  have hest := Lib.hid (Lim.est_of hk hud htop hh hq hr hx hy)
  have HUD : Hid (u / d = u / d) := Lib.hid rfl
  generalize Lim.pl u (t + 2) = p0 at g0 b0 hh
  generalize Lim.pl u (t + 1) = p1 at g1 b1 hh
  generalize Lim.pl u t = p2 at g2 b2 hy
  generalize Lim.pl d (t + 1) = v1 at hc1 b3 hq hr htop
  generalize Lim.pl d t = v2 at hc2 b4 hx
  generalize u / d = qq at hest ⊢
  rw [Lim.B_eq] at b0 b1 b2 b3 b4 hh hy
  have hqb : q ≤ 2000000000 := by
    rw [hq]
    have : h / v1 ≤ h / 500000000 := Nat.div_le_div_left htop (by omega)
    omega
  have hrb : r < v1 := by rw [hr]; exact Nat.mod_lt _ (by omega)
  have hxb : x ≤ 2000000000 * 1000000000 := by rw [hx]; exact Nat.mul_le_mul hqb (by omega)
  obtain ⟨k1, hk1⟩ : ∃ k1, k1 = t + 1 := ⟨_, rfl⟩
  rw [← hkt] at g0
  rw [← hk1] at g1 hc1
  rw [show t + 3 = k + 1 by omega]
  have f1 : (k : Int) - 1 = (k1 : Int) := by omega
  have f2 : (k : Int) - 2 = (t : Int) := by omega
  have f3 : IntKind.i64.wrap (k1 : Int) = (k1 : Int) := IntWalk.i64_in _ (by omega)
  have f4 : IntKind.i64.wrap (t : Int) = (t : Int) := IntWalk.i64_in _ (by omega)
  have f5 : IntKind.i64.wrap ((p0 : Int) * 1000000000) = (p0 : Int) * 1000000000 := IntWalk.i64_in _ (by omega)
  have f6 : (p0 : Int) * 1000000000 + (p1 : Int) = (h : Int) := by omega
  have f7 : IntKind.i64.wrap (h : Int) = (h : Int) := IntWalk.i64_in _ (by omega)
  have f8 : ((h : Int)).tdiv (v1 : Int) = (q : Int) := by rw [Int.tdiv_eq_ediv_of_nonneg (by omega), hq]; exact (Int.natCast_ediv _ _).symm
  have f9 : ((h : Int)).tmod (v1 : Int) = (r : Int) := by rw [Int.tmod_eq_emod_of_nonneg (by omega), hr]; exact (Int.natCast_emod _ _).symm
  have f10 : IntKind.i64.wrap (q : Int) = (q : Int) := IntWalk.i64_in _ (by omega)
  have f11 : IntKind.i64.wrap (r : Int) = (r : Int) := IntWalk.i64_in _ (by omega)
  have f12 : (q : Int) * (v2 : Int) = (x : Int) := by rw [hx]; simp
  have f13 : IntKind.i64.wrap (x : Int) = (x : Int) := IntWalk.i64_in _ (by omega)
  have f14 : IntKind.i64.wrap ((r : Int) * 1000000000) = (r : Int) * 1000000000 := IntWalk.i64_in _ (by omega)
  have f15 : (r : Int) * 1000000000 + (p2 : Int) = (y : Int) := by omega
  have f16 : IntKind.i64.wrap (y : Int) = (y : Int) := IntWalk.i64_in _ (by omega)
  have f17 : ((v1 : Int) == 0) = false := beq_eq_false_iff_ne.2 (by omega)
  have f18 : ¬ v1 = 0 := by omega
  have f19 : (k : Int) < (k : Int) + 1 := by omega
  have f20 : (k1 : Int) < (k : Int) + 1 := by omega
  have f21 : (t : Int) < (k : Int) + 1 := by omega
  have f22 : (k1 : Int) < (k : Int) := by omega
  have f23 : (t : Int) < (k : Int) := by omega
  have f24 : (0 : Int) ≤ (t : Int) := by omega
  have f25 : (0 : Int) ≤ (k1 : Int) := by omega
  have f26 : (0 : Int) ≤ (k : Int) := by omega
  clear hd hcd hp hR hlo hu hk' hk hkt hh hq hr hx hy hk1 a3
  by_cases c : y < x
  · have c2 : (y : Int) < (x : Int) := by omega
    have hE := hest.out.2 c
    have f27 : IntKind.i64.wrap ((q : Int) - 1) = ((q - 1 : Nat) : Int) := by rw [IntWalk.i64_in _ (by omega)]; omega
    obtain ⟨q', hq'⟩ : ∃ q', q' = q - 1 := ⟨_, rfl⟩
    rw [← hq'] at f27 hE
    have HE := Lib.hid hE
    clear hE hq' hest
    go_enter Tryd.func80, Tryd.ntmps80
    go_wp2_with fail
    go_quiet (fail)
    go_wp2_with fail
    go_quiet (fail)
    go_wp2_with fail
    go_quiet (fail)
    go_wp2_with fail
    go_ret
    exact ⟨q', _, rfl, HE.out.2.1, HE.out.2.2, by first | rfl | (simp only [World.drewN_drewN]; rfl)⟩
  · have c2 : ¬ (y : Int) < (x : Int) := by omega
    have hE := hest.out.1 c
    have HE := Lib.hid hE
    clear hE hest
    go_enter Tryd.func80, Tryd.ntmps80
    go_wp2_with fail
    go_quiet (fail)
    go_wp2_with fail
    go_quiet (fail)
    go_wp2_with fail
    go_quiet (fail)
    go_wp2_with fail
    go_ret
    exact ⟨q, _, rfl, HE.out.1, HE.out.2, by first | rfl | (simp only [World.drewN_drewN]; rfl)⟩
end Go.Proofs.YtbcoblpnihdhgaaDoor
