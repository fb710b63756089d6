/-
  The law SkyDistances (layer 10): its walk.
-/
import Derived.Test.YtaebejhncjadhaaSkHead
set_option linter.unusedVariables false
set_option maxRecDepth 100000
namespace Go.Proofs.Ytaebejhncjadhaa
open Go.RowKit
open Sk
theorem moved_any (a k B : Nat) (ha : a < 512) (hk : k ≤ 255) (w : World) (hq : Boxed w B 5 (.int .u8 (k : Int))) : Calls Try.prog 21 #[.int .i64 (a : Int), .pointer (some ⟨B, 0, none⟩)] w fun e w' => e = .returned (.int .i64 ((mv k a : Nat) : Int)) ∧ w = w' := by
  have c0 := hq.cell
  have e1 : Int.tdiv (a : Int) 32 = ((a / 32 : Nat) : Int) := by rw [Int.tdiv_eq_ediv_of_nonneg (by omega)]; omega
  have e2 : Int.tmod (a : Int) 32 = ((a % 32 : Nat) : Int) := by rw [Int.tmod_eq_emod_of_nonneg (by omega)]; omega
  have e3 : (a : Int) / 32 = ((a / 32 : Nat) : Int) := by omega
  have e4 : (a : Int) % 32 = ((a % 32 : Nat) : Int) := by omega
  have q1 : a / 32 < 16 := by omega
  have q2 : a % 32 < 32 := by omega
  obtain ⟨M, hM⟩ : ∃ M, M = mv k a := ⟨_, rfl⟩
  have hM2 : M = a / 32 * 32 + (a % 32 + k) % 32 := hM
  rw [← hM]
  clear hM hq
  generalize a / 32 = q at e1 e3 q1 hM2
  generalize a % 32 = r at e2 e4 q2 hM2
  obtain ⟨z, hz⟩ : ∃ z, z = (r + k) % 32 := ⟨_, rfl⟩
  rw [← hz] at hM2
  have e5 : Int.tmod ((r : Int) + (k : Int)) 32 = (z : Int) := by rw [Int.tmod_eq_emod_of_nonneg (by omega)]; omega
  have e6 : ((r : Int) + (k : Int)) % 32 = (z : Int) := by omega
  have q3 : z < 32 := by omega
  have f1 : IntKind.i64.wrap ((q : Int) * 32) = (q : Int) * 32 := IntWalk.i64_in _ (by omega)
  have f2 : IntKind.i64.wrap (k : Int) = (k : Int) := IntWalk.i64_in _ (by omega)
  have f3 : IntKind.i64.wrap ((r : Int) + (k : Int)) = (r : Int) + (k : Int) := IntWalk.i64_in _ (by omega)
  have f4 : IntKind.i64.wrap ((q : Int) * 32 + (z : Int)) = (M : Int) := by rw [IntWalk.i64_in _ (by omega)]; omega
  clear hM2 hz
  go_enter Try.func21, Try.ntmps21
  go_wp2_with fail
  go_ret
  exact ⟨rfl, rfl⟩
theorem boxed_bel {W W' : World} {b : Nat} {t : TypeId} {v : Value} (h : Boxed W b t v) (hb : Below W.heap.size W W') : Boxed W' b t v := (hb.block _ h.lt).trans h
theorem dist_any (a b d : Nat) (ha : a < 512) (hb : b < 512) (hd : d = dis a b) (w : World) : Calls Try.prog 15 #[.int .i64 (a : Int), .int .i64 (b : Int)] w (GivesN (d : Int) 0 w) := by
  have := pDistance_any (a : Int) (b : Int) (i64_nat (by omega)) (i64_nat (by omega)) w
  rwa [disA_ok ha hb, ← hd] at this
set_option maxHeartbeats 4000000 in
theorem walkSkyDistances (i j k s : Int) (w : World) (hi : 0 ≤ i ∧ i ≤ 65535) (hj : 0 ≤ j ∧ j ≤ 65535) (hk : 0 ≤ k ∧ k ≤ 65535) (hs : 0 ≤ s ∧ s ≤ 255) :
    Calls Try.prog 5 #[.int .u16 i, .int .u16 j, .int .u16 k, .int .u8 s] w fun e w' => e = .returned (.bool true) ∧ Below w.heap.size w w' := by
  obtain ⟨I0, rfl⟩ : ∃ X : Nat, i = (X : Int) := ⟨i.toNat, by omega⟩
  obtain ⟨J0, rfl⟩ : ∃ X : Nat, j = (X : Int) := ⟨j.toNat, by omega⟩
  obtain ⟨K0, rfl⟩ : ∃ X : Nat, k = (X : Int) := ⟨k.toNat, by omega⟩
  obtain ⟨S, rfl⟩ : ∃ X : Nat, s = (X : Int) := ⟨s.toNat, by omega⟩
  have hS : S ≤ 255 := by omega
  obtain ⟨a, ha⟩ : ∃ a, a = I0 % 512 := ⟨_, rfl⟩
  obtain ⟨b, hb⟩ : ∃ a, a = J0 % 512 := ⟨_, rfl⟩
  obtain ⟨c, hc⟩ : ∃ a, a = K0 % 512 := ⟨_, rfl⟩
  have la : a < 512 := by omega
  have lb : b < 512 := by omega
  have lc : c < 512 := by omega
  have g1 : IntKind.i64.wrap (I0 : Int) = (I0 : Int) := IntWalk.i64_in _ (by omega)
  have g2 : IntKind.i64.wrap (J0 : Int) = (J0 : Int) := IntWalk.i64_in _ (by omega)
  have g3 : IntKind.i64.wrap (K0 : Int) = (K0 : Int) := IntWalk.i64_in _ (by omega)
  have e1 : Int.tmod (I0 : Int) 512 = (a : Int) := by rw [Int.tmod_eq_emod_of_nonneg (by omega)]; omega
  have e2 : Int.tmod (J0 : Int) 512 = (b : Int) := by rw [Int.tmod_eq_emod_of_nonneg (by omega)]; omega
  have e3 : Int.tmod (K0 : Int) 512 = (c : Int) := by rw [Int.tmod_eq_emod_of_nonneg (by omega)]; omega
  have e4 : (I0 : Int) % 512 = (a : Int) := by omega
  have e5 : (J0 : Int) % 512 = (b : Int) := by omega
  have e6 : (K0 : Int) % 512 = (c : Int) := by omega
  obtain ⟨d, hd⟩ : ∃ d, d = dis a b := ⟨_, rfl⟩
  obtain ⟨f, hf⟩ : ∃ d, d = dis a c := ⟨_, rfl⟩
  obtain ⟨g, hg⟩ : ∃ d, d = dis c b := ⟨_, rfl⟩
  obtain ⟨ma, hma⟩ : ∃ d, d = mv S a := ⟨_, rfl⟩
  obtain ⟨mb, hmb⟩ : ∃ d, d = mv S b := ⟨_, rfl⟩
  have c1 := Lib.hid (fun w => dist_any a b d la lb hd w)
  have c2 := Lib.hid (fun w => dist_any b a d lb la (by rw [hd, dis_comm]) w)
  have c3 := Lib.hid (fun w => dist_any a c f la lc hf w)
  have c4 := Lib.hid (fun w => dist_any c b g lc lb hg w)
  have c5 := Lib.hid (fun w => dist_any ma mb d (by rw [hma]; exact mv_lt la) (by rw [hmb]; exact mv_lt lb) (by rw [hd, hma, hmb, dis_mv]) w)
  have HM1 : Hid (∀ B w, Boxed w B 5 (.int .u8 (S : Int)) → Calls Try.prog 21 #[.int .i64 (a : Int), .pointer (some ⟨B, 0, none⟩)] w fun e w' => e = .returned (.int .i64 (ma : Int)) ∧ w = w') := Lib.hid (fun B w h => by have := moved_any a S B la hS w h; rwa [← hma] at this)
  have HM2 : Hid (∀ B w, Boxed w B 5 (.int .u8 (S : Int)) → Calls Try.prog 21 #[.int .i64 (b : Int), .pointer (some ⟨B, 0, none⟩)] w fun e w' => e = .returned (.int .i64 (mb : Int)) ∧ w = w') := Lib.hid (fun B w h => by have := moved_any b S B lb hS w h; rwa [← hmb] at this)
  have hz := dis_zero a b
  have hle := dis_le la lb
  have htr := dis_tri a b c
  rw [← hd] at hz hle htr
  rw [← hf, ← hg] at htr
  have lf := dis_le la lc
  have lg := dis_le lc lb
  rw [← hf] at lf
  rw [← hg] at lg
  obtain ⟨z, hzz⟩ : ∃ z, z = ((a : Int) == (b : Int)) := ⟨_, rfl⟩
  have r1 : ((a : Int) == (b : Int)) = z := hzz.symm
  have r2 : ((d : Int) == 0) = z := by
    rw [hzz]
    by_cases h : (a : Int) = (b : Int)
    · rw [beq_iff_eq.2 h, beq_iff_eq]; omega
    · rw [beq_eq_false_iff_ne.2 h, beq_eq_false_iff_ne]; omega
  have t1 : decide (0 ≤ (d : Int)) = true := decide_eq_true (by omega)
  have t2 : decide ((d : Int) ≤ 16) = true := decide_eq_true (by omega)
  have t3 : IntKind.i64.wrap ((f : Int) + (g : Int)) = (f : Int) + (g : Int) := IntWalk.i64_in _ (by omega)
  have t4 : decide ((d : Int) ≤ (f : Int) + (g : Int)) = true := decide_eq_true (by omega)
  have t5 : decide (d ≤ f + g) = true := decide_eq_true htr
  have hmf : ∀ (fn : Fn) (first cap : Array Value) (w : World), (Instr.makeFunc fn first cap).run Try.prog w = .ok (.func fn first cap) w := fun _ _ _ _ => rfl
  clear hi hj hk hs ha hb hc hd hf hg hma hmb hz hle htr hzz
  have D0 := Lib.hid (Below.refl w.heap.size w)
  go_enter Try.func5, Try.ntmps5
  go_wp2_with fail
  obtain ⟨w1, hw1⟩ : ∃ W, W = w.alloc (Obj.cells #[Value.int .u8 (S : Int)] 5) := ⟨_, rfl⟩
  obtain ⟨BS, hBS⟩ : ∃ B, B = w.heap.size := ⟨_, rfl⟩
  have hp : Boxed w1 BS 5 (.int .u8 (S : Int)) := by rw [hBS, hw1]; exact Boxed.new _ _ _
  have hb : Below w.heap.size w w1 := by rw [hw1]; exact (Below.refl _ _).alloc (Nat.le_refl _) _
  have D1 := Lib.hid hb
  have P1 := Lib.hid hp
  rw [← hw1]
  simp only [← hBS]
  clear hp hb hw1 hBS D0
  refine (head_any _).mono ?_
  rintro e w2 ⟨rfl, hb⟩
  have D2 := Lib.hid (D1.out.trans (hb.mono D1.out.size))
  have P2 := Lib.hid (boxed_bel P1.out hb)
  clear hb D1 P1
  go_wp2_with fail
  refine (c1.out _).mono ?_
  rintro e w3 ⟨rfl, hb⟩
  have D3 := Lib.hid (D2.out.trans (hb.mono D2.out.size))
  have P3 := Lib.hid (boxed_bel P2.out hb)
  clear hb D2 P2
  go_wp2_with fail
  refine (c2.out _).mono ?_
  rintro e w4 ⟨rfl, hb⟩
  have D4 := Lib.hid (D3.out.trans (hb.mono D3.out.size))
  have P4 := Lib.hid (boxed_bel P3.out hb)
  clear hb D3 P3
  go_wp2_with fail
  refine (c3.out _).mono ?_
  rintro e w5 ⟨rfl, hb⟩
  have D5 := Lib.hid (D4.out.trans (hb.mono D4.out.size))
  have P5 := Lib.hid (boxed_bel P4.out hb)
  clear hb D4 P4
  go_wp2_with fail
  refine (c4.out _).mono ?_
  rintro e w6 ⟨rfl, hb⟩
  have D6 := Lib.hid (D5.out.trans (hb.mono D5.out.size))
  have P6 := Lib.hid (boxed_bel P5.out hb)
  clear hb D5 P5
  go_wp2_with fail
  refine (HM1.out _ _ P6.out).mono ?_
  rintro e wx ⟨rfl, rfl⟩
  go_wp2_with fail
  refine (HM2.out _ _ P6.out).mono ?_
  rintro e wx ⟨rfl, rfl⟩
  go_wp2_with fail
  refine (c5.out _).mono ?_
  rintro e w7 ⟨rfl, hb⟩
  have D7 := Lib.hid (D6.out.trans (hb.mono D6.out.size))
  have P7 := Lib.hid (boxed_bel P6.out hb)
  clear hb D6 P6
  go_wp2_with fail
  go_ret
  exact ⟨rfl, D7.out⟩
end Go.Proofs.Ytaebejhncjadhaa
