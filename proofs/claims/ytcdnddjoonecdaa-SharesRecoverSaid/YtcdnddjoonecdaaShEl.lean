/-
  The helpers of the statements of layer 7: element, made.
-/
import Derived.Test.YtcdnddjoonecdaaShAt
set_option linter.unusedVariables false
set_option maxRecDepth 100000
namespace Go.Proofs.Ytcdnddjoonecdaa
open Go.RowKit
open Fdp
def elemF (n : Int) : Int := n % 2147483647
theorem elemF_el (n : Int) : El (elemF n) := by unfold elemF El; omega
theorem elemF_same {n : Int} (h : El n) : elemF n = n := by unfold elemF; rw [Int.emod_eq_of_lt h.1 h.2]
theorem tmod_parts (n : Int) : ∃ r : Int, n.tmod 2147483647 = r ∧ -2147483647 < r ∧ r < 2147483647 ∧ ((0 ≤ r ∧ elemF n = r) ∨ (r < 0 ∧ elemF n = r + 2147483647)) := by
  refine ⟨_, rfl, ?_⟩
  unfold elemF
  rcases Int.lt_or_le n 0 with h | h
  · obtain ⟨m, rfl⟩ : ∃ m : Int, n = -m := ⟨-n, by omega⟩
    rw [Int.neg_tmod, Int.tmod_eq_emod_of_nonneg (by omega)]
    omega
  · rw [Int.tmod_eq_emod_of_nonneg h]
    omega
theorem element_any (n : Int) (w : World) : Calls Try.prog 11 #[.int .i64 n] w fun e w' => e = .returned (.int .i64 (elemF n)) ∧ w = w' := by
  obtain ⟨r, h1, h2, h3, h4⟩ := tmod_parts n
  obtain ⟨y, hy⟩ : ∃ y, y = elemF n := ⟨_, rfl⟩
  rw [← hy] at h4 ⊢
  have e1 : IntKind.i64.wrap r = r := IntWalk.i64_in _ (by omega)
  have e2 : IntKind.i64.wrap (r + 2147483647) = r + 2147483647 := IntWalk.i64_in _ (by omega)
  rcases h4 with ⟨h5, h6⟩ | ⟨h5, h6⟩
  · subst h6
    have g : ¬ y < 0 := by omega
    clear h2 h3 hy
    go_enter Try.func11, Try.ntmps11
    go_wp2_with fail
    go_ret
    exact ⟨rfl, rfl⟩
  · have h6' : r + 2147483647 = y := h6.symm
    have e3 : IntKind.i64.wrap y = y := IntWalk.i64_in _ (by omega)
    clear h2 h3 hy h6
    go_enter Try.func11, Try.ntmps11
    go_wp2_with fail
    go_ret
    exact ⟨rfl, rfl⟩
def mN (need : Int) : Nat := need.toNat % 6 + 1
def mM (need total : Int) : Nat := mN need + total.toNat % (9 - mN need)
theorem mN_range (need : Int) : 1 ≤ mN need ∧ mN need ≤ 6 := by unfold mN; omega
theorem mM_range (need total : Int) : mN need ≤ mM need total ∧ mM need total ≤ 8 := by
  have h := mN_range need
  unfold mM
  have : total.toNat % (9 - mN need) < 9 - mN need := Nat.mod_lt _ (by omega)
  omega
set_option maxHeartbeats 1000000 in
theorem made_any (a : Option Addr) (n cap : Nat) (l : List Int) (need total : Int) (w : World) (h : IntsAt w a n l) (hn : n ≤ maxLen) (h1 : 0 ≤ need ∧ need ≤ 255) (h2 : 0 ≤ total ∧ total ≤ 255) :
    Calls Try.prog 9 #[.slice a n cap, .int .u8 need, .int .u8 total] w fun e w' => ∃ v R, e = .returned (.tuple #[.int .i64 (mN need : Nat), .int .i64 (mM need total : Nat), v]) ∧ OwnI w.heap.size w' v R ∧ R.length + 1 = mN need ∧ allE R = true ∧ Below w.heap.size w w' := by
  have HH := Lib.hid h
  have HL := Lib.hid h.len
  have hn' : n ≤ 9223372036854775807 := by unfold maxLen at hn; omega
  clear h hn
  obtain ⟨N, hN⟩ : ∃ N, N = mN need := ⟨_, rfl⟩
  obtain ⟨M, hM⟩ : ∃ M, M = mM need total := ⟨_, rfl⟩
  have rN := mN_range need
  have rM := mM_range need total
  rw [← hN] at rN
  rw [← hN, ← hM] at rM
  rw [← hN, ← hM]
  obtain ⟨n0, hn0⟩ : ∃ n0 : Nat, n0 = need.toNat % 6 := ⟨_, rfl⟩
  obtain ⟨m0, hm0⟩ : ∃ m0 : Nat, m0 = total.toNat % (9 - N) := ⟨_, rfl⟩
  have f0 : IntKind.i64.wrap need = need := IntWalk.i64_in _ (by omega)
  have f1 : IntKind.i64.wrap total = total := IntWalk.i64_in _ (by omega)
  have f2 : need.tmod 6 = (n0 : Int) := by
    obtain ⟨r, rfl⟩ : ∃ r : Nat, need = r := ⟨need.toNat, by omega⟩
    rw [Int.tmod_eq_emod_of_nonneg (by omega), hn0, Int.toNat_natCast]
    exact (Int.natCast_emod r 6).symm
  have eN : N = n0 + 1 := by rw [hN, hn0]; rfl
  have eM : M = N + m0 := by rw [hM, hm0, hN]; rfl
  have f3 : IntKind.i64.wrap (n0 : Int) = (n0 : Int) := IntWalk.i64_in _ (by omega)
  have f4 : IntKind.i64.wrap (1 + (n0 : Int)) = (N : Int) := by rw [IntWalk.i64_in _ (by omega)]; omega
  obtain ⟨d, hd⟩ : ∃ d : Nat, d = 9 - N := ⟨_, rfl⟩
  have f5 : IntKind.i64.wrap (9 - (N : Int)) = (d : Int) := by rw [IntWalk.i64_in _ (by omega)]; omega
  have f6 : total.tmod (d : Int) = (m0 : Int) := by
    obtain ⟨r, rfl⟩ : ∃ r : Nat, total = r := ⟨total.toNat, by omega⟩
    rw [Int.tmod_eq_emod_of_nonneg (by omega), hm0, hd, Int.toNat_natCast]
    exact (Int.natCast_emod r (9 - N)).symm
  have f7 : IntKind.i64.wrap (m0 : Int) = (m0 : Int) := IntWalk.i64_in _ (by omega)
  have f8 : IntKind.i64.wrap ((N : Int) + (m0 : Int)) = (M : Int) := by rw [IntWalk.i64_in _ (by omega)]; omega
  have f9 : ((d : Int) == 0) = false := beq_eq_false_iff_ne.2 (by omega)
  have f10 : ¬ d = 0 := by omega
  obtain ⟨N1, hN1⟩ : ∃ N1 : Nat, N1 = N - 1 := ⟨_, rfl⟩
  have f11 : IntKind.i64.wrap ((N : Int) - 1) = (N1 : Int) := by rw [IntWalk.i64_in _ (by omega)]; omega
  have f12 : (N : Int) - 1 = (N1 : Int) := by omega
  have f13 : N1 ≤ 5 := by omega
  have hNN : Hid (N1 + 1 = N) := Lib.hid (by omega)
  clear hN hM hn0 hm0 eN eM hd hN1 rN rM h1 h2
  have D0 : Hid (Below w.heap.size w w) := Lib.hid (Below.refl _ _)
  have hO : Hid (OwnI w.heap.size w (.slice none 0 0) []) := Lib.hid (World.ownsRow_nil _ _ _ _)
  go_enter Try.func9, Try.ntmps9
  go_wp2_with fail
  go_loopw [11, 12] (fun v ii wr => ∃ (k : Nat) (R : List Int), k ≤ N1 ∧ ii = .int .i64 (k : Int) ∧ Hid (R.length = k) ∧ Hid (allE R = true) ∧ Hid (OwnI w.heap.size wr v R) ∧ Hid (Below w.heap.size w wr)) (fun _ ii _ => N1 - (intOf ii).toNat)
  case atStart => exact ⟨0, [], by omega, rfl, Lib.hid rfl, Lib.hid rfl, hO, D0⟩
  case round =>
    clear hO D0
    obtain ⟨k, R, hk, rfl, hR, hE, hO, hD⟩ := hrel
    by_cases hlt : k < N1
    · have hRl : Hid (R.length + 1 ≤ 1000000) := Lib.hid (by have := hR.out; omega)
      by_cases hkn : k < n
      · obtain ⟨b, off, rfl, -⟩ := HH.out.cells (by omega)
        have hkl : k < l.length := by rw [← HL.out]; exact hkn
        have hc := (HH.out.bel hD.out).cell hkl
        obtain ⟨x, hx⟩ : ∃ x, x = l[k] := ⟨_, rfl⟩
        rw [← hx] at hc
        have hE2 : Hid (allE (R ++ [elemF x]) = true) := Lib.hid (allE_iff.2 fun c hc => by
          rcases List.mem_append.1 hc with h | h
          · exact allE_iff.1 hE.out c h
          · simp at h; subst h; exact elemF_el x)
        have hR2 : Hid ((R ++ [elemF x]).length = k + 1) := Lib.hid (by simp [hR.out])
        have HX := Lib.hid hx
        clear hx
        have hO2 := Lib.hid (own_bel hO.out ((Below.refl _ wr).alloc (Nat.le_refl _) (Obj.cells #[Value.int .i64 (elemF x)] 3)))
        have hD2 := Lib.hid (hD.out.alloc hD.out.size (Obj.cells #[Value.int .i64 (elemF x)] 3))
        go_wp2_with fail
        refine (element_any _ _).mono ?_
        rintro e w' ⟨rfl, rfl⟩
        go_wp2_with (at_builtin; refine wpList_catI _ rfl _ _ rfl w.heap.size _ R [elemF x] _ 1 1 rfl rfl hO2.out (ints_one _ _ (by simp)) (fun h => by cases h) hRl.out hD2.out.size ?_)
        intro v6 w6 hO6 hg6 ha6
        have hO7 : Hid (OwnI w.heap.size w6 v6 (R ++ [elemF x])) := Lib.hid hO6
        have hD7 := Lib.hid (below_app hD2.out hD2.out.size hO2.out hg6)
        clear hO6 hg6 ha6 hO2 hD2 hO hD
        go_wp2_with fail
        go_roundw
        case rel => exact ⟨k + 1, _, by omega, by go_num, hR2, hE2, hO7, hD7⟩
        case measure => simp [intOf]; omega
      · have hE2 : Hid (allE (R ++ [(k : Int)]) = true) := Lib.hid (allE_iff.2 fun c hc => by
          rcases List.mem_append.1 hc with h | h
          · exact allE_iff.1 hE.out c h
          · simp at h; subst h; omega)
        have hR2 : Hid ((R ++ [(k : Int)]).length = k + 1) := Lib.hid (by simp [hR.out])
        have hO2 := Lib.hid (own_bel hO.out ((Below.refl _ wr).alloc (Nat.le_refl _) (Obj.cells #[Value.int .i64 (k : Int)] 3)))
        have hD2 := Lib.hid (hD.out.alloc hD.out.size (Obj.cells #[Value.int .i64 (k : Int)] 3))
        go_wp2_with (at_builtin; refine wpList_catI _ rfl _ _ rfl w.heap.size _ R [(k : Int)] _ 1 1 rfl rfl hO2.out (ints_one _ _ (by simp)) (fun h => by cases h) hRl.out hD2.out.size ?_)
        intro v6 w6 hO6 hg6 ha6
        have hO7 : Hid (OwnI w.heap.size w6 v6 (R ++ [(k : Int)])) := Lib.hid hO6
        have hD7 := Lib.hid (below_app hD2.out hD2.out.size hO2.out hg6)
        clear hO6 hg6 ha6 hO2 hD2 hO hD
        go_wp2_with fail
        go_roundw
        case rel => exact ⟨k + 1, _, by omega, by go_num, hR2, hE2, hO7, hD7⟩
        case measure => simp [intOf]; omega
    · obtain rfl : k = N1 := by omega
      go_wp2_with fail
      go_ret3
      exact ⟨_, R, rfl, hO.out, by rw [hR.out]; exact hNN.out, hE.out, hD.out⟩
end Go.Proofs.Ytcdnddjoonecdaa
