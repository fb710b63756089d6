/-
  The document's own answers of layer 9: the moment with a string.
-/
import Derived.Test.YtkjflpkokeckgaaDoorCaRefB
import Derived.Lib.Strings
set_option linter.unusedVariables false
set_option maxRecDepth 100000
namespace Go.Proofs.YtkjflpkokeckgaaDoor
open Go.RowKit
open Ca
theorem str_beq (a b : ByteArray) : (a.toList == b.toList) = decide (a = b) := by
  rw [Lib.toList_data, Lib.toList_data]
  by_cases h : a = b
  · subst h; simp
  · rw [decide_eq_false h]
    have : a.data.toList ≠ b.data.toList := fun e => h (ByteArray.ext (Array.ext' e))
    exact beq_eq_false_iff_ne.2 this
theorem wrap_u8 {n : Nat} (h : n < 256) : IntKind.u8.wrap (n : Int) = (n : Int) := by
  simp [IntKind.wrap, IntKind.signed, IntKind.bits]
  omega
/-- the scan so far -/
structure ScanAt (l : Bs) (R : Option (Nat × Nat × Nat)) (n s d i : Nat) : Prop where
  run : Ca.run n s d (l.drop i) = R
  n_lt : n < 10 ^ i
  s_lt : s < 10 ^ i
  d_le : d ≤ i
theorem pow8 {i : Nat} (h : i ≤ 8) : 10 ^ i ≤ 100000000 := Nat.pow_le_pow_right (n := 10) (by decide) h
theorem ScanAt.small {l : Bs} {R : Option (Nat × Nat × Nat)} {n s d i : Nat} (h : ScanAt l R n s d i) (hi : i ≤ 8) : n < 100000000 ∧ s < 100000000 ∧ d ≤ 8 := by
  have := pow8 hi; have := h.n_lt; have := h.s_lt; have := h.d_le; omega
theorem ScanAt.more {l : Bs} {R : Option (Nat × Nat × Nat)} {n s d i n' s' d' : Nat} (h : ScanAt l R n s d i) (hi : i < l.length) (hst : Ca.step n s d l[i] = some (n', s', d')) (h1 : n' ≤ 10 * n + 9) (h2 : s' ≤ 10 * s + 9) (h3 : d' ≤ d + 1) : ScanAt l R n' s' d' (i + 1) := by
  have hp : 10 ^ (i + 1) = 10 * 10 ^ i := by rw [Nat.pow_succ, Nat.mul_comm]
  have a := h.n_lt; have b := h.s_lt; have c := h.d_le
  refine ⟨?_, by omega, by omega, by omega⟩
  have := h.run
  rw [List.drop_eq_getElem_cons hi, Ca.run, hst] at this
  exact this
theorem ScanAt.bad {l : Bs} {R : Option (Nat × Nat × Nat)} {n s d i : Nat} (h : ScanAt l R n s d i) (hi : i < l.length) (hst : Ca.step n s d l[i] = none) : R = none := by
  have := h.run
  rw [List.drop_eq_getElem_cons hi, Ca.run, hst] at this
  exact this.symm
set_option maxHeartbeats 2000000 in
theorem refParse_any (t : ByteArray) (w : World) (ht : t.size ≤ 1000000) : Calls Tryd.prog 17 #[.string t] w (GivesN (parA (bl t)).1 (parA (bl t)).2 w) := by
  obtain ⟨L, hL⟩ : ∃ L, L = (bl t).take 8 := ⟨_, rfl⟩
  have hLl : L.length = min 8 t.size := by rw [hL, List.length_take, bl_len]
  have hLg : ∀ i (h : i < t.size) (hl : i < L.length), L[i] = t[i] := fun i h hl => by
    subst hL; rw [List.getElem_take, bl_get h]
  obtain ⟨R, hR⟩ : ∃ R, R = Ca.run 0 0 0 L := ⟨_, rfl⟩
  have hP : parseF (bl t) = pickF (bl t) R := by rw [hR, hL]; exact parseF_run _
  obtain ⟨A, hA⟩ : ∃ A, A = parA (bl t) := ⟨_, rfl⟩
  have hAP : A = ansF (parseF (bl t)) := hA
  rw [← hA]
  have h0 : Hid (ScanAt L R 0 0 0 0) := Lib.hid ⟨by rw [hR]; rfl, by decide, by decide, by decide⟩
  have HLG := Lib.hid hLg
  have HP := Lib.hid hP
  have HAP := Lib.hid hAP
  have HLL := Lib.hid hLl
  clear hL hLl hLg hR hP hAP hA
  go_enter Tryd.func17, Tryd.ntmps17
  go_wp2_with fail
  go_loop [4, 5, 6, 7] (fun v4 v5 v6 v7 => ∃ (n s d i : Nat), v4 = .int .i64 (n : Int) ∧ v5 = .int .i64 (s : Int) ∧ v6 = .int .i64 (d : Int) ∧ v7 = .int .i64 (i : Int) ∧ i ≤ L.length ∧ Hid (ScanAt L R n s d i)) (fun _ _ _ v7 => L.length - (intOf v7).toNat)
  case atStart => exact ⟨0, 0, 0, 0, rfl, rfl, rfl, rfl, by omega, h0⟩
  case round =>
    clear h0
    obtain ⟨n, s, d, i, rfl, rfl, rfl, rfl, hi, hS⟩ := hrel
    have hll := HLL.out
    have hsm := hS.out.small (by omega)
    obtain ⟨hn8, hs8, hd8⟩ := hsm
    by_cases hlt : i < L.length
    · have hit : i < t.size := by omega
      have hi8 : i < 8 := by omega
      have hgt := HLG.out i hit hlt
      have b0 : (0 : Int) ≤ (i : Int) := by omega
      have f7 : IntKind.i64.wrap ((i : Int) + 1) = (i : Int) + 1 := IntWalk.i64_in _ (by omega)
      have hc256 := (t[i]).toNat_lt
      clear hll
      by_cases h46 : (t[i]).toNat = 46
      · have t46 : (((t[i]).toNat : Int) == 46) = true := by rw [h46]; rfl
        have f1 : IntKind.i64.wrap ((d : Int) + 1) = (d : Int) + 1 := IntWalk.i64_in _ (by omega)
        have hN : Hid (ScanAt L R n s (d + 1) (i + 1)) := Lib.hid (hS.out.more hlt (by rw [hgt, Ca.step, if_pos h46]) (by omega) (by omega) (by omega))
        clear hS hgt h46
        go_wp2_with fail
        go_round
        case rel => exact ⟨n, s, d + 1, i + 1, rfl, rfl, by go_num, by go_num, by omega, hN⟩
        case measure => simp [intOf]; omega
      · have t46 : (((t[i]).toNat : Int) == 46) = false := by simp; omega
        by_cases h48 : (t[i]).toNat < 48
        · have t48 : decide (((t[i]).toNat : Int) < 48) = true := decide_eq_true (by omega)
          have hN : Hid (R = none) := Lib.hid (hS.out.bad hlt (by rw [hgt, Ca.step, if_neg h46, if_pos (by simp [dgt]; omega)]))
          have HR : Hid (A = (0, 5)) := Lib.hid (by rw [HAP.out, HP.out, hN.out]; rfl)
          clear hS hgt h46 hc256
          go_wp2_with fail
          go_ret2
          rw [HR.out]
          exact ⟨rfl, Below.refl _ _⟩
        · have t48 : decide (((t[i]).toNat : Int) < 48) = false := decide_eq_false (by omega)
          by_cases h57 : 57 < (t[i]).toNat
          · have t57 : decide ((57 : Int) < ((t[i]).toNat : Int)) = true := decide_eq_true (by omega)
            have hN : Hid (R = none) := Lib.hid (hS.out.bad hlt (by rw [hgt, Ca.step, if_neg h46, if_pos (by simp [dgt]; omega)]))
            have HR : Hid (A = (0, 5)) := Lib.hid (by rw [HAP.out, HP.out, hN.out]; rfl)
            clear hS hgt h46 hc256
            go_wp2_with fail
            go_ret2
            rw [HR.out]
            exact ⟨rfl, Below.refl _ _⟩
          · have t57 : decide ((57 : Int) < ((t[i]).toNat : Int)) = false := decide_eq_false (by omega)
            obtain ⟨y, hy⟩ : ∃ y : Nat, y = (t[i]).toNat - 48 := ⟨_, rfl⟩
            have e3 : IntKind.u8.wrap (((t[i]).toNat : Int) - 48) = (y : Int) := by
              have : ((t[i]).toNat : Int) - 48 = (y : Int) := by omega
              rw [this]
              exact wrap_u8 (by omega)
            have e6 : IntKind.i64.wrap (y : Int) = (y : Int) := IntWalk.i64_in _ (by omega)
            have hy9 : y ≤ 9 := by omega
            have hdg : dgt (t[i]) = true := by simp only [dgt, Bool.and_eq_true, decide_eq_true_eq]; omega
            by_cases hd0 : d = 0
            · have td : ((d : Int) == 0) = true := by rw [hd0]; rfl
              have e4 : IntKind.i64.wrap (10 * (n : Int)) = 10 * (n : Int) := IntWalk.i64_in _ (by omega)
              have e5 : IntKind.i64.wrap (10 * (n : Int) + (y : Int)) = 10 * (n : Int) + (y : Int) := IntWalk.i64_in _ (by omega)
              have hN : Hid (ScanAt L R (10 * n + y) s d (i + 1)) := Lib.hid (hS.out.more hlt (by rw [hgt, Ca.step, if_neg h46, if_neg (by rw [hdg]; decide), if_pos hd0, hy]) (by omega) (by omega) (by omega))
              clear hS hgt h46 hdg hd0 hy hc256
              go_wp2_with fail
              go_round
              case rel => exact ⟨10 * n + y, s, d, i + 1, by go_num, rfl, rfl, by go_num, by omega, hN⟩
              case measure => simp [intOf]; omega
            · have td : ((d : Int) == 0) = false := by simp; omega
              have e4 : IntKind.i64.wrap (10 * (s : Int)) = 10 * (s : Int) := IntWalk.i64_in _ (by omega)
              have e5 : IntKind.i64.wrap (10 * (s : Int) + (y : Int)) = 10 * (s : Int) + (y : Int) := IntWalk.i64_in _ (by omega)
              have hN : Hid (ScanAt L R n (10 * s + y) d (i + 1)) := Lib.hid (hS.out.more hlt (by rw [hgt, Ca.step, if_neg h46, if_neg (by rw [hdg]; decide), if_neg hd0, hy]) (by omega) (by omega) (by omega))
              clear hS hgt h46 hdg hd0 hy hc256
              go_wp2_with fail
              go_round
              case rel => exact ⟨n, 10 * s + y, d, i + 1, rfl, by go_num, rfl, by go_num, by omega, hN⟩
              case measure => simp [intOf]; omega
    · have hRs : Hid (R = some (n, s, d)) := Lib.hid (by
        have := hS.out.run
        rw [List.drop_of_length_le (by omega)] at this
        exact this.symm)
      have hPR : Hid (parseF (bl t) = if n < 400 ∧ s < 96 ∧ textL (96 * n + s) = bl t then some (96 * n + s) else none) := Lib.hid (by rw [HP.out, hRs.out]; rfl)
      have cM := Lib.hid (fun w => refMoment_any (n : Int) (s : Int) w)
      have hg : (i < t.size ∧ 8 ≤ i) ∨ t.size ≤ i := by omega
      clear hS
      by_cases hok : n < 400 ∧ s < 96
      · have cT := Lib.hid (fun w => refText_any (((96 * n + s : Nat) : Int)) w)
        rw [momA_ok hok.1 hok.2] at cM
        rw [texA_ok (by omega)] at cT
        obtain ⟨M, hM⟩ : ∃ M, M = 96 * n + s := ⟨_, rfl⟩
        obtain ⟨X, hX⟩ : ∃ X, X = ba (textL M) := ⟨_, rfl⟩
        rw [← hM] at cM cT hPR
        unfold GivesS at cT
        rw [← hX] at cT
        have hn1 := hok.1
        have hs1 := hok.2
        by_cases heq : X = t
        · have HR : Hid (A = (((M : Nat) : Int), 0)) := Lib.hid (by
            rw [HAP.out, hPR.out, if_pos ⟨hn1, hs1, by rw [← heq, hX, bl_ba]⟩]; rfl)
          have tq : (X.toList == t.toList) = true := by rw [str_beq, decide_eq_true heq]
          clear hok hM hX heq
          rcases hg with ⟨hg1, hg2⟩ | hg1
          · go_wp2_with fail
            refine (cM.out _).mono ?_
            rintro e w1 ⟨rfl, hb1⟩
            have D1 := Lib.hid hb1
            clear hb1
            go_wp2_with fail
            refine (cT.out _).mono ?_
            rintro e w2 ⟨rfl, hb2⟩
            have D2 := Lib.hid (D1.out.trans (hb2.mono D1.out.size))
            clear hb2
            go_wp2_with fail
            go_ret2
            rw [HR.out]
            exact ⟨rfl, D2.out⟩
          · go_wp2_with fail
            refine (cM.out _).mono ?_
            rintro e w1 ⟨rfl, hb1⟩
            have D1 := Lib.hid hb1
            clear hb1
            go_wp2_with fail
            refine (cT.out _).mono ?_
            rintro e w2 ⟨rfl, hb2⟩
            have D2 := Lib.hid (D1.out.trans (hb2.mono D1.out.size))
            clear hb2
            go_wp2_with fail
            go_ret2
            rw [HR.out]
            exact ⟨rfl, D2.out⟩
        · have HR : Hid (A = (0, 5)) := Lib.hid (by
            rw [HAP.out, hPR.out, if_neg (show ¬ (n < 400 ∧ s < 96 ∧ textL M = bl t) from fun h => heq (by rw [hX, h.2.2, ba_bl]))]; rfl)
          have tq : (X.toList == t.toList) = false := by rw [str_beq, decide_eq_false heq]
          clear hok hM hX heq
          rcases hg with ⟨hg1, hg2⟩ | hg1
          · go_wp2_with fail
            refine (cM.out _).mono ?_
            rintro e w1 ⟨rfl, hb1⟩
            have D1 := Lib.hid hb1
            clear hb1
            go_wp2_with fail
            refine (cT.out _).mono ?_
            rintro e w2 ⟨rfl, hb2⟩
            have D2 := Lib.hid (D1.out.trans (hb2.mono D1.out.size))
            clear hb2
            go_wp2_with fail
            go_ret2
            rw [HR.out]
            exact ⟨rfl, D2.out⟩
          · go_wp2_with fail
            refine (cM.out _).mono ?_
            rintro e w1 ⟨rfl, hb1⟩
            have D1 := Lib.hid hb1
            clear hb1
            go_wp2_with fail
            refine (cT.out _).mono ?_
            rintro e w2 ⟨rfl, hb2⟩
            have D2 := Lib.hid (D1.out.trans (hb2.mono D1.out.size))
            clear hb2
            go_wp2_with fail
            go_ret2
            rw [HR.out]
            exact ⟨rfl, D2.out⟩
      · have hmom : momA (n : Int) (s : Int) = (0, 1) := by
          unfold momA okNS; rw [if_neg (by simp; omega)]
        rw [hmom] at cM
        have HR : Hid (A = (0, 5)) := Lib.hid (by
          rw [HAP.out, hPR.out, if_neg (fun h => hok ⟨h.1, h.2.1⟩)]; rfl)
        clear hok hmom
        rcases hg with ⟨hg1, hg2⟩ | hg1
        · go_wp2_with fail
          refine (cM.out _).mono ?_
          rintro e w1 ⟨rfl, hb1⟩
          have D1 := Lib.hid hb1
          clear hb1
          go_wp2_with fail
          go_ret2
          rw [HR.out]
          exact ⟨rfl, D1.out⟩
        · go_wp2_with fail
          refine (cM.out _).mono ?_
          rintro e w1 ⟨rfl, hb1⟩
          have D1 := Lib.hid hb1
          clear hb1
          go_wp2_with fail
          go_ret2
          rw [HR.out]
          exact ⟨rfl, D1.out⟩
end Go.Proofs.YtkjflpkokeckgaaDoor
