/-
  The chapter's examples (layer 9), and reaches.
-/
import Derived.Test.YtkjflpkokeckgaaDoorCaProg
set_option linter.unusedVariables false
set_option maxRecDepth 100000
namespace Go.Proofs.YtkjflpkokeckgaaDoor
open Go.RowKit
open Ca
theorem ex_mom : momA 12 95 = (1247, 0) := by decide
theorem ex_mom2 : momA 400 0 = (0, 1) := by decide
theorem ex_spl : splA 1247 = (12, 95, 0) := by decide
theorem ex_sid1 : sidA 96 = (16, 0) := by decide
theorem ex_sid2 : sidA 1247 = (132, 0) := by decide
theorem decs_12 : decs 12 = [49, 50] := by rw [decs_big (by decide), decs_small (by decide)]; rfl
theorem decs_95 : decs 95 = [57, 53] := by rw [decs_big (by decide), decs_small (by decide)]; rfl
theorem decs_5 : decs 5 = [53] := by rw [decs_small (by decide)]; rfl
theorem text_1247 : textL 1247 = [49, 50, 46, 57, 53] := by
  unfold textL
  rw [show 1247 / 96 = 12 by decide, show 1247 % 96 = 95 by decide, decs_12, decs_95]; rfl
theorem text_1157 : textL 1157 = [49, 50, 46, 53] := by
  unfold textL
  rw [show 1157 / 96 = 12 by decide, show 1157 % 96 = 5 by decide, decs_12, decs_5]; rfl
theorem ex_tex : texA 1247 = ([49, 50, 46, 57, 53], 0) := by
  have := texA_ok (m := 1247) (by decide)
  rwa [text_1247] at this
theorem ex_par1 : parA (bl ⟨#[49, 50, 46, 57, 53]⟩) = (1247, 0) := by
  have h : bl ⟨#[49, 50, 46, 57, 53]⟩ = textL 1247 := text_1247.symm
  rw [h, parA, parseF_text (by decide)]; rfl
theorem ex_par2 : parA (bl ⟨#[48, 49, 50, 46, 53]⟩) = (0, 5) := by
  have h : parseF [48, 49, 50, 46, 53] = none := by
    rw [parseF_run]
    have hr : Ca.run 0 0 0 (List.take 8 [48, 49, 50, 46, 53]) = some (12, 5, 1) := by decide
    rw [hr, pickF]
    show (if 12 < 400 ∧ 5 < 96 ∧ textL 1157 = [48, 49, 50, 46, 53] then some 1157 else none) = none
    rw [if_neg]
    rw [text_1157]
    decide
  have h2 : bl ⟨#[48, 49, 50, 46, 53]⟩ = [48, 49, 50, 46, 53] := rfl
  rw [h2, parA, h]; rfl
theorem ex_nex1 : nexA 0 0 = (0, 0) := by
  have := nexA_ok (m := 0) (a := 0) (by decide) (by decide)
  rw [nextF_some (x := 0) (Nat.le_refl _) (by decide) (by decide) (fun y h1 h2 => by omega)] at this
  exact this
theorem ex_nex2 : nexA 1 0 = (96, 0) := by
  have := nexA_ok (m := 1) (a := 0) (by decide) (by decide)
  rw [nextF_some (x := 96) (by decide) (by decide) (by decide) (fun y h1 h2 => by
    have := hits_slot (n := 0) (s := y) (a := 0) (by omega) (by decide)
    rw [show 96 * 0 + y = y by omega] at this
    rw [this, show slotOf 0 0 = 0 by decide]
    simp; omega)] at this
  exact this
theorem ex_nex3 : nexA 38399 0 = (0, 9) := by
  have := nexA_ok (m := 38399) (a := 0) (by decide) (by decide)
  rw [nextF_none (fun y h1 h2 => by
    have e : y = 38399 := by omega
    subst e; decide)] at this
  exact this
set_option maxHeartbeats 4000000 in
theorem head_any (w : World) (henv : Env w) : Calls Tryd.prog 7 #[] w fun e w' => e = .returned (.bool true) ∧ Below w.heap.size w w' := by
  have HE := Lib.hid henv
  clear henv
  have c0 : Hid (∀ w, Calls Tryd.prog 8 #[.int .i64 12, .int .i64 95] w (GivesN 1247 0 w)) := Lib.hid (fun w => by have := pMoment_any 12 95 (by unfold I64; omega) (by unfold I64; omega) w; rwa [ex_mom] at this)
  have c1 : Hid (∀ w, Calls Tryd.prog 10 #[.int .i64 1247] w (GivesNN 12 95 0 w)) := Lib.hid (fun w => by have := pSplit_any 1247 (by unfold I64; omega) w; rwa [ex_spl] at this)
  have c2 : Hid (∀ w, Calls Tryd.prog 12 #[.int .i64 96] w (GivesN 16 0 w)) := Lib.hid (fun w => by have := pSidereal_any 96 (by unfold I64; omega) w; rwa [ex_sid1] at this)
  have c3 : Hid (∀ w, Calls Tryd.prog 12 #[.int .i64 1247] w (GivesN 132 0 w)) := Lib.hid (fun w => by have := pSidereal_any 1247 (by unfold I64; omega) w; rwa [ex_sid2] at this)
  have c4 : Hid (∀ w, Env w → Calls Tryd.prog 14 #[.int .i64 1247] w (GivesS [49, 50, 46, 57, 53] 0 w)) := Lib.hid (fun w he => by have := pText_any 1247 (by unfold I64; omega) w he; rwa [ex_tex] at this)
  have c5 : Hid (∀ w, Env w → Calls Tryd.prog 16 #[.string ⟨#[49, 50, 46, 57, 53]⟩] w (GivesN 1247 0 w)) := Lib.hid (fun w he => by have := pParse_any ⟨#[49, 50, 46, 57, 53]⟩ (by decide) w he; rwa [ex_par1] at this)
  have c6 : Hid (∀ w, Env w → Calls Tryd.prog 16 #[.string ⟨#[48, 49, 50, 46, 53]⟩] w (GivesN 0 5 w)) := Lib.hid (fun w he => by have := pParse_any ⟨#[48, 49, 50, 46, 53]⟩ (by decide) w he; rwa [ex_par2] at this)
  have c7 : Hid (∀ w, Calls Tryd.prog 18 #[.int .i64 0, .int .i64 0] w (GivesN 0 0 w)) := Lib.hid (fun w => by have := pNext_any 0 0 (by unfold I64; omega) (by unfold I64; omega) w; rwa [ex_nex1] at this)
  have c8 : Hid (∀ w, Calls Tryd.prog 18 #[.int .i64 1, .int .i64 0] w (GivesN 96 0 w)) := Lib.hid (fun w => by have := pNext_any 1 0 (by unfold I64; omega) (by unfold I64; omega) w; rwa [ex_nex2] at this)
  have c9 : Hid (∀ w, Calls Tryd.prog 18 #[.int .i64 38399, .int .i64 0] w (GivesN 0 9 w)) := Lib.hid (fun w => by have := pNext_any 38399 0 (by unfold I64; omega) (by unfold I64; omega) w; rwa [ex_nex3] at this)
  have c10 : Hid (∀ w, Calls Tryd.prog 8 #[.int .i64 400, .int .i64 0] w (GivesN 0 1 w)) := Lib.hid (fun w => by have := pMoment_any 400 0 (by unfold I64; omega) (by unfold I64; omega) w; rwa [ex_mom2] at this)
  have D0 := Lib.hid (Below.refl w.heap.size w)
  obtain ⟨X, hX⟩ : ∃ X, X = ba [49, 50, 46, 57, 53] := ⟨_, rfl⟩
  unfold GivesS at c4
  rw [← hX] at c4
  have tq : X.toList = [49, 50, 46, 57, 53] := by rw [hX, Lib.toList_data]; rfl
  clear hX
  go_enter Tryd.func7, Tryd.ntmps7
  go_wp2_with fail
  refine (c0.out _).mono ?_
  rintro e w1 ⟨rfl, hb⟩
  have D1 := Lib.hid (D0.out.trans (hb.mono D0.out.size))
  clear hb D0
  go_wp2_with fail
  refine (c1.out _).mono ?_
  rintro e w2 ⟨rfl, hb⟩
  have D2 := Lib.hid (D1.out.trans (hb.mono D1.out.size))
  clear hb D1
  go_wp2_with fail
  refine (c2.out _).mono ?_
  rintro e w3 ⟨rfl, hb⟩
  have D3 := Lib.hid (D2.out.trans (hb.mono D2.out.size))
  clear hb D2
  go_wp2_with fail
  refine (c3.out _).mono ?_
  rintro e w4 ⟨rfl, hb⟩
  have D4 := Lib.hid (D3.out.trans (hb.mono D3.out.size))
  clear hb D3
  go_wp2_with fail
  refine (c4.out _ (HE.out.below D4.out)).mono ?_
  rintro e w5 ⟨rfl, hb⟩
  have D5 := Lib.hid (D4.out.trans (hb.mono D4.out.size))
  clear hb D4
  go_wp2_with fail
  refine (c5.out _ (HE.out.below D5.out)).mono ?_
  rintro e w6 ⟨rfl, hb⟩
  have D6 := Lib.hid (D5.out.trans (hb.mono D5.out.size))
  clear hb D5
  go_wp2_with fail
  refine (c6.out _ (HE.out.below D6.out)).mono ?_
  rintro e w7 ⟨rfl, hb⟩
  have D7 := Lib.hid (D6.out.trans (hb.mono D6.out.size))
  clear hb D6
  go_wp2_with fail
  refine (c7.out _).mono ?_
  rintro e w8 ⟨rfl, hb⟩
  have D8 := Lib.hid (D7.out.trans (hb.mono D7.out.size))
  clear hb D7
  go_wp2_with fail
  refine (c8.out _).mono ?_
  rintro e w9 ⟨rfl, hb⟩
  have D9 := Lib.hid (D8.out.trans (hb.mono D8.out.size))
  clear hb D8
  go_wp2_with fail
  refine (c9.out _).mono ?_
  rintro e w10 ⟨rfl, hb⟩
  have D10 := Lib.hid (D9.out.trans (hb.mono D9.out.size))
  clear hb D9
  go_wp2_with fail
  refine (c10.out _).mono ?_
  rintro e w11 ⟨rfl, hb⟩
  have D11 := Lib.hid (D10.out.trans (hb.mono D10.out.size))
  clear hb D10
  go_wp2_with fail
  go_ret
  exact ⟨rfl, D11.out⟩
set_option maxHeartbeats 1000000 in
theorem reaches_any (m a : Nat) (w : World) (hm : m < 38400) (ha : a < 5760) : Calls Tryd.prog 20 #[.int .i64 (m : Int), .int .i64 (a : Int)] w fun e w' => e = .returned (.bool (hits m a)) ∧ Below w.heap.size w w' := by
  have cS := Lib.hid (pSidereal_any (m : Int) (i64_nat (by omega)) w)
  rw [sidA_ok hm] at cS
  obtain ⟨S, hS⟩ : ∃ S, S = sid m := ⟨_, rfl⟩
  have hSl : S < 5760 := by rw [hS]; exact sid_lt m
  rw [← hS] at cS
  have hh : hits m a = decide ((S + 5760 - a) % 5760 < 60) := by rw [hS]; rfl
  obtain ⟨z, hz⟩ : ∃ z : Nat, z = (S + 5760 - a) % 5760 := ⟨_, rfl⟩
  rw [← hz] at hh
  have f1 : IntKind.i64.wrap ((S : Int) - (a : Int)) = (S : Int) - (a : Int) := IntWalk.i64_in _ (by omega)
  have f2 : IntKind.i64.wrap ((S : Int) - (a : Int) + 5760) = (S : Int) - (a : Int) + 5760 := IntWalk.i64_in _ (by omega)
  have f3 : Int.tmod ((S : Int) - (a : Int) + 5760) 5760 = (z : Int) := by rw [Int.tmod_eq_emod_of_nonneg (by omega)]; omega
  have f4 : ((S : Int) - (a : Int) + 5760) % 5760 = (z : Int) := by omega
  obtain ⟨r, hr⟩ : ∃ r, r = hits m a := ⟨_, rfl⟩
  have t4 : decide ((z : Int) < 60) = r := by rw [hr, hh]; by_cases h : z < 60 <;> simp [h] <;> omega
  rw [← hr]
  have T4 := Lib.hid t4
  clear hh hr hS hz t4
  go_enter Tryd.func20, Tryd.ntmps20
  go_wp2_with fail
  refine cS.out.mono ?_
  rintro e w1 ⟨rfl, hb⟩
  have D1 := Lib.hid hb
  clear hb
  go_wp2_with fail
  go_ret
  exact ⟨by rw [← T4.out]; rfl, D1.out⟩
end Go.Proofs.YtkjflpkokeckgaaDoor
