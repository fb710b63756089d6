/-
  The program's calendar (layer 9): Parse.
-/
import Derived.Test.YtkjflpkokeckgaaDoorCaPE
import Derived.Laws.EntriesVeiled
set_option linter.unusedVariables false
set_option maxRecDepth 100000
namespace Go.Proofs.YtkjflpkokeckgaaDoor
open Go.RowKit
open Ca
set_option maxHeartbeats 1000000 in
theorem pParse_any (t : ByteArray) (ht : t.size ≤ 1000000) (w : World) (he : Env w) : Calls Tryd.prog 16 #[.string t] w (GivesN (parA (bl t)).1 (parA (bl t)).2 w) := by
  have hmf : ∀ (fn : Fn) (first cap : Array Value) (w : World), (Instr.makeFunc fn first cap).run Tryd.prog w = .ok (.func fn first cap) w := fun _ _ _ _ => rfl
  have cX : Hid (∀ w, Calls Tryd.prog 28 #[.string t, .string ⟨#[46]⟩] w fun e w' => ∃ b, e = .returned (.tuple #[.string (ba (headL (bl t))), .string (ba (tailL (bl t))), .bool b]) ∧ Below w.heap.size w w') := Lib.hid (fun w => cut_any t ht w)
  obtain ⟨hl1, hl2⟩ := cut_len (bl t)
  rw [bl_len] at hl1 hl2
  have HP : Hid (parA (bl t) = parP (bl t)) := Lib.hid (parA_by (bl t))
  have HP2 : Hid (parP (bl t) = match numO (bl (ba (headL (bl t)))), numO (bl (ba (tailL (bl t)))) with
    | some a, some b => if okNS a b then (96 * a + b, 0) else (0, 5)
    | _, _ => (0, 5)) := Lib.hid (by rw [bl_ba, bl_ba]; rfl)
  have z1 : (ba (headL (bl t))).size ≤ 1000000 := by rw [ba_size]; omega
  have z2 : (ba (tailL (bl t))).size ≤ 1000000 := by rw [ba_size]; omega
  generalize ba (headL (bl t)) = A at cX HP2 z1
  generalize ba (tailL (bl t)) = C at cX HP2 z2
  obtain ⟨R, hR⟩ : ∃ R, R = parA (bl t) := ⟨_, rfl⟩
  rw [← hR]
  have HR : Hid (R = match numO (bl A), numO (bl C) with
    | some a, some b => if okNS a b then (96 * a + b, 0) else (0, 5)
    | _, _ => (0, 5)) := Lib.hid (by rw [hR, HP.out, HP2.out])
  have HE := Lib.hid he
  clear hR HP HP2 hl1 hl2 he
  go_enter Tryd.func16, Tryd.ntmps16
  go_wp2_with fail
  obtain ⟨W1, hW1⟩ : ∃ W, W = w.alloc (Obj.cells #[Value.bool true] 4) := ⟨_, rfl⟩
  have b1 : Boxed W1 w.heap.size 4 (.bool true) := by rw [hW1]; exact Boxed.new w _ _
  have D1 : Hid (Below w.heap.size w W1) := Lib.hid (by rw [hW1]; exact (Below.refl _ _).alloc (Nat.le_refl _) _)
  rw [← hW1]
  obtain ⟨Q, hQ⟩ : ∃ Q, Q = w.heap.size := ⟨_, rfl⟩
  rw [← hQ] at b1
  simp only [← hQ]
  have HQ := Lib.hid hQ
  have B1 := Lib.hid b1
  clear hW1 b1 hQ
  refine (cX.out _).mono ?_
  rintro e W2 ⟨fnd, rfl, hb⟩
  have D2 := Lib.hid (D1.out.trans (hb.mono D1.out.size))
  have B2 := Lib.hid (boxed_bel B1.out hb)
  clear hb B1 D1
  go_wp2_with fail
  refine (num_any A z1 Q true W2 B2.out (HE.out.below D2.out)).mono ?_
  rintro e W3 ⟨⟨v1, hv1, rfl, hn1⟩, hb3, hbes⟩
  have D3 := Lib.hid (D2.out.trans (hbes.low (by rw [HQ.out]; exact Nat.le_refl _) D2.out.size))
  have B3 := Lib.hid hb3
  have HV1 := Lib.hid hv1
  have HN1 := Lib.hid hn1
  clear hv1 hn1 hb3 hbes B2 D2
  go_wp2_with fail
  refine (num_any C z2 Q _ W3 B3.out (HE.out.below D3.out)).mono ?_
  rintro e W4 ⟨⟨v2, hv2, rfl, hn2⟩, hb4, hbes⟩
  have D4 := Lib.hid (D3.out.trans (hbes.low (by rw [HQ.out]; exact Nat.le_refl _) D3.out.size))
  have B4 := Lib.hid hb4
  have HV2 := Lib.hid hv2
  have HN2 := Lib.hid hn2
  clear hv2 hn2 hb4 hbes B3 D3
  go_wp2_with fail
  have cM := Lib.hid (pMoment_any v1 v2 HV1.out HV2.out W4)
  obtain ⟨ok, hok⟩ : ∃ ok, ok = (true && (numO (bl A)).isSome && (numO (bl C)).isSome) := ⟨_, rfl⟩
  rw [← hok] at B4
  obtain ⟨M, hM⟩ : ∃ M, M = momA v1 v2 := ⟨_, rfl⟩
  rw [← hM] at cM
  have HF : Hid (ok = true → M.2 = 0 → R = (M.1, 0)) := Lib.hid (by
    intro h1 h2
    rw [hok] at h1
    simp only [Bool.true_and, Bool.and_eq_true] at h1
    obtain ⟨u1, hu1⟩ := Option.isSome_iff_exists.1 h1.1
    obtain ⟨u2, hu2⟩ := Option.isSome_iff_exists.1 h1.2
    have e1 := HN1.out u1 hu1
    have e2 := HN2.out u2 hu2
    subst e1 e2
    rw [HR.out, hu1, hu2]
    simp only
    rw [hM] at h2 ⊢
    unfold momA at h2 ⊢
    split
    · rfl
    · rename_i c; rw [if_neg c] at h2; cases h2)
  have HG : Hid ((ok = false ∨ M.2 ≠ 0) → R = (0, 5)) := Lib.hid (by
    intro h
    rw [HR.out]
    cases h1 : numO (bl A) with
    | none => rfl
    | some u1 =>
      cases h2 : numO (bl C) with
      | none => rfl
      | some u2 =>
        have e1 := HN1.out u1 h1
        have e2 := HN2.out u2 h2
        subst e1 e2
        simp only
        rw [h1, h2] at hok
        rcases h with h | h
        · rw [hok] at h; cases h
        · rw [if_neg]
          intro c
          apply h
          rw [hM]
          unfold momA
          rw [if_pos c])
  clear hok hM HN1 HN2 HR
  refine cM.out.mono ?_
  rintro e W5 ⟨rfl, hb⟩
  have D5 := Lib.hid (D4.out.trans (hb.mono D4.out.size))
  have B5 := Lib.hid (boxed_bel B4.out hb)
  have k5 := B5.out.cell
  clear hb B4 D4
  cases ok with
  | false =>
    have HX := Lib.hid (HG.out (.inl rfl))
    go_wp2_with fail
    go_ret2
    exact ⟨by rw [HX.out]; rfl, D5.out⟩
  | true =>
    by_cases c : M.2 = 0
    · have HX := Lib.hid (HF.out rfl c)
      have c2 : ((M.2 : Int) != 0) = false := by rw [c]; rfl
      clear c
      go_wp2_with fail
      go_ret2
      exact ⟨by rw [HX.out]; rfl, D5.out⟩
    · have HX := Lib.hid (HG.out (.inr c))
      have c2 : ((M.2 : Int) != 0) = true := by simp; omega
      clear c
      go_wp2_with fail
      go_ret2
      exact ⟨by rw [HX.out]; rfl, D5.out⟩
end Go.Proofs.YtkjflpkokeckgaaDoor
