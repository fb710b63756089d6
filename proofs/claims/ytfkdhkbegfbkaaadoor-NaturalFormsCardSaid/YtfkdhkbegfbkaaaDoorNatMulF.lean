/-
  The reference's Mul of layer 3: one contract that says all that it answers.
-/
import Derived.Test.YtfkdhkbegfbkaaaDoorNatMul
set_option linter.unusedVariables false
set_option maxRecDepth 100000
namespace Go.Proofs.YtfkdhkbegfbkaaaDoor
open Go.RowKit
theorem refMul_bad1 (a b : ByteArray) (w : World) (ha : validB a = false) :
    Calls Tryd.prog 18 #[.string a, .string b] w fun e w' => e = .returned (.tuple #[.string ⟨#[]⟩, .int .i64 1]) ∧ w = w' := by
  have HA := Lib.hid ha
  clear ha
  go_enter Tryd.func18, Tryd.ntmps18
  go_wp2_with fail
  refine (refvalid_any a _).mono ?_
  rintro e w1 ⟨rfl, rfl⟩
  rw [HA.out]
  go_wp2_with fail
  go_ret2
  exact ⟨rfl, rfl⟩
theorem refMul_bad2 (a b : ByteArray) (w : World) (ha : validB a = true) (hb : validB b = false) :
    Calls Tryd.prog 18 #[.string a, .string b] w fun e w' => e = .returned (.tuple #[.string ⟨#[]⟩, .int .i64 1]) ∧ w = w' := by
  have HA := Lib.hid ha
  clear ha
  have HB := Lib.hid hb
  clear hb
  go_enter Tryd.func18, Tryd.ntmps18
  go_wp2_with fail
  refine (refvalid_any a _).mono ?_
  rintro e w1 ⟨rfl, rfl⟩
  rw [HA.out]
  go_wp2_with fail
  refine (refvalid_any b _).mono ?_
  rintro e w1 ⟨rfl, rfl⟩
  rw [HB.out]
  go_wp2_with fail
  go_ret2
  exact ⟨rfl, rfl⟩
set_option maxHeartbeats 1000000 in
theorem refMul_long (a b : ByteArray) (w : World) (ha : validB a = true) (hb : validB b = true) (h : 1000 < (nS (Dec.val (tl a) * Dec.val (tl b))).size) :
    Calls Tryd.prog 18 #[.string a, .string b] w fun e w' => e = .returned (.tuple #[.string ⟨#[]⟩, .int .i64 2]) ∧ Below w.heap.size w w' := by
  have HA := Lib.hid ha
  have HB := Lib.hid hb
  have SA := valid_size ha
  have SB := valid_size hb
  have PA := valid_pos ha
  have PB := valid_pos hb
  have NA := Lib.hid (valid_norm ha)
  have NB := Lib.hid (valid_norm hb)
  clear ha hb
  have H := Lib.hid h
  clear h
  go_enter Tryd.func18, Tryd.ntmps18
  go_wp2_with fail
  refine (refvalid_any a _).mono ?_
  rintro e w1 ⟨rfl, rfl⟩
  rw [HA.out]
  go_wp2_with fail
  refine (refvalid_any b _).mono ?_
  rintro e w1 ⟨rfl, rfl⟩
  rw [HB.out]
  go_wp2_with fail
  refine (refmul_any a b _ PA PB SA SB NA.out.all NB.out.all).mono ?_
  rintro e w2 ⟨rfl, hb2⟩
  go_wp2_with fail
  refine (refwithin_long _ _ H.out).mono ?_
  rintro e w3 ⟨rfl, rfl⟩
  go_wp2_with fail
  go_ret2
  exact ⟨rfl, hb2⟩
set_option maxHeartbeats 1000000 in
theorem refMul_ok (a b : ByteArray) (w : World) (ha : validB a = true) (hb : validB b = true) (h : ¬ 1000 < (nS (Dec.val (tl a) * Dec.val (tl b))).size) :
    Calls Tryd.prog 18 #[.string a, .string b] w fun e w' => e = .returned (.tuple #[.string (nS (Dec.val (tl a) * Dec.val (tl b))), .int .i64 0]) ∧ Below w.heap.size w w' := by
  have HA := Lib.hid ha
  have HB := Lib.hid hb
  have SA := valid_size ha
  have SB := valid_size hb
  have PA := valid_pos ha
  have PB := valid_pos hb
  have NA := Lib.hid (valid_norm ha)
  have NB := Lib.hid (valid_norm hb)
  clear ha hb
  have H := Lib.hid h
  clear h
  go_enter Tryd.func18, Tryd.ntmps18
  go_wp2_with fail
  refine (refvalid_any a _).mono ?_
  rintro e w1 ⟨rfl, rfl⟩
  rw [HA.out]
  go_wp2_with fail
  refine (refvalid_any b _).mono ?_
  rintro e w1 ⟨rfl, rfl⟩
  rw [HB.out]
  go_wp2_with fail
  refine (refmul_any a b _ PA PB SA SB NA.out.all NB.out.all).mono ?_
  rintro e w2 ⟨rfl, hb2⟩
  go_wp2_with fail
  refine (refwithin_ok _ _ H.out).mono ?_
  rintro e w3 ⟨rfl, rfl⟩
  go_wp2_with fail
  go_ret2
  exact ⟨rfl, hb2⟩
theorem refMul_any (a b : ByteArray) (w : World) : Calls Tryd.prog 18 #[.string a, .string b] w (Gives2 (mulR a b) w) := by
  have no : ∀ {Q : Ending → World → Prop}, (∀ e w', (e = .returned (.tuple #[.string ⟨#[]⟩, .int .i64 1]) ∧ w = w') → Q e w') → True := fun _ => trivial
  by_cases ha : validB a = true
  · by_cases hb : validB b = true
    · have e : mulR a b = within (Dec.val (tl a) * Dec.val (tl b)) := by unfold mulR; rw [ha, hb]; rfl
      rw [e]
      by_cases h : 1000 < (nS (Dec.val (tl a) * Dec.val (tl b))).size
      · rw [within, if_neg (by omega)]
        exact refMul_long a b w ha hb h
      · rw [within, if_pos (by omega)]
        exact refMul_ok a b w ha hb h
    · have e : mulR a b = (⟨#[]⟩, 1) := by unfold mulR; rw [two_not (fun h => hb h.2)]; rfl
      rw [e]
      refine (refMul_bad2 a b w ha (by simpa using hb)).mono ?_
      rintro e w' ⟨rfl, rfl⟩
      exact ⟨rfl, Below.refl _ _⟩
  · have e : mulR a b = (⟨#[]⟩, 1) := by unfold mulR; rw [two_not (fun h => ha h.1)]; rfl
    rw [e]
    refine (refMul_bad1 a b w (by simpa using ha)).mono ?_
    rintro e w' ⟨rfl, rfl⟩
    exact ⟨rfl, Below.refl _ _⟩
end Go.Proofs.YtfkdhkbegfbkaaaDoor
