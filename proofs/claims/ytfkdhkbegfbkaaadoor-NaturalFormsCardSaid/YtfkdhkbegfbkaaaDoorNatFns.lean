/-
  The reference's Add, Sub, Div and Gcd of layer 3: one contract for each that says all that it answers.
-/
import Derived.Test.YtfkdhkbegfbkaaaDoorNatDiv
set_option linter.unusedVariables false
set_option maxRecDepth 100000
namespace Go.Proofs.YtfkdhkbegfbkaaaDoor
open Go.RowKit
/-- what Add answers -/
def within (n : Nat) : ByteArray × Int := if (nS n).size ≤ 1000 then (nS n, 0) else (⟨#[]⟩, 2)
def addR (a b : ByteArray) : ByteArray × Int := if validB a && validB b then within (Dec.val (tl a) + Dec.val (tl b)) else (⟨#[]⟩, 1)
def mulR (a b : ByteArray) : ByteArray × Int := if validB a && validB b then within (Dec.val (tl a) * Dec.val (tl b)) else (⟨#[]⟩, 1)
def subR (a b : ByteArray) : ByteArray × Int := if validB a && validB b then (if Dec.val (tl a) < Dec.val (tl b) then (⟨#[]⟩, 9) else (nS (Dec.val (tl a) - Dec.val (tl b)), 0)) else (⟨#[]⟩, 1)
def gcdR (a b : ByteArray) : ByteArray × Int := if validB a && validB b then (nS (Nat.gcd (Dec.val (tl a)) (Dec.val (tl b))), 0) else (⟨#[]⟩, 1)
def divR (a b : ByteArray) : ByteArray × ByteArray × Int := if validB a && validB b then (if Dec.val (tl b) = 0 then (⟨#[]⟩, ⟨#[]⟩, 14) else (nS (Dec.val (tl a) / Dec.val (tl b)), nS (Dec.val (tl a) % Dec.val (tl b)), 0)) else (⟨#[]⟩, ⟨#[]⟩, 1)
theorem two_not {x y : Bool} (h : ¬ (x = true ∧ y = true)) : (x && y) = false := by cases x <;> cases y <;> simp_all
/-- the same answers, or what a call with two results ends in -/
def Gives2 (r : ByteArray × Int) (w : World) (e : Ending) (w' : World) : Prop := e = .returned (.tuple #[.string r.1, .int .i64 r.2]) ∧ Below w.heap.size w w'
theorem valid_size {s : ByteArray} (h : validB s = true) : s.size ≤ 1000 := ((validB_iff s).1 h).2
theorem valid_norm {s : ByteArray} (h : validB s = true) : Dec.Norm (tl s) := ((validB_iff s).1 h).1
theorem valid_pos {s : ByteArray} (h : validB s = true) : 0 < s.size := by rw [← tl_length]; exact List.length_pos_iff.2 (valid_norm h).ne
theorem str_beq (a b : ByteArray) : (a.toList == b.toList) = decide (a = b) := by
  rw [Lib.toList_data, Lib.toList_data]
  by_cases h : a = b
  · subst h; rw [decide_eq_true rfl]; exact beq_self_eq_true _
  · rw [decide_eq_false h]; exact beq_eq_false_iff_ne.2 (fun e => h (tl_inj e))
theorem nS_inj {a b : Nat} (h : nS a = nS b) : a = b := by rw [← val_nS a, ← val_nS b, h]
theorem nS_zero : nS 0 = ⟨#[48]⟩ := by unfold nS; rw [Dec.digs_small (by omega)]; rfl
theorem nS_mono {a b : Nat} (h : a ≤ b) : (nS a).size ≤ (nS b).size := (nS_size (nS_pos b)).2 (Nat.lt_of_le_of_lt h ((nS_size (nS_pos b)).1 (Nat.le_refl _)))

theorem refAdd_bad1 (a b : ByteArray) (w : World) (ha : validB a = false) :
    Calls Tryd.prog 14 #[.string a, .string b] w fun e w' => e = .returned (.tuple #[.string ⟨#[]⟩, .int .i64 1]) ∧ w = w' := by
  have HA := Lib.hid ha
  clear ha
  go_enter Tryd.func14, Tryd.ntmps14
  go_wp2_with fail
  refine (refvalid_any a _).mono ?_
  rintro e w1 ⟨rfl, rfl⟩
  rw [HA.out]
  go_wp2_with fail
  go_ret2
  exact ⟨rfl, rfl⟩
theorem refAdd_bad2 (a b : ByteArray) (w : World) (ha : validB a = true) (hb : validB b = false) :
    Calls Tryd.prog 14 #[.string a, .string b] w fun e w' => e = .returned (.tuple #[.string ⟨#[]⟩, .int .i64 1]) ∧ w = w' := by
  have HA := Lib.hid ha
  clear ha
  have HB := Lib.hid hb
  clear hb
  go_enter Tryd.func14, Tryd.ntmps14
  go_wp2_with fail
  refine (refvalid_any a _).mono ?_
  rintro e w1 ⟨rfl, rfl⟩
  rw [HA.out]
  go_wp2_with fail
  refine (refvalid_any b _).mono ?_
  rintro e w1 ⟨rfl, rfl⟩
  rw [HB.out]
  go_wp2_with fail
  go_ret2
  exact ⟨rfl, rfl⟩
theorem refSub_bad1 (a b : ByteArray) (w : World) (ha : validB a = false) :
    Calls Tryd.prog 16 #[.string a, .string b] w fun e w' => e = .returned (.tuple #[.string ⟨#[]⟩, .int .i64 1]) ∧ w = w' := by
  have HA := Lib.hid ha
  clear ha
  go_enter Tryd.func16, Tryd.ntmps16
  go_wp2_with fail
  refine (refvalid_any a _).mono ?_
  rintro e w1 ⟨rfl, rfl⟩
  rw [HA.out]
  go_wp2_with fail
  go_ret2
  exact ⟨rfl, rfl⟩
theorem refSub_bad2 (a b : ByteArray) (w : World) (ha : validB a = true) (hb : validB b = false) :
    Calls Tryd.prog 16 #[.string a, .string b] w fun e w' => e = .returned (.tuple #[.string ⟨#[]⟩, .int .i64 1]) ∧ w = w' := by
  have HA := Lib.hid ha
  clear ha
  have HB := Lib.hid hb
  clear hb
  go_enter Tryd.func16, Tryd.ntmps16
  go_wp2_with fail
  refine (refvalid_any a _).mono ?_
  rintro e w1 ⟨rfl, rfl⟩
  rw [HA.out]
  go_wp2_with fail
  refine (refvalid_any b _).mono ?_
  rintro e w1 ⟨rfl, rfl⟩
  rw [HB.out]
  go_wp2_with fail
  go_ret2
  exact ⟨rfl, rfl⟩
theorem refGcd_bad1 (a b : ByteArray) (w : World) (ha : validB a = false) :
    Calls Tryd.prog 22 #[.string a, .string b] w fun e w' => e = .returned (.tuple #[.string ⟨#[]⟩, .int .i64 1]) ∧ w = w' := by
  have HA := Lib.hid ha
  clear ha
  go_enter Tryd.func22, Tryd.ntmps22
  go_wp2_with fail
  refine (refvalid_any a _).mono ?_
  rintro e w1 ⟨rfl, rfl⟩
  rw [HA.out]
  go_wp2_with fail
  go_ret2
  exact ⟨rfl, rfl⟩
theorem refGcd_bad2 (a b : ByteArray) (w : World) (ha : validB a = true) (hb : validB b = false) :
    Calls Tryd.prog 22 #[.string a, .string b] w fun e w' => e = .returned (.tuple #[.string ⟨#[]⟩, .int .i64 1]) ∧ w = w' := by
  have HA := Lib.hid ha
  clear ha
  have HB := Lib.hid hb
  clear hb
  go_enter Tryd.func22, Tryd.ntmps22
  go_wp2_with fail
  refine (refvalid_any a _).mono ?_
  rintro e w1 ⟨rfl, rfl⟩
  rw [HA.out]
  go_wp2_with fail
  refine (refvalid_any b _).mono ?_
  rintro e w1 ⟨rfl, rfl⟩
  rw [HB.out]
  go_wp2_with fail
  go_ret2
  exact ⟨rfl, rfl⟩
theorem refDiv_bad1 (a b : ByteArray) (w : World) (ha : validB a = false) :
    Calls Tryd.prog 20 #[.string a, .string b] w fun e w' => e = .returned (.tuple #[.string ⟨#[]⟩, .string ⟨#[]⟩, .int .i64 1]) ∧ w = w' := by
  have HA := Lib.hid ha
  clear ha
  go_enter Tryd.func20, Tryd.ntmps20
  go_wp2_with fail
  refine (refvalid_any a _).mono ?_
  rintro e w1 ⟨rfl, rfl⟩
  rw [HA.out]
  go_wp2_with fail
  go_ret3
  exact ⟨rfl, rfl⟩
theorem refDiv_bad2 (a b : ByteArray) (w : World) (ha : validB a = true) (hb : validB b = false) :
    Calls Tryd.prog 20 #[.string a, .string b] w fun e w' => e = .returned (.tuple #[.string ⟨#[]⟩, .string ⟨#[]⟩, .int .i64 1]) ∧ w = w' := by
  have HA := Lib.hid ha
  clear ha
  have HB := Lib.hid hb
  clear hb
  go_enter Tryd.func20, Tryd.ntmps20
  go_wp2_with fail
  refine (refvalid_any a _).mono ?_
  rintro e w1 ⟨rfl, rfl⟩
  rw [HA.out]
  go_wp2_with fail
  refine (refvalid_any b _).mono ?_
  rintro e w1 ⟨rfl, rfl⟩
  rw [HB.out]
  go_wp2_with fail
  go_ret3
  exact ⟨rfl, rfl⟩
set_option maxHeartbeats 1000000 in
theorem refAdd_long (a b : ByteArray) (w : World) (ha : validB a = true) (hb : validB b = true) (h : 1000 < (nS (Dec.val (tl a) + Dec.val (tl b))).size) :
    Calls Tryd.prog 14 #[.string a, .string b] w fun e w' => e = .returned (.tuple #[.string ⟨#[]⟩, .int .i64 2]) ∧ Below w.heap.size w w' := by
  have HA := Lib.hid ha
  have HB := Lib.hid hb
  have SA := valid_size ha
  have SB := valid_size hb
  have PA := valid_pos ha
  have PB := valid_pos hb
  have NA := Lib.hid (valid_norm ha)
  have NB := Lib.hid (valid_norm hb)
  clear ha hb
  have H := Lib.hid h
  clear h
  go_enter Tryd.func14, Tryd.ntmps14
  go_wp2_with fail
  refine (refvalid_any a _).mono ?_
  rintro e w1 ⟨rfl, rfl⟩
  rw [HA.out]
  go_wp2_with fail
  refine (refvalid_any b _).mono ?_
  rintro e w1 ⟨rfl, rfl⟩
  rw [HB.out]
  go_wp2_with fail
  refine (refadd_any a b (max a.size b.size) _ (Nat.le_max_left _ _) (Nat.le_max_right _ _) (by omega) (by omega) (by omega) NA.out.all NB.out.all).mono ?_
  rintro e w2 ⟨rfl, hb2⟩
  go_wp2_with fail
  refine (refwithin_long _ _ H.out).mono ?_
  rintro e w3 ⟨rfl, rfl⟩
  go_wp2_with fail
  go_ret2
  exact ⟨rfl, hb2⟩
set_option maxHeartbeats 1000000 in
theorem refAdd_ok (a b : ByteArray) (w : World) (ha : validB a = true) (hb : validB b = true) (h : ¬ 1000 < (nS (Dec.val (tl a) + Dec.val (tl b))).size) :
    Calls Tryd.prog 14 #[.string a, .string b] w fun e w' => e = .returned (.tuple #[.string (nS (Dec.val (tl a) + Dec.val (tl b))), .int .i64 0]) ∧ Below w.heap.size w w' := by
  have HA := Lib.hid ha
  have HB := Lib.hid hb
  have SA := valid_size ha
  have SB := valid_size hb
  have PA := valid_pos ha
  have PB := valid_pos hb
  have NA := Lib.hid (valid_norm ha)
  have NB := Lib.hid (valid_norm hb)
  clear ha hb
  have H := Lib.hid h
  clear h
  go_enter Tryd.func14, Tryd.ntmps14
  go_wp2_with fail
  refine (refvalid_any a _).mono ?_
  rintro e w1 ⟨rfl, rfl⟩
  rw [HA.out]
  go_wp2_with fail
  refine (refvalid_any b _).mono ?_
  rintro e w1 ⟨rfl, rfl⟩
  rw [HB.out]
  go_wp2_with fail
  refine (refadd_any a b (max a.size b.size) _ (Nat.le_max_left _ _) (Nat.le_max_right _ _) (by omega) (by omega) (by omega) NA.out.all NB.out.all).mono ?_
  rintro e w2 ⟨rfl, hb2⟩
  go_wp2_with fail
  refine (refwithin_ok _ _ H.out).mono ?_
  rintro e w3 ⟨rfl, rfl⟩
  go_wp2_with fail
  go_ret2
  exact ⟨rfl, hb2⟩
theorem refAdd_any (a b : ByteArray) (w : World) : Calls Tryd.prog 14 #[.string a, .string b] w (Gives2 (addR a b) w) := by
  have no : ∀ {Q : Ending → World → Prop}, (∀ e w', (e = .returned (.tuple #[.string ⟨#[]⟩, .int .i64 1]) ∧ w = w') → Q e w') → True := fun _ => trivial
  by_cases ha : validB a = true
  · by_cases hb : validB b = true
    · have e : addR a b = within (Dec.val (tl a) + Dec.val (tl b)) := by unfold addR; rw [ha, hb]; rfl
      rw [e]
      by_cases h : 1000 < (nS (Dec.val (tl a) + Dec.val (tl b))).size
      · rw [within, if_neg (by omega)]
        exact refAdd_long a b w ha hb h
      · rw [within, if_pos (by omega)]
        exact refAdd_ok a b w ha hb h
    · have e : addR a b = (⟨#[]⟩, 1) := by unfold addR; rw [two_not (fun h => hb h.2)]; rfl
      rw [e]
      refine (refAdd_bad2 a b w ha (by simpa using hb)).mono ?_
      rintro e w' ⟨rfl, rfl⟩
      exact ⟨rfl, Below.refl _ _⟩
  · have e : addR a b = (⟨#[]⟩, 1) := by unfold addR; rw [two_not (fun h => ha h.1)]; rfl
    rw [e]
    refine (refAdd_bad1 a b w (by simpa using ha)).mono ?_
    rintro e w' ⟨rfl, rfl⟩
    exact ⟨rfl, Below.refl _ _⟩
set_option maxHeartbeats 1000000 in
theorem refSub_less (a b : ByteArray) (w : World) (ha : validB a = true) (hb : validB b = true) (h : Dec.val (tl a) < Dec.val (tl b)) :
    Calls Tryd.prog 16 #[.string a, .string b] w fun e w' => e = .returned (.tuple #[.string ⟨#[]⟩, .int .i64 9]) ∧ Below w.heap.size w w' := by
  have HA := Lib.hid ha
  have HB := Lib.hid hb
  have SA := valid_size ha
  have SB := valid_size hb
  have PA := valid_pos ha
  have PB := valid_pos hb
  have NA := Lib.hid (valid_norm ha)
  have NB := Lib.hid (valid_norm hb)
  clear ha hb
  have H := Lib.hid (decide_eq_true h)
  clear h
  go_enter Tryd.func16, Tryd.ntmps16
  go_wp2_with fail
  refine (refvalid_any a _).mono ?_
  rintro e w1 ⟨rfl, rfl⟩
  rw [HA.out]
  go_wp2_with fail
  refine (refvalid_any b _).mono ?_
  rintro e w1 ⟨rfl, rfl⟩
  rw [HB.out]
  go_wp2_with fail
  refine (refless_any a b _).mono ?_
  rintro e w2 ⟨rfl, rfl⟩
  rw [Dec.lessL_val NA.out NB.out, H.out]
  go_wp2_with fail
  go_ret2
  exact ⟨rfl, Below.refl _ _⟩
set_option maxHeartbeats 1000000 in
theorem refSub_ok (a b : ByteArray) (w : World) (ha : validB a = true) (hb : validB b = true) (h : ¬ Dec.val (tl a) < Dec.val (tl b)) :
    Calls Tryd.prog 16 #[.string a, .string b] w fun e w' => e = .returned (.tuple #[.string (nS (Dec.val (tl a) - Dec.val (tl b))), .int .i64 0]) ∧ Below w.heap.size w w' := by
  have HA := Lib.hid ha
  have HB := Lib.hid hb
  have SA := valid_size ha
  have SB := valid_size hb
  have PA := valid_pos ha
  have PB := valid_pos hb
  have NA := Lib.hid (valid_norm ha)
  have NB := Lib.hid (valid_norm hb)
  clear ha hb
  have H := Lib.hid (decide_eq_false h)
  have HL := Lib.hid (Nat.le_of_not_lt h)
  clear h
  go_enter Tryd.func16, Tryd.ntmps16
  go_wp2_with fail
  refine (refvalid_any a _).mono ?_
  rintro e w1 ⟨rfl, rfl⟩
  rw [HA.out]
  go_wp2_with fail
  refine (refvalid_any b _).mono ?_
  rintro e w1 ⟨rfl, rfl⟩
  rw [HB.out]
  go_wp2_with fail
  refine (refless_any a b _).mono ?_
  rintro e w2 ⟨rfl, rfl⟩
  rw [Dec.lessL_val NA.out NB.out, H.out]
  go_wp2_with fail
  refine (refsub_any a b _ PA (by omega) (by omega) NA.out.all NB.out.all HL.out).mono ?_
  rintro e w3 ⟨rfl, hb3⟩
  go_wp2_with fail
  go_ret2
  exact ⟨rfl, hb3⟩
theorem refSub_any (a b : ByteArray) (w : World) : Calls Tryd.prog 16 #[.string a, .string b] w (Gives2 (subR a b) w) := by
  by_cases ha : validB a = true
  · by_cases hb : validB b = true
    · by_cases h : Dec.val (tl a) < Dec.val (tl b)
      · have e : subR a b = (⟨#[]⟩, 9) := by unfold subR; rw [ha, hb, if_pos (by rfl), if_pos h]
        rw [e]; exact refSub_less a b w ha hb h
      · have e : subR a b = (nS (Dec.val (tl a) - Dec.val (tl b)), 0) := by unfold subR; rw [ha, hb, if_pos (by rfl), if_neg h]
        rw [e]; exact refSub_ok a b w ha hb h
    · have e : subR a b = (⟨#[]⟩, 1) := by unfold subR; rw [two_not (fun h => hb h.2)]; rfl
      rw [e]
      refine (refSub_bad2 a b w ha (by simpa using hb)).mono ?_
      rintro e w' ⟨rfl, rfl⟩
      exact ⟨rfl, Below.refl _ _⟩
  · have e : subR a b = (⟨#[]⟩, 1) := by unfold subR; rw [two_not (fun h => ha h.1)]; rfl
    rw [e]
    refine (refSub_bad1 a b w (by simpa using ha)).mono ?_
    rintro e w' ⟨rfl, rfl⟩
    exact ⟨rfl, Below.refl _ _⟩
def Gives3 (r : ByteArray × ByteArray × Int) (w : World) (e : Ending) (w' : World) : Prop := e = .returned (.tuple #[.string r.1, .string r.2.1, .int .i64 r.2.2]) ∧ Below w.heap.size w w'
theorem zero_list : ([48] : List UInt8) = (⟨#[48]⟩ : ByteArray).toList := by rw [Lib.toList_data]
theorem zero_str {b : ByteArray} (hb : validB b = true) : (b.toList == [48]) = decide (Dec.val (tl b) = 0) := by
  rw [zero_list, str_beq, nS_of hb, ← nS_zero, val_nS]
  by_cases h : Dec.val (tl b) = 0
  · rw [h, decide_eq_true rfl, decide_eq_true rfl]
  · rw [decide_eq_false h, decide_eq_false (fun e => h (nS_inj e))]
set_option maxHeartbeats 1000000 in
theorem refDiv_zero (a b : ByteArray) (w : World) (ha : validB a = true) (hb : validB b = true) (h : Dec.val (tl b) = 0) (q : (b.toList == [48]) = true) :
    Calls Tryd.prog 20 #[.string a, .string b] w fun e w' => e = .returned (.tuple #[.string ⟨#[]⟩, .string ⟨#[]⟩, .int .i64 14]) ∧ Below w.heap.size w w' := by
  have HA := Lib.hid ha
  have HB := Lib.hid hb
  have SA := valid_size ha
  have SB := valid_size hb
  have PA := valid_pos ha
  have PB := valid_pos hb
  have NA := Lib.hid (valid_norm ha)
  have NB := Lib.hid (valid_norm hb)
  clear ha hb
  clear h
  go_enter Tryd.func20, Tryd.ntmps20
  go_wp2_with fail
  refine (refvalid_any a _).mono ?_
  rintro e w1 ⟨rfl, rfl⟩
  rw [HA.out]
  go_wp2_with fail
  refine (refvalid_any b _).mono ?_
  rintro e w1 ⟨rfl, rfl⟩
  rw [HB.out]
  go_wp2_with fail
  go_ret3
  exact ⟨rfl, Below.refl _ _⟩
set_option maxHeartbeats 1000000 in
theorem refDiv_ok (a b : ByteArray) (w : World) (ha : validB a = true) (hb : validB b = true) (h : Dec.val (tl b) ≠ 0) (q : (b.toList == [48]) = false) :
    Calls Tryd.prog 20 #[.string a, .string b] w fun e w' => e = .returned (.tuple #[.string (nS (Dec.val (tl a) / Dec.val (tl b))), .string (nS (Dec.val (tl a) % Dec.val (tl b))), .int .i64 0]) ∧ Below w.heap.size w w' := by
  have HA := Lib.hid ha
  have HB := Lib.hid hb
  have SA := valid_size ha
  have SB := valid_size hb
  have PA := valid_pos ha
  have PB := valid_pos hb
  have NA := Lib.hid (valid_norm ha)
  have NB := Lib.hid (valid_norm hb)
  clear ha hb
  have H := Lib.hid (Nat.pos_of_ne_zero h)
  clear h
  go_enter Tryd.func20, Tryd.ntmps20
  go_wp2_with fail
  refine (refvalid_any a _).mono ?_
  rintro e w1 ⟨rfl, rfl⟩
  rw [HA.out]
  go_wp2_with fail
  refine (refvalid_any b _).mono ?_
  rintro e w1 ⟨rfl, rfl⟩
  rw [HB.out]
  go_wp2_with fail
  refine (refdiv_any a b _ NA.out SA NB.out SB H.out).mono ?_
  rintro e w3 ⟨rfl, hb3⟩
  go_wp2_with fail
  go_ret3
  exact ⟨rfl, hb3⟩
theorem refDiv_any (a b : ByteArray) (w : World) : Calls Tryd.prog 20 #[.string a, .string b] w (Gives3 (divR a b) w) := by
  by_cases ha : validB a = true
  · by_cases hb : validB b = true
    · by_cases h : Dec.val (tl b) = 0
      · have e : divR a b = (⟨#[]⟩, ⟨#[]⟩, 14) := by unfold divR; rw [ha, hb, if_pos (by rfl), if_pos h]
        rw [e]; exact refDiv_zero a b w ha hb h (by rw [zero_str hb]; exact decide_eq_true h)
      · have e : divR a b = (nS (Dec.val (tl a) / Dec.val (tl b)), nS (Dec.val (tl a) % Dec.val (tl b)), 0) := by unfold divR; rw [ha, hb, if_pos (by rfl), if_neg h]
        rw [e]; exact refDiv_ok a b w ha hb h (by rw [zero_str hb]; exact decide_eq_false h)
    · have e : divR a b = (⟨#[]⟩, ⟨#[]⟩, 1) := by unfold divR; rw [two_not (fun h => hb h.2)]; rfl
      rw [e]
      refine (refDiv_bad2 a b w ha (by simpa using hb)).mono ?_
      rintro e w' ⟨rfl, rfl⟩
      exact ⟨rfl, Below.refl _ _⟩
  · have e : divR a b = (⟨#[]⟩, ⟨#[]⟩, 1) := by unfold divR; rw [two_not (fun h => ha h.1)]; rfl
    rw [e]
    refine (refDiv_bad1 a b w (by simpa using ha)).mono ?_
    rintro e w' ⟨rfl, rfl⟩
    exact ⟨rfl, Below.refl _ _⟩
def strV : Value → Nat
  | .string s => Dec.val (tl s)
  | _ => 0
theorem strV_nS (n : Nat) : strV (.string (nS n)) = n := val_nS n
set_option maxHeartbeats 1000000 in
theorem refGcd_ok (a b : ByteArray) (w : World) (ha : validB a = true) (hb : validB b = true) :
    Calls Tryd.prog 22 #[.string a, .string b] w fun e w' => e = .returned (.tuple #[.string (nS (Nat.gcd (Dec.val (tl a)) (Dec.val (tl b)))), .int .i64 0]) ∧ Below w.heap.size w w' := by
  have HA := Lib.hid ha
  have HB := Lib.hid hb
  have SA := valid_size ha
  have SB := valid_size hb
  have PA := valid_pos ha
  have PB := valid_pos hb
  have NA := Lib.hid (valid_norm ha)
  have NB := Lib.hid (valid_norm hb)
  clear ha hb
  have EA := Lib.hid (nS_of HA.out)
  have EB := Lib.hid (nS_of HB.out)
  go_enter Tryd.func22, Tryd.ntmps22
  go_wp2_with fail
  refine (refvalid_any a _).mono ?_
  rintro e w1 ⟨rfl, rfl⟩
  rw [HA.out]
  go_wp2_with fail
  refine (refvalid_any b _).mono ?_
  rintro e w1 ⟨rfl, rfl⟩
  rw [HB.out]
  go_wp2_with fail
  go_loopw [6, 7] (fun xv yv wr => ∃ x y : Nat, xv = .string (nS x) ∧ yv = .string (nS y) ∧ (nS x).size ≤ 1000 ∧ (nS y).size ≤ 1000 ∧ Nat.gcd x y = Nat.gcd (Dec.val (tl a)) (Dec.val (tl b)) ∧ Below w.heap.size w wr) (fun _ yv _ => strV yv)
  case atStart => exact ⟨Dec.val (tl a), Dec.val (tl b), by rw [← EA.out], by rw [← EB.out], by rw [← EA.out]; exact SA, by rw [← EB.out]; exact SB, rfl, Below.refl _ _⟩
  case round =>
    obtain ⟨x, y, rfl, rfl, hx, hy, hg, hB⟩ := hrel
    have HG := Lib.hid hg
    have HX := Lib.hid hx
    have HY := Lib.hid hy
    clear hg hx hy
    have hvy : validB (nS y) = true := digs_valid y (by have := HY.out; unfold nS at this; rwa [bx_size] at this)
    have q := zero_str hvy
    rw [val_nS] at q
    by_cases h0 : y = 0
    · rw [decide_eq_true h0] at q
      have H0 := Lib.hid h0
      clear h0 hvy
      go_wp2_with fail
      go_ret2
      have e : x = Nat.gcd (Dec.val (tl a)) (Dec.val (tl b)) := by rw [← HG.out, H0.out, Nat.gcd_zero_right]
      exact ⟨by rw [← e]; rfl, hB⟩
    · rw [decide_eq_false h0] at q
      have H0 := Lib.hid h0
      have hstep : Nat.gcd y (x % y) = Nat.gcd (Dec.val (tl a)) (Dec.val (tl b)) := by
        rw [← HG.out, Nat.gcd_comm x y, Nat.gcd_rec y x, Nat.gcd_comm]
      have HST := Lib.hid hstep
      have hlt : x % y < y := Nat.mod_lt _ (Nat.pos_of_ne_zero h0)
      have HLT := Lib.hid hlt
      clear h0 hvy hstep hlt
      go_wp2_with fail
      refine (refdiv_any (nS x) (nS y) _ (nS_norm x) HX.out (nS_norm y) HY.out (by rw [val_nS]; exact Nat.pos_of_ne_zero H0.out)).mono ?_
      rintro e w3 ⟨rfl, hb3⟩
      rw [val_nS, val_nS]
      have hB3 := hB.trans (hb3.mono hB.size)
      go_wp2_with fail
      go_roundw
      case rel => exact ⟨y, x % y, rfl, rfl, HY.out, Nat.le_trans (nS_mono (Nat.le_of_lt HLT.out)) HY.out, HST.out, hB3⟩
      case measure => rw [strV_nS, strV_nS]; exact HLT.out
theorem refGcd_any (a b : ByteArray) (w : World) : Calls Tryd.prog 22 #[.string a, .string b] w (Gives2 (gcdR a b) w) := by
  by_cases ha : validB a = true
  · by_cases hb : validB b = true
    · have e : gcdR a b = (nS (Nat.gcd (Dec.val (tl a)) (Dec.val (tl b))), 0) := by unfold gcdR; rw [ha, hb, if_pos (by rfl)]
      rw [e]; exact refGcd_ok a b w ha hb
    · have e : gcdR a b = (⟨#[]⟩, 1) := by unfold gcdR; rw [two_not (fun h => hb h.2)]; rfl
      rw [e]
      refine (refGcd_bad2 a b w ha (by simpa using hb)).mono ?_
      rintro e w' ⟨rfl, rfl⟩
      exact ⟨rfl, Below.refl _ _⟩
  · have e : gcdR a b = (⟨#[]⟩, 1) := by unfold gcdR; rw [two_not (fun h => ha h.1)]; rfl
    rw [e]
    refine (refGcd_bad1 a b w (by simpa using ha)).mono ?_
    rintro e w' ⟨rfl, rfl⟩
    exact ⟨rfl, Below.refl _ _⟩
end Go.Proofs.YtfkdhkbegfbkaaaDoor
