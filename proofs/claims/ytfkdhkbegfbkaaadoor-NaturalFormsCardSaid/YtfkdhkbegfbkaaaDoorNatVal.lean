/-
  The reference's Valid, less and within of layer 3.
-/
import Derived.Test.YtfkdhkbegfbkaaaDoorNatSub
import Derived.Lib.Strings
set_option linter.unusedVariables false
namespace Go.Proofs.YtfkdhkbegfbkaaaDoor
open Go.RowKit
def validL (l : List UInt8) : Bool := decide (1 ≤ l.length) && decide (l.length ≤ 1000) && (decide (l.length ≤ 1) || decide (l.head? ≠ some 48)) && l.all Dec.isD
/-- a natural number of layer 3 -/
def validB (s : ByteArray) : Bool := validL (tl s)
theorem validL_iff (l : List UInt8) : validL l = true ↔ Dec.Norm l ∧ l.length ≤ 1000 := by
  unfold validL
  simp only [Bool.and_eq_true, Bool.or_eq_true, decide_eq_true_eq, List.all_eq_true]
  constructor
  · rintro ⟨⟨⟨h1, h2⟩, h3⟩, h4⟩
    refine ⟨⟨by intro e; subst e; simp at h1, h4, fun h => ?_⟩, h2⟩
    rcases h3 with h3 | h3
    · omega
    · exact h3
  · rintro ⟨⟨h1, h2, h3⟩, h4⟩
    refine ⟨⟨⟨by have := List.length_pos_iff.2 h1; omega, h4⟩, ?_⟩, h2⟩
    by_cases h : l.length ≤ 1
    · exact .inl h
    · exact .inr (h3 (by omega))
theorem validB_iff (s : ByteArray) : validB s = true ↔ Dec.Norm (tl s) ∧ s.size ≤ 1000 := by
  unfold validB
  rw [validL_iff, tl_length]
theorem validB_digs {s : ByteArray} (h : validB s = true) : s = bx (Dec.digs (Dec.val (tl s))) := by
  rw [Dec.digs_val _ _ rfl ((validB_iff s).1 h).1, bx_tl]
theorem digs_valid (n : Nat) (h : (Dec.digs n).length ≤ 1000) : validB (bx (Dec.digs n)) = true := by
  rw [validB_iff, tl_bx, bx_size]
  exact ⟨Dec.digs_norm n, h⟩
theorem valid_inj {s t : ByteArray} (hs : validB s = true) (ht : validB t = true) (h : Dec.val (tl s) = Dec.val (tl t)) : s = t := by
  rw [validB_digs hs, validB_digs ht, h]
theorem nd_iff (b : UInt8) : Dec.isD b = false ↔ b.toNat < 48 ∨ 57 < b.toNat := by
  cases e : Dec.isD b with
  | true => have := (Dec.isD_iff b).1 e; simp; omega
  | false =>
    simp only [true_iff]
    rcases Nat.lt_or_ge b.toNat 48 with h | h
    · exact .inl h
    · rcases Nat.lt_or_ge 57 b.toNat with h2 | h2
      · exact .inr h2
      · have := (Dec.isD_iff b).2 ⟨h, h2⟩
        rw [this] at e; cases e
set_option maxHeartbeats 400000 in
theorem refvalid_empty (s : ByteArray) (w : World) (h : s.size = 0) :
    Calls Tryd.prog 28 #[.string s] w fun e w' => e = .returned (.bool false) ∧ w = w' := by
  have t1 : decide (s.size < 1) = true := decide_eq_true (by omega)
  have t2 : decide ((s.size : Int) < 1) = true := decide_eq_true (by omega)
  go_enter Tryd.func28, Tryd.ntmps28
  go_wp2_with fail
  go_ret
  exact ⟨rfl, rfl⟩
set_option maxHeartbeats 400000 in
theorem refvalid_long (s : ByteArray) (w : World) (h : 1000 < s.size) :
    Calls Tryd.prog 28 #[.string s] w fun e w' => e = .returned (.bool false) ∧ w = w' := by
  have t1 : decide (s.size < 1) = false := decide_eq_false (by omega)
  have t2 : decide ((s.size : Int) < 1) = false := decide_eq_false (by omega)
  go_enter Tryd.func28, Tryd.ntmps28
  go_wp2_with fail
  go_ret
  exact ⟨rfl, rfl⟩
set_option maxHeartbeats 400000 in
theorem refvalid_zero (s : ByteArray) (w : World) (h1 : 1 < s.size) (h2 : s.size ≤ 1000) (hz : s[0]'(by omega) = 48) :
    Calls Tryd.prog 28 #[.string s] w fun e w' => e = .returned (.bool false) ∧ w = w' := by
  have t1 : decide (s.size < 1) = false := decide_eq_false (by omega)
  have t2 : decide ((s.size : Int) < 1) = false := decide_eq_false (by omega)
  have h0 : 0 < s.size := by omega
  have e1 : ((s[0].toNat : Int) == 48) = true := by rw [hz]; rfl
  clear hz
  go_enter Tryd.func28, Tryd.ntmps28
  go_wp2_with fail
  go_ret
  exact ⟨rfl, rfl⟩
set_option maxHeartbeats 1000000 in
theorem refvalid_loop (s : ByteArray) (w : World) (h0 : 0 < s.size) (h2 : s.size ≤ 1000) (hz : ((s[0].toNat : Int) == 48) = false ∨ s.size = 1) :
    Calls Tryd.prog 28 #[.string s] w fun e w' => e = .returned (.bool ((tl s).all Dec.isD)) ∧ w = w' := by
  have t1 : decide (s.size < 1) = false := decide_eq_false (by omega)
  have t2 : decide ((s.size : Int) < 1) = false := decide_eq_false (by omega)
  by_cases h1 : 1 < s.size
  · have e1 := hz.resolve_right (by omega)
    clear hz
    go_enter Tryd.func28, Tryd.ntmps28
    go_wp2_with fail
    go_loop [3] (fun i => ∃ k : Nat, k ≤ s.size ∧ i = .int .i64 k ∧ Hid (∀ b ∈ (tl s).take k, Dec.isD b = true)) (fun i => s.size - (intOf i).toNat)
    case atStart => exact ⟨0, by omega, rfl, Lib.hid (by rw [List.take_zero]; intro b hb; cases hb)⟩
    case round =>
      obtain ⟨k, hk, rfl, hx⟩ := hrel
      by_cases hlt : k < s.size
      · have htk : (tl s).take (k + 1) = (tl s).take k ++ [s[k]] := by
          rw [List.take_succ_eq_append_getElem (by rw [tl_length]; exact hlt), tl_get s k hlt]
        have hmem : s[k] ∈ tl s := by rw [← tl_get s k hlt]; exact List.getElem_mem _
        have HTK := Lib.hid htk
        have HM := Lib.hid hmem
        clear htk hmem
        have w4 : IntKind.i64.wrap ((k : Int) + 1) = (k : Int) + 1 := IntWalk.i64_in _ (by omega)
        by_cases c1 : s[k].toNat < 48
        · have g1 : decide ((s[k].toNat : Int) < 48) = true := decide_eq_true (by omega)
          have g2 : decide (s[k].toNat < 48) = true := decide_eq_true c1
          have hb : (tl s).all Dec.isD = false := by
            rw [List.all_eq_false]
            exact ⟨_, HM.out, by rw [(nd_iff _).2 (.inl c1)]; simp⟩
          have HB := Lib.hid hb
          clear hb
          go_wp2_with fail
          go_ret
          exact ⟨by rw [HB.out]; rfl, rfl⟩
        · by_cases c2 : 57 < s[k].toNat
          · have g1 : decide ((s[k].toNat : Int) < 48) = false := decide_eq_false (by omega)
            have g2 : decide (s[k].toNat < 48) = false := decide_eq_false c1
            have g3 : decide ((57 : Int) < (s[k].toNat : Int)) = true := decide_eq_true (by omega)
            have g4 : decide (57 < s[k].toNat) = true := decide_eq_true c2
            have hb : (tl s).all Dec.isD = false := by
              rw [List.all_eq_false]
              exact ⟨_, HM.out, by rw [(nd_iff _).2 (.inr c2)]; simp⟩
            have HB := Lib.hid hb
            clear hb
            go_wp2_with fail
            go_ret
            exact ⟨by rw [HB.out]; rfl, rfl⟩
          · have g1 : decide ((s[k].toNat : Int) < 48) = false := decide_eq_false (by omega)
            have g2 : decide (s[k].toNat < 48) = false := decide_eq_false c1
            have g3 : decide ((57 : Int) < (s[k].toNat : Int)) = false := decide_eq_false (by omega)
            have g4 : decide (57 < s[k].toNat) = false := decide_eq_false c2
            have hd : Dec.isD s[k] = true := (Dec.isD_iff _).2 ⟨by omega, by omega⟩
            have HDD := Lib.hid hd
            clear hd
            go_wp2_with fail
            go_round
            case rel =>
              refine ⟨k + 1, by omega, by go_num, Lib.hid (fun b hb => ?_)⟩
              rw [HTK.out] at hb
              rcases List.mem_append.1 hb with hb | hb
              · exact hx.out b hb
              · simp only [List.mem_singleton] at hb; subst hb; exact HDD.out
            case measure => simp [intOf]; omega
      · obtain rfl : k = s.size := by omega
        have hb : (tl s).all Dec.isD = true := by
          rw [List.all_eq_true]
          have := hx.out
          rwa [List.take_of_length_le (by rw [tl_length]; exact Nat.le_refl _)] at this
        have HB := Lib.hid hb
        clear hb
        go_wp2_with fail
        go_ret
        exact ⟨by rw [HB.out]; rfl, rfl⟩
  · have e1 : s.size = 1 := by omega
    have t3 : decide (1 < s.size) = false := decide_eq_false h1
    have t4 : decide ((1 : Int) < (s.size : Int)) = false := decide_eq_false (by omega)
    clear hz e1
    go_enter Tryd.func28, Tryd.ntmps28
    go_wp2_with fail
    go_loop [3] (fun i => ∃ k : Nat, k ≤ s.size ∧ i = .int .i64 k ∧ Hid (∀ b ∈ (tl s).take k, Dec.isD b = true)) (fun i => s.size - (intOf i).toNat)
    case atStart => exact ⟨0, by omega, rfl, Lib.hid (by rw [List.take_zero]; intro b hb; cases hb)⟩
    case round =>
      obtain ⟨k, hk, rfl, hx⟩ := hrel
      by_cases hlt : k < s.size
      · have htk : (tl s).take (k + 1) = (tl s).take k ++ [s[k]] := by
          rw [List.take_succ_eq_append_getElem (by rw [tl_length]; exact hlt), tl_get s k hlt]
        have hmem : s[k] ∈ tl s := by rw [← tl_get s k hlt]; exact List.getElem_mem _
        have HTK := Lib.hid htk
        have HM := Lib.hid hmem
        clear htk hmem
        have w4 : IntKind.i64.wrap ((k : Int) + 1) = (k : Int) + 1 := IntWalk.i64_in _ (by omega)
        by_cases c1 : s[k].toNat < 48
        · have g1 : decide ((s[k].toNat : Int) < 48) = true := decide_eq_true (by omega)
          have g2 : decide (s[k].toNat < 48) = true := decide_eq_true c1
          have hb : (tl s).all Dec.isD = false := by
            rw [List.all_eq_false]
            exact ⟨_, HM.out, by rw [(nd_iff _).2 (.inl c1)]; simp⟩
          have HB := Lib.hid hb
          clear hb
          go_wp2_with fail
          go_ret
          exact ⟨by rw [HB.out]; rfl, rfl⟩
        · by_cases c2 : 57 < s[k].toNat
          · have g1 : decide ((s[k].toNat : Int) < 48) = false := decide_eq_false (by omega)
            have g2 : decide (s[k].toNat < 48) = false := decide_eq_false c1
            have g3 : decide ((57 : Int) < (s[k].toNat : Int)) = true := decide_eq_true (by omega)
            have g4 : decide (57 < s[k].toNat) = true := decide_eq_true c2
            have hb : (tl s).all Dec.isD = false := by
              rw [List.all_eq_false]
              exact ⟨_, HM.out, by rw [(nd_iff _).2 (.inr c2)]; simp⟩
            have HB := Lib.hid hb
            clear hb
            go_wp2_with fail
            go_ret
            exact ⟨by rw [HB.out]; rfl, rfl⟩
          · have g1 : decide ((s[k].toNat : Int) < 48) = false := decide_eq_false (by omega)
            have g2 : decide (s[k].toNat < 48) = false := decide_eq_false c1
            have g3 : decide ((57 : Int) < (s[k].toNat : Int)) = false := decide_eq_false (by omega)
            have g4 : decide (57 < s[k].toNat) = false := decide_eq_false c2
            have hd : Dec.isD s[k] = true := (Dec.isD_iff _).2 ⟨by omega, by omega⟩
            have HDD := Lib.hid hd
            clear hd
            go_wp2_with fail
            go_round
            case rel =>
              refine ⟨k + 1, by omega, by go_num, Lib.hid (fun b hb => ?_)⟩
              rw [HTK.out] at hb
              rcases List.mem_append.1 hb with hb | hb
              · exact hx.out b hb
              · simp only [List.mem_singleton] at hb; subst hb; exact HDD.out
            case measure => simp [intOf]; omega
      · obtain rfl : k = s.size := by omega
        have hb : (tl s).all Dec.isD = true := by
          rw [List.all_eq_true]
          have := hx.out
          rwa [List.take_of_length_le (by rw [tl_length]; exact Nat.le_refl _)] at this
        have HB := Lib.hid hb
        clear hb
        go_wp2_with fail
        go_ret
        exact ⟨by rw [HB.out]; rfl, rfl⟩
theorem refvalid_any (s : ByteArray) (w : World) :
    Calls Tryd.prog 28 #[.string s] w fun e w' => e = .returned (.bool (validB s)) ∧ w = w' := by
  have hlen := tl_length s
  by_cases c0 : s.size = 0
  · have e : validB s = false := by simp [validB, validL, hlen, c0]
    rw [e]; exact refvalid_empty s w c0
  · by_cases c1 : 1000 < s.size
    · have e : validB s = false := by
        simp only [validB, validL, hlen]
        rw [show decide (s.size ≤ 1000) = false from decide_eq_false (by omega)]; simp
      rw [e]; exact refvalid_long s w c1
    · have h0 : 0 < s.size := by omega
      have hh : (tl s).head? = some s[0] := by
        rw [List.head?_eq_getElem?, List.getElem?_eq_getElem (by rw [hlen]; exact h0), tl_get s 0 h0]
      by_cases c2 : 1 < s.size ∧ s[0] = 48
      · have e : validB s = false := by
          simp only [validB, validL, hlen, hh]
          rw [show decide (s.size ≤ 1) = false from decide_eq_false (by omega), c2.2]; simp
        rw [e]; exact refvalid_zero s w c2.1 (by omega) c2.2
      · have e : validB s = (tl s).all Dec.isD := by
          simp only [validB, validL, hlen, hh]
          rw [show decide (1 ≤ s.size) = true from decide_eq_true (by omega), show decide (s.size ≤ 1000) = true from decide_eq_true (by omega)]
          have : (decide (s.size ≤ 1) || decide (some s[0] ≠ some 48)) = true := by
            by_cases c3 : s.size ≤ 1
            · simp [c3]
            · have : s[0] ≠ 48 := fun h => c2 ⟨by omega, h⟩
              simp [this]
          rw [this]; simp
        rw [e]
        refine refvalid_loop s w h0 (by omega) ?_
        by_cases c3 : s.size = 1
        · exact .inr c3
        · left
          apply beq_eq_false_iff_ne.2
          intro h
          apply c2
          refine ⟨by omega, UInt8.toNat_inj.1 ?_⟩
          show s[0].toNat = 48
          omega
theorem refless_ne (s t : ByteArray) (w : World) (h : s.size ≠ t.size) :
    Calls Tryd.prog 37 #[.string s, .string t] w fun e w' => e = .returned (.bool (decide (s.size < t.size))) ∧ w = w' := by
  have t1 : ((s.size : Int) != (t.size : Int)) = true := by simp; omega
  go_enter Tryd.func37, Tryd.ntmps37
  go_wp2_with fail
  go_ret
  exact ⟨by simp, rfl⟩
theorem refless_eq (s t : ByteArray) (w : World) (h : s.size = t.size) :
    Calls Tryd.prog 37 #[.string s, .string t] w fun e w' => e = .returned (.bool (Op.bytesLess (tl s) (tl t))) ∧ w = w' := by
  have t1 : ((s.size : Int) != (t.size : Int)) = false := by simp; omega
  have H := Lib.hid h
  clear h
  go_enter Tryd.func37, Tryd.ntmps37
  go_wp2_with fail
  go_ret
  refine ⟨?_, rfl⟩
  show Ending.returned (Value.bool (Op.bytesLess s.toList t.toList)) = _
  rw [Lib.toList_data, Lib.toList_data]; rfl
theorem refless_any (s t : ByteArray) (w : World) :
    Calls Tryd.prog 37 #[.string s, .string t] w fun e w' => e = .returned (.bool (Dec.lessL (tl s) (tl t))) ∧ w = w' := by
  unfold Dec.lessL
  rw [tl_length, tl_length]
  by_cases h : s.size = t.size
  · rw [if_pos h]; exact refless_eq s t w h
  · rw [if_neg h]; exact refless_ne s t w h
theorem refwithin_long (s : ByteArray) (w : World) (h : 1000 < s.size) :
    Calls Tryd.prog 34 #[.string s] w fun e w' => e = .returned (.tuple #[.string ⟨#[]⟩, .int .i64 2]) ∧ w = w' := by
  go_enter Tryd.func34, Tryd.ntmps34
  go_wp2_with fail
  go_ret2
  exact ⟨rfl, rfl⟩
theorem refwithin_ok (s : ByteArray) (w : World) (h : ¬ 1000 < s.size) :
    Calls Tryd.prog 34 #[.string s] w fun e w' => e = .returned (.tuple #[.string s, .int .i64 0]) ∧ w = w' := by
  go_enter Tryd.func34, Tryd.ntmps34
  go_wp2_with fail
  go_ret2
  exact ⟨rfl, rfl⟩
end Go.Proofs.YtfkdhkbegfbkaaaDoor
