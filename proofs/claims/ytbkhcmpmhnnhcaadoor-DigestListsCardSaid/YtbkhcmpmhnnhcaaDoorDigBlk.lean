/-
  The walk of the law DigestBlock: it returns true for every input.
-/
import Derived.Test.YtbkhcmpmhnnhcaaDoorDigLaws2
import Derived.WalkLawsBesides
import Derived.Deep.RegionHeld3
set_option linter.unusedVariables false
namespace Go.Proofs.YtbkhcmpmhnnhcaaDoor
open Go.RowKit
theorem byteAt_append (l m : List UInt8) (i : Nat) : Dig.byteAt (l ++ m) i = if i < l.length then Dig.byteAt l i else Dig.byteAt m (i - l.length) := by
  unfold Dig.byteAt
  split
  · rename_i h; rw [List.getElem?_append_left h]
  · rename_i h; rw [List.getElem?_append_right (by omega)]
theorem cat_list (x y : ByteArray) : (x ++ y).data.toList = x.data.toList ++ y.data.toList := by simp
theorem block_key (pre A B R : ByteArray) (q : Nat) (hpre : pre.size = 8 * q) (hAB : A.size = B.size) (h8 : A.size ≤ 8) (htot : pre.size + A.size + R.size ≤ 1099511627776) :
    (((sumB (pre ++ A ++ R)).toList == (sumB (pre ++ B ++ R)).toList) == (A.toList == B.toList)) = true := by
  have sz : ∀ x : ByteArray, x.data.toList.length = x.size := fun x => by simp
  rw [str_beq, str_beq]
  by_cases h : A = B
  · subst h; simp
  · have hne : sumB (pre ++ A ++ R) ≠ sumB (pre ++ B ++ R) := by
      intro e
      have e2 := sumB_inj e
      have hl : ∀ X : ByteArray, (pre ++ X ++ R).data.toList = pre.data.toList ++ X.data.toList ++ R.data.toList := fun X => by simp
      rw [hl, hl] at e2
      have h3 := (Dig.block_iff (p := q) (by simp only [List.length_append, sz]; unfold Dig.M; omega) (by simp only [List.length_append, sz]; omega) (by simp only [List.length_append, sz]; omega) (by
        intro i hi
        simp only [byteAt_append, List.length_append, sz]
        split
        · split
          · rw [if_pos (by omega)]
          · omega
        · rw [if_neg (by omega), hAB])).1 e2
      rw [List.append_assoc, List.append_assoc] at h3
      have h4 := List.append_cancel_left h3
      have h5 := List.append_cancel_right h4
      exact h (bytes_ext h5)
    simp [h, hne]
theorem run_cat (x y : ByteArray) (w : World) (h : x.size + y.size ≤ 9223372036854775807) : Sem.run Tryd.prog (binOp .add 9 (.string x) (.string y)) w = .ok (.string (x ++ y)) w := by
  have := run_string_add_sum (P := Tryd.prog) w x y h
  simpa [binOp] using this
set_option maxHeartbeats 1000000 in
theorem walkDigestBlock (s : ByteArray) (p : Int) (a b : ByteArray) (w : World) (hs : s.size ≤ maxLen) (hp : (Lit.int .u8 p).wf = true) (ha : a.size ≤ maxLen) (hb : b.size ≤ maxLen) (ht' : TabOk w) :
    Calls Tryd.prog 7 #[.string s, .int .u8 p, .string a, .string b] w fun e w' => e = .returned (.bool true) ∧ Below w.heap.size w w' := by
  have ht := Lib.hid ht'
  clear ht'
  obtain ⟨p0, p1⟩ := u8_bounds hp
  clear hp
  obtain ⟨q, rfl⟩ := Int.eq_ofNat_of_zero_le p0
  unfold maxLen at hs ha hb
  by_cases c1 : b.size < a.size
  · by_cases c2 : 8 < b.size
    · by_cases h1 : s.size ≤ 2000
      · by_cases h2 : 8 * q ≤ s.size
        · obtain ⟨A, hA0⟩ : ∃ x, x = a.extract 0 8 := ⟨_, rfl⟩
          obtain ⟨B, hB0⟩ : ∃ x, x = b.extract 0 8 := ⟨_, rfl⟩
          obtain ⟨PRE, hP0⟩ : ∃ x, x = s.extract 0 (8 * q) := ⟨_, rfl⟩
          obtain ⟨R, hR0⟩ : ∃ x, x = s.extract (min (8 * (q : Int) + 8) s.size).toNat s.size := ⟨_, rfl⟩
          have hA : A.size = 8 := by rw [hA0]; simp; omega
          have hB : B.size = 8 := by rw [hB0]; simp; omega
          have hP : PRE.size = 8 * q := by rw [hP0]; simp; omega
          have hR : R.size ≤ 2000 := by rw [hR0]; simp; omega
          have sA : A.size ≤ 8 := by omega
          have sB : B.size ≤ 8 := by omega
          have sP : PRE.size ≤ 2000 := by omega
          have hK := Lib.hid (block_key PRE A B R q hP (by rw [hA, hB]) sA (by omega))
          have hsl : ∀ w, Sem.run Tryd.prog (Instr.slice 9 (.string s) none (some (.int .i64 (8 * (q : Int)))) none) w = .ok (.string PRE) w := by
            intro w
            have := run_slice_string_h (P := Tryd.prog) w 9 s Tryd.underlying9 .i64 (8 * (q : Int)) (by omega) (by omega)
            rw [this, hP0, show (8 * (q : Int)).toNat = 8 * q by omega]
          have n1 : ¬ (9223372036854775807 < PRE.size + A.size) := by omega
          have n2 : ¬ (9223372036854775807 < PRE.size + B.size) := by omega
          have n3 : ¬ (9223372036854775807 < PRE.size + A.size + R.size) := by omega
          have n4 : ¬ (9223372036854775807 < PRE.size + B.size + R.size) := by omega
          have HA := Lib.hid hA0
          have HB := Lib.hid hB0
          have HR := Lib.hid hR0
          clear hA hB hP hA0 hB0 hP0 hR0
          go_enter Tryd.func7, Tryd.ntmps7
          go_wp2_with fail
          refine (head_any _ ht.out).mono ?_
          rintro e w1 ⟨rfl, hb1⟩
          go_wp2_with fail
          rw [← HA.out, ← HB.out, ← HR.out]
          clear HA HB HR
          go_region_held3 (fun w' => Below w.heap.size w w') (first | (with_reducible assumption) | exact Below.drew hb1 | exact (Below.trans (by assumption) (Below.mono (by assumption) (Below.size (by assumption))))) (first | (go_at_call 12; refine (sum_any _ _ ?hz).mono ?_; (case hz => (rw [ByteArray.size_append, ByteArray.size_append]; unfold maxLen; omega)); rintro e w2 ⟨rfl, hb2⟩))
          have hq := hK.out
          go_wp2_with fail
          go_ret
          exact ⟨by rw [← hq]; rfl, by assumption⟩
        · go_enter Tryd.func7, Tryd.ntmps7
          go_wp2_with fail
          refine (head_any _ ht.out).mono ?_
          rintro e w1 ⟨rfl, hb1⟩
          go_wp2_with fail
          go_ret
          exact ⟨rfl, hb1⟩
      · go_enter Tryd.func7, Tryd.ntmps7
        go_wp2_with fail
        refine (head_any _ ht.out).mono ?_
        rintro e w1 ⟨rfl, hb1⟩
        go_wp2_with fail
        go_ret
        exact ⟨rfl, hb1⟩
    · by_cases h1 : s.size ≤ 2000
      · by_cases h2 : 8 * q ≤ s.size
        · obtain ⟨A, hA0⟩ : ∃ x, x = a.extract 0 b.size := ⟨_, rfl⟩
          obtain ⟨PRE, hP0⟩ : ∃ x, x = s.extract 0 (8 * q) := ⟨_, rfl⟩
          obtain ⟨R, hR0⟩ : ∃ x, x = s.extract (min (8 * (q : Int) + b.size) s.size).toNat s.size := ⟨_, rfl⟩
          have hA : A.size = b.size := by rw [hA0]; simp; omega
          have hB : b.size = b.size := rfl
          have hP : PRE.size = 8 * q := by rw [hP0]; simp; omega
          have hR : R.size ≤ 2000 := by rw [hR0]; simp; omega
          have sA : A.size ≤ 8 := by omega
          have sB : b.size ≤ 8 := by omega
          have sP : PRE.size ≤ 2000 := by omega
          have hK := Lib.hid (block_key PRE A b R q hP (by rw [hA, hB]) sA (by omega))
          have hsl : ∀ w, Sem.run Tryd.prog (Instr.slice 9 (.string s) none (some (.int .i64 (8 * (q : Int)))) none) w = .ok (.string PRE) w := by
            intro w
            have := run_slice_string_h (P := Tryd.prog) w 9 s Tryd.underlying9 .i64 (8 * (q : Int)) (by omega) (by omega)
            rw [this, hP0, show (8 * (q : Int)).toNat = 8 * q by omega]
          have n1 : ¬ (9223372036854775807 < PRE.size + A.size) := by omega
          have n2 : ¬ (9223372036854775807 < PRE.size + b.size) := by omega
          have n3 : ¬ (9223372036854775807 < PRE.size + A.size + R.size) := by omega
          have n4 : ¬ (9223372036854775807 < PRE.size + b.size + R.size) := by omega
          have HA := Lib.hid hA0
          have HR := Lib.hid hR0
          clear hA hB hP hA0 hP0 hR0
          go_enter Tryd.func7, Tryd.ntmps7
          go_wp2_with fail
          refine (head_any _ ht.out).mono ?_
          rintro e w1 ⟨rfl, hb1⟩
          go_wp2_with fail
          rw [← HA.out, ← HR.out]
          clear HA HR
          go_region_held3 (fun w' => Below w.heap.size w w') (first | (with_reducible assumption) | exact Below.drew hb1 | exact (Below.trans (by assumption) (Below.mono (by assumption) (Below.size (by assumption))))) (first | (go_at_call 12; refine (sum_any _ _ ?hz).mono ?_; (case hz => (rw [ByteArray.size_append, ByteArray.size_append]; unfold maxLen; omega)); rintro e w2 ⟨rfl, hb2⟩))
          have hq := hK.out
          go_wp2_with fail
          go_ret
          exact ⟨by rw [← hq]; rfl, by assumption⟩
        · go_enter Tryd.func7, Tryd.ntmps7
          go_wp2_with fail
          refine (head_any _ ht.out).mono ?_
          rintro e w1 ⟨rfl, hb1⟩
          go_wp2_with fail
          go_ret
          exact ⟨rfl, hb1⟩
      · go_enter Tryd.func7, Tryd.ntmps7
        go_wp2_with fail
        refine (head_any _ ht.out).mono ?_
        rintro e w1 ⟨rfl, hb1⟩
        go_wp2_with fail
        go_ret
        exact ⟨rfl, hb1⟩
  · by_cases c2 : 8 < a.size
    · by_cases h1 : s.size ≤ 2000
      · by_cases h2 : 8 * q ≤ s.size
        · obtain ⟨A, hA0⟩ : ∃ x, x = a.extract 0 8 := ⟨_, rfl⟩
          obtain ⟨B, hB0⟩ : ∃ x, x = b.extract 0 8 := ⟨_, rfl⟩
          obtain ⟨PRE, hP0⟩ : ∃ x, x = s.extract 0 (8 * q) := ⟨_, rfl⟩
          obtain ⟨R, hR0⟩ : ∃ x, x = s.extract (min (8 * (q : Int) + 8) s.size).toNat s.size := ⟨_, rfl⟩
          have hA : A.size = 8 := by rw [hA0]; simp; omega
          have hB : B.size = 8 := by rw [hB0]; simp; omega
          have hP : PRE.size = 8 * q := by rw [hP0]; simp; omega
          have hR : R.size ≤ 2000 := by rw [hR0]; simp; omega
          have sA : A.size ≤ 8 := by omega
          have sB : B.size ≤ 8 := by omega
          have sP : PRE.size ≤ 2000 := by omega
          have hK := Lib.hid (block_key PRE A B R q hP (by rw [hA, hB]) sA (by omega))
          have hsl : ∀ w, Sem.run Tryd.prog (Instr.slice 9 (.string s) none (some (.int .i64 (8 * (q : Int)))) none) w = .ok (.string PRE) w := by
            intro w
            have := run_slice_string_h (P := Tryd.prog) w 9 s Tryd.underlying9 .i64 (8 * (q : Int)) (by omega) (by omega)
            rw [this, hP0, show (8 * (q : Int)).toNat = 8 * q by omega]
          have n1 : ¬ (9223372036854775807 < PRE.size + A.size) := by omega
          have n2 : ¬ (9223372036854775807 < PRE.size + B.size) := by omega
          have n3 : ¬ (9223372036854775807 < PRE.size + A.size + R.size) := by omega
          have n4 : ¬ (9223372036854775807 < PRE.size + B.size + R.size) := by omega
          have HA := Lib.hid hA0
          have HB := Lib.hid hB0
          have HR := Lib.hid hR0
          clear hA hB hP hA0 hB0 hP0 hR0
          go_enter Tryd.func7, Tryd.ntmps7
          go_wp2_with fail
          refine (head_any _ ht.out).mono ?_
          rintro e w1 ⟨rfl, hb1⟩
          go_wp2_with fail
          rw [← HA.out, ← HB.out, ← HR.out]
          clear HA HB HR
          go_region_held3 (fun w' => Below w.heap.size w w') (first | (with_reducible assumption) | exact Below.drew hb1 | exact (Below.trans (by assumption) (Below.mono (by assumption) (Below.size (by assumption))))) (first | (go_at_call 12; refine (sum_any _ _ ?hz).mono ?_; (case hz => (rw [ByteArray.size_append, ByteArray.size_append]; unfold maxLen; omega)); rintro e w2 ⟨rfl, hb2⟩))
          have hq := hK.out
          go_wp2_with fail
          go_ret
          exact ⟨by rw [← hq]; rfl, by assumption⟩
        · go_enter Tryd.func7, Tryd.ntmps7
          go_wp2_with fail
          refine (head_any _ ht.out).mono ?_
          rintro e w1 ⟨rfl, hb1⟩
          go_wp2_with fail
          go_ret
          exact ⟨rfl, hb1⟩
      · go_enter Tryd.func7, Tryd.ntmps7
        go_wp2_with fail
        refine (head_any _ ht.out).mono ?_
        rintro e w1 ⟨rfl, hb1⟩
        go_wp2_with fail
        go_ret
        exact ⟨rfl, hb1⟩
    · by_cases h1 : s.size ≤ 2000
      · by_cases h2 : 8 * q ≤ s.size
        · obtain ⟨B, hB0⟩ : ∃ x, x = b.extract 0 a.size := ⟨_, rfl⟩
          obtain ⟨PRE, hP0⟩ : ∃ x, x = s.extract 0 (8 * q) := ⟨_, rfl⟩
          obtain ⟨R, hR0⟩ : ∃ x, x = s.extract (min (8 * (q : Int) + a.size) s.size).toNat s.size := ⟨_, rfl⟩
          have hA : a.size = a.size := rfl
          have hB : B.size = a.size := by rw [hB0]; simp; omega
          have hP : PRE.size = 8 * q := by rw [hP0]; simp; omega
          have hR : R.size ≤ 2000 := by rw [hR0]; simp; omega
          have sA : a.size ≤ 8 := by omega
          have sB : B.size ≤ 8 := by omega
          have sP : PRE.size ≤ 2000 := by omega
          have hK := Lib.hid (block_key PRE a B R q hP (by rw [hA, hB]) sA (by omega))
          have hsl : ∀ w, Sem.run Tryd.prog (Instr.slice 9 (.string s) none (some (.int .i64 (8 * (q : Int)))) none) w = .ok (.string PRE) w := by
            intro w
            have := run_slice_string_h (P := Tryd.prog) w 9 s Tryd.underlying9 .i64 (8 * (q : Int)) (by omega) (by omega)
            rw [this, hP0, show (8 * (q : Int)).toNat = 8 * q by omega]
          have n1 : ¬ (9223372036854775807 < PRE.size + a.size) := by omega
          have n2 : ¬ (9223372036854775807 < PRE.size + B.size) := by omega
          have n3 : ¬ (9223372036854775807 < PRE.size + a.size + R.size) := by omega
          have n4 : ¬ (9223372036854775807 < PRE.size + B.size + R.size) := by omega
          have HB := Lib.hid hB0
          have HR := Lib.hid hR0
          clear hA hB hP hB0 hP0 hR0
          go_enter Tryd.func7, Tryd.ntmps7
          go_wp2_with fail
          refine (head_any _ ht.out).mono ?_
          rintro e w1 ⟨rfl, hb1⟩
          go_wp2_with fail
          rw [← HB.out, ← HR.out]
          clear HB HR
          go_region_held3 (fun w' => Below w.heap.size w w') (first | (with_reducible assumption) | exact Below.drew hb1 | exact (Below.trans (by assumption) (Below.mono (by assumption) (Below.size (by assumption))))) (first | (go_at_call 12; refine (sum_any _ _ ?hz).mono ?_; (case hz => (rw [ByteArray.size_append, ByteArray.size_append]; unfold maxLen; omega)); rintro e w2 ⟨rfl, hb2⟩))
          have hq := hK.out
          go_wp2_with fail
          go_ret
          exact ⟨by rw [← hq]; rfl, by assumption⟩
        · go_enter Tryd.func7, Tryd.ntmps7
          go_wp2_with fail
          refine (head_any _ ht.out).mono ?_
          rintro e w1 ⟨rfl, hb1⟩
          go_wp2_with fail
          go_ret
          exact ⟨rfl, hb1⟩
      · go_enter Tryd.func7, Tryd.ntmps7
        go_wp2_with fail
        refine (head_any _ ht.out).mono ?_
        rintro e w1 ⟨rfl, hb1⟩
        go_wp2_with fail
        go_ret
        exact ⟨rfl, hb1⟩
end Go.Proofs.YtbkhcmpmhnnhcaaDoor
