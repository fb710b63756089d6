/-
  The program's tree package: Extends.
-/
import Derived.Test.YtbiekbppenccdaaDoorTrE
import Derived.Test.YtbiekbppenccdaaDoorTrD
import Derived.Test.YtbiekbppenccdaaDoorTreeExt
set_option linter.unusedVariables false
namespace Go.Proofs.YtbiekbppenccdaaDoor
open Go.RowKit
theorem pext_neg (v : Value) (old root : ByteArray) (m n : Int) (w : World) (h1 : m < 0) :
    Calls Tryd.prog 22 #[.string old, .int .i64 m, .string root, .int .i64 n, v] w fun e w' => e = .returned (.bool false) ∧ Below w.heap.size w w' := by
  go_enter Tryd.func22, Tryd.ntmps22
  go_wp2_with fail
  go_ret
  exact ⟨rfl, Below.refl _ _⟩
theorem pext_gt (v : Value) (old root : ByteArray) (m n : Int) (w : World) (h1 : ¬ m < 0) (h2 : n < m) :
    Calls Tryd.prog 22 #[.string old, .int .i64 m, .string root, .int .i64 n, v] w fun e w' => e = .returned (.bool false) ∧ Below w.heap.size w w' := by
  go_enter Tryd.func22, Tryd.ntmps22
  go_wp2_with fail
  go_ret
  exact ⟨rfl, Below.refl _ _⟩
theorem pext_big (v : Value) (old root : ByteArray) (m n : Int) (w : World) (h1 : ¬ m < 0) (h2 : ¬ n < m) (h3 : 1000000 < n) :
    Calls Tryd.prog 22 #[.string old, .int .i64 m, .string root, .int .i64 n, v] w fun e w' => e = .returned (.bool false) ∧ Below w.heap.size w w' := by
  go_enter Tryd.func22, Tryd.ntmps22
  go_wp2_with fail
  go_ret
  exact ⟨rfl, Below.refl _ _⟩
set_option maxHeartbeats 400000 in
theorem pext_old (v : Value) (old root : ByteArray) (m n : Int) (w : World) (h1 : ¬ m < 0) (h2 : ¬ n < m) (h3 : ¬ 1000000 < n) (ho : old.size ≤ maxLen) (hf : isB old = false) :
    Calls Tryd.prog 22 #[.string old, .int .i64 m, .string root, .int .i64 n, v] w fun e w' => e = .returned (.bool false) ∧ Below w.heap.size w w' := by
  have HF := Lib.hid hf
  have HO := Lib.hid ho
  clear hf ho
  go_enter Tryd.func22, Tryd.ntmps22
  go_wp2_with fail
  refine (is_any old _ HO.out).mono ?_
  rintro e w1 ⟨rfl, rfl⟩
  rw [HF.out]
  go_wp2_with fail
  go_ret
  exact ⟨rfl, Below.refl _ _⟩
set_option maxHeartbeats 400000 in
theorem pext_root (v : Value) (old root : ByteArray) (m n : Int) (w : World) (h1 : ¬ m < 0) (h2 : ¬ n < m) (h3 : ¬ 1000000 < n) (ho : old.size ≤ maxLen) (hf : isB old = true) (hr : root.size ≤ maxLen) (hg : isB root = false) :
    Calls Tryd.prog 22 #[.string old, .int .i64 m, .string root, .int .i64 n, v] w fun e w' => e = .returned (.bool false) ∧ Below w.heap.size w w' := by
  have HF := Lib.hid hf
  have HO := Lib.hid ho
  have HG := Lib.hid hg
  have HR := Lib.hid hr
  clear hf ho hg hr
  go_enter Tryd.func22, Tryd.ntmps22
  go_wp2_with fail
  refine (is_any old _ HO.out).mono ?_
  rintro e w1 ⟨rfl, rfl⟩
  rw [HF.out]
  go_wp2_with fail
  refine (is_any root _ HR.out).mono ?_
  rintro e w1 ⟨rfl, rfl⟩
  rw [HG.out]
  go_wp2_with fail
  go_ret
  exact ⟨rfl, Below.refl _ _⟩
set_option maxHeartbeats 400000 in
theorem pext_digs (v : Value) (l : List ByteArray) (old root : ByteArray) (m n : Int) (w : World) (h : StrsOk w v l) (h1 : ¬ m < 0) (h2 : ¬ n < m) (h3 : ¬ 1000000 < n) (ho : old.size ≤ maxLen) (hf : isB old = true) (hr : root.size ≤ maxLen) (hg : isB root = true) (hd : digsB l = false) :
    Calls Tryd.prog 22 #[.string old, .int .i64 m, .string root, .int .i64 n, v] w fun e w' => e = .returned (.bool false) ∧ Below w.heap.size w w' := by
  have HF := Lib.hid hf
  have HO := Lib.hid ho
  have HG := Lib.hid hg
  have HR := Lib.hid hr
  have HD := Lib.hid hd
  obtain ⟨a, cap, rfl, hc1, hc2⟩ := h.room
  have H := Lib.hid h
  have hrest := rest_laid w (.slice a l.length cap)
  have c0 := hrest.cell0
  clear hf ho hg hr hd h
  go_enter Tryd.func22, Tryd.ntmps22
  go_wp2_with fail
  refine (is_any old _ HO.out).mono ?_
  rintro e w1 ⟨rfl, rfl⟩
  rw [HF.out]
  go_wp2_with fail
  refine (is_any root _ HR.out).mono ?_
  rintro e w1 ⟨rfl, rfl⟩
  rw [HG.out]
  go_wp2_with fail
  refine (valid_any _ l _ (H.out.below hrest.below) H.out.len).mono ?_
  rintro e w1 ⟨rfl, rfl⟩
  rw [HD.out]
  go_wp2_with fail
  go_ret
  exact ⟨rfl, hrest.below⟩
set_option maxHeartbeats 1000000 in
theorem pext_zero_len (v : Value) (l : List ByteArray) (old root : ByteArray) (n : Nat) (w : World) (h : StrsOk w v l) (h3 : n ≤ 1000000) (ho : old.size ≤ maxLen) (hf : isB old = true) (hr : root.size ≤ maxLen) (hg : isB root = true) (hd : digsB l = true) (hl : l.length ≠ 0) :
    Calls Tryd.prog 22 #[.string old, .int .i64 0, .string root, .int .i64 (n : Int), v] w fun e w' => e = .returned (.bool false) ∧ Below w.heap.size w w' := by
  have HF := Lib.hid hf
  have HO := Lib.hid ho
  have HG := Lib.hid hg
  have HR := Lib.hid hr
  have HD := Lib.hid hd
  have HL : Hid ((!false && decide (l.length = 0)) = false) := Lib.hid (by simp [hl])
  obtain ⟨a, cap, rfl, hc1, hc2⟩ := h.room
  have H := Lib.hid h
  have hrest := rest_laid w (.slice a l.length cap)
  have c0 := hrest.cell0
  have t2 : decide ((n : Int) < 0) = false := by simp
  have t3 : decide ((1000000 : Int) < (n : Int)) = false := by simp; omega
  clear hf ho hg hr hd h hl
  go_enter Tryd.func22, Tryd.ntmps22
  go_wp2_with fail
  refine (is_any old _ HO.out).mono ?_
  rintro e w1 ⟨rfl, rfl⟩
  rw [HF.out]
  go_wp2_with fail
  refine (is_any root _ HR.out).mono ?_
  rintro e w1 ⟨rfl, rfl⟩
  rw [HG.out]
  go_wp2_with fail
  refine (valid_any _ l _ (H.out.below hrest.below) H.out.len).mono ?_
  rintro e w1 ⟨rfl, rfl⟩
  rw [HD.out]
  go_wp2_with fail
  refine (used_any w _ l false _ hrest H.out).mono ?_
  rintro e w1 ⟨rfl, rfl⟩
  rw [HL.out]
  go_wp2_with fail
  go_ret
  exact ⟨rfl, hrest.below⟩
set_option maxHeartbeats 1000000 in
theorem pext_zero_old (v : Value) (l : List ByteArray) (old root : ByteArray) (n : Nat) (w : World) (h : StrsOk w v l) (h3 : n ≤ 1000000) (ho : old.size ≤ maxLen) (hf : isB old = true) (hr : root.size ≤ maxLen) (hg : isB root = true) (hd : digsB l = true) (hl : l.length = 0) (he : old ≠ emptyB) (ht : TabOk w) :
    Calls Tryd.prog 22 #[.string old, .int .i64 0, .string root, .int .i64 (n : Int), v] w fun e w' => e = .returned (.bool false) ∧ Below w.heap.size w w' := by
  have HF := Lib.hid hf
  have HO := Lib.hid ho
  have HG := Lib.hid hg
  have HR := Lib.hid hr
  have HD := Lib.hid hd
  have HT := Lib.hid ht
  have HL : Hid ((!false && decide (l.length = 0)) = true) := Lib.hid (by simp [hl])
  have t5 : (old.toList == emptyB.toList) = false := by rw [str_beq]; exact decide_eq_false he
  obtain ⟨a, cap, rfl, hc1, hc2⟩ := h.room
  have H := Lib.hid h
  have hrest := rest_laid w (.slice a l.length cap)
  have c0 := hrest.cell0
  have t2 : decide ((n : Int) < 0) = false := by simp
  have t3 : decide ((1000000 : Int) < (n : Int)) = false := by simp; omega
  clear hf ho hg hr hd h hl he ht
  go_enter Tryd.func22, Tryd.ntmps22
  go_wp2_with fail
  refine (is_any old _ HO.out).mono ?_
  rintro e w1 ⟨rfl, rfl⟩
  rw [HF.out]
  go_wp2_with fail
  refine (is_any root _ HR.out).mono ?_
  rintro e w1 ⟨rfl, rfl⟩
  rw [HG.out]
  go_wp2_with fail
  refine (valid_any _ l _ (H.out.below hrest.below) H.out.len).mono ?_
  rintro e w1 ⟨rfl, rfl⟩
  rw [HD.out]
  go_wp2_with fail
  refine (used_any w _ l false _ hrest H.out).mono ?_
  rintro e w1 ⟨rfl, rfl⟩
  rw [HL.out]
  go_wp2_with fail
  refine (pempty_any _ (HT.out.below hrest.below)).mono ?_
  rintro e w1 ⟨rfl, hb1⟩
  go_wp2_with fail
  go_ret
  exact ⟨rfl, hrest.below.trans (hb1.mono (by simp))⟩
set_option maxHeartbeats 1000000 in
theorem pext_zero_some (v : Value) (l : List ByteArray) (old root : ByteArray) (n : Nat) (w : World) (h : StrsOk w v l) (h3 : n ≤ 1000000) (hn : 0 < n) (ho : old.size ≤ maxLen) (hf : isB old = true) (hr : root.size ≤ maxLen) (hg : isB root = true) (hd : digsB l = true) (hl : l.length = 0) (he : old = emptyB) (ht : TabOk w) :
    Calls Tryd.prog 22 #[.string old, .int .i64 0, .string root, .int .i64 (n : Int), v] w fun e w' => e = .returned (.bool true) ∧ Below w.heap.size w w' := by
  have HF := Lib.hid hf
  have HO := Lib.hid ho
  have HG := Lib.hid hg
  have HR := Lib.hid hr
  have HD := Lib.hid hd
  have HT := Lib.hid ht
  have HL : Hid ((!false && decide (l.length = 0)) = true) := Lib.hid (by simp [hl])
  have t5 : (old.toList == emptyB.toList) = true := by rw [str_beq]; exact decide_eq_true he
  obtain ⟨a, cap, rfl, hc1, hc2⟩ := h.room
  have H := Lib.hid h
  have hrest := rest_laid w (.slice a l.length cap)
  have c0 := hrest.cell0
  have t2 : decide ((n : Int) < 0) = false := by simp
  have t3 : decide ((1000000 : Int) < (n : Int)) = false := by simp; omega
  have t6 : decide ((0 : Int) < (n : Int)) = true := by simp; omega
  clear hf ho hg hr hd h hl he ht
  go_enter Tryd.func22, Tryd.ntmps22
  go_wp2_with fail
  refine (is_any old _ HO.out).mono ?_
  rintro e w1 ⟨rfl, rfl⟩
  rw [HF.out]
  go_wp2_with fail
  refine (is_any root _ HR.out).mono ?_
  rintro e w1 ⟨rfl, rfl⟩
  rw [HG.out]
  go_wp2_with fail
  refine (valid_any _ l _ (H.out.below hrest.below) H.out.len).mono ?_
  rintro e w1 ⟨rfl, rfl⟩
  rw [HD.out]
  go_wp2_with fail
  refine (used_any w _ l false _ hrest H.out).mono ?_
  rintro e w1 ⟨rfl, rfl⟩
  rw [HL.out]
  go_wp2_with fail
  refine (pempty_any _ (HT.out.below hrest.below)).mono ?_
  rintro e w1 ⟨rfl, hb1⟩
  go_wp2_with fail
  go_ret
  exact ⟨rfl, hrest.below.trans (hb1.mono (by simp))⟩
set_option maxHeartbeats 1000000 in
theorem pext_zero_none (v : Value) (l : List ByteArray) (old root : ByteArray) (w : World) (h : StrsOk w v l) (ho : old.size ≤ maxLen) (hf : isB old = true) (hr : root.size ≤ maxLen) (hg : isB root = true) (hd : digsB l = true) (hl : l.length = 0) (he : old = emptyB) (ht : TabOk w) :
    Calls Tryd.prog 22 #[.string old, .int .i64 0, .string root, .int .i64 0, v] w fun e w' => e = .returned (.bool (decide (root = old))) ∧ Below w.heap.size w w' := by
  have HF := Lib.hid hf
  have HO := Lib.hid ho
  have HG := Lib.hid hg
  have HR := Lib.hid hr
  have HD := Lib.hid hd
  have HT := Lib.hid ht
  have HL : Hid ((!false && decide (l.length = 0)) = true) := Lib.hid (by simp [hl])
  have t5 : (old.toList == emptyB.toList) = true := by rw [str_beq]; exact decide_eq_true he
  obtain ⟨a, cap, rfl, hc1, hc2⟩ := h.room
  have H := Lib.hid h
  have hrest := rest_laid w (.slice a l.length cap)
  have c0 := hrest.cell0
  clear hf ho hg hr hd h hl he ht
  go_enter Tryd.func22, Tryd.ntmps22
  go_wp2_with fail
  refine (is_any old _ HO.out).mono ?_
  rintro e w1 ⟨rfl, rfl⟩
  rw [HF.out]
  go_wp2_with fail
  refine (is_any root _ HR.out).mono ?_
  rintro e w1 ⟨rfl, rfl⟩
  rw [HG.out]
  go_wp2_with fail
  refine (valid_any _ l _ (H.out.below hrest.below) H.out.len).mono ?_
  rintro e w1 ⟨rfl, rfl⟩
  rw [HD.out]
  go_wp2_with fail
  refine (used_any w _ l false _ hrest H.out).mono ?_
  rintro e w1 ⟨rfl, rfl⟩
  rw [HL.out]
  go_wp2_with fail
  refine (pempty_any _ (HT.out.below hrest.below)).mono ?_
  rintro e w1 ⟨rfl, hb1⟩
  go_wp2_with fail
  go_ret
  exact ⟨by simp only [str_beq]; rfl, hrest.below.trans (hb1.mono (by simp))⟩
set_option maxHeartbeats 1000000 in
theorem pext_all (v : Value) (l : List ByteArray) (old root : ByteArray) (m n : Nat) (w : World) (h : StrsOk w v l) (hm0 : 0 < m) (hmn : m ≤ n) (hn : n ≤ 1000000) (ho : old.size ≤ maxLen) (hf : isB old = true) (hr : root.size ≤ maxLen) (hg : isB root = true) (hd : digsB l = true) (ht : TabOk w) :
    Calls Tryd.prog 22 #[.string old, .int .i64 (m : Int), .string root, .int .i64 (n : Int), v] w fun e w' => e = .returned (.bool (decide (l.length = longB n m true ∧ (bothB n m true old l).1 = old ∧ (bothB n m true old l).2 = root))) ∧ Below w.heap.size w w' := by
  obtain ⟨R, hR⟩ : ∃ R, R = decide (l.length = longB n m true ∧ (bothB n m true old l).1 = old ∧ (bothB n m true old l).2 = root) := ⟨_, rfl⟩
  rw [← hR]
  have HRR := Lib.hid hR
  clear hR
  have HF := Lib.hid hf
  have HO := Lib.hid ho
  have HG := Lib.hid hg
  have HR := Lib.hid hr
  have HD := Lib.hid hd
  have HT := Lib.hid ht
  have HS : Hid (old.size ≤ 2147483648) := Lib.hid (by have := isB_size hf; omega)
  obtain ⟨a, cap, rfl, hc1, hc2⟩ := h.room
  have H := Lib.hid h
  have hrest := rest_laid w (.slice a l.length cap)
  have c0 := hrest.cell0
  have t1 : decide ((m : Int) < 0) = false := by simp
  have t2 : decide (n < m) = false := by simp; omega
  have t3 : decide ((1000000 : Int) < (n : Int)) = false := by simp; omega
  have t4 : ((m : Int) == 0) = false := beq_eq_false_iff_ne.2 (by omega)
  clear hf ho hg hr hd h ht
  go_enter Tryd.func22, Tryd.ntmps22
  go_wp2_with fail
  refine (is_any old _ HO.out).mono ?_
  rintro e w1 ⟨rfl, rfl⟩
  rw [HF.out]
  go_wp2_with fail
  refine (is_any root _ HR.out).mono ?_
  rintro e w1 ⟨rfl, rfl⟩
  rw [HG.out]
  go_wp2_with fail
  refine (valid_any _ l _ (H.out.below hrest.below) H.out.len).mono ?_
  rintro e w1 ⟨rfl, rfl⟩
  rw [HD.out]
  go_wp2_with fail
  refine (roots_any w HT.out n m old l _ false _ HS.out (by omega) hm0 hmn hrest H.out (digsB_small HD.out)).mono ?_
  rintro e w2 ⟨s1, s2, p', sh', v', rfl, hs1, hs2, hr2, hp2, hL, hb2⟩
  have HL := Lib.hid hL.cases
  clear hs1 hs2 hL
  by_cases e1 : s1 = old
  · have t5 : (s1.toList == old.toList) = true := by rw [str_beq]; exact decide_eq_true e1
    have E1 := Lib.hid e1
    clear e1
    by_cases e2 : s2 = root
    · have t6 : (s2.toList == root.toList) = true := by rw [str_beq]; exact decide_eq_true e2
      have E2 := Lib.hid e2
      clear e2
      go_wp2_with fail
      refine (used_any w v' p' sh' w2 hr2 hp2).mono ?_
      rintro e w3 ⟨rfl, rfl⟩
      have key : (!sh' && decide (p'.length = 0)) = R := by
        rw [HRR.out]
        rcases HL.out with ⟨q, x1, x2, x3, x4⟩ | ⟨x1, x2⟩
        · subst x3
          by_cases h0 : p' = []
          · subst h0
            simp only [List.nil_append] at x1
            subst x1
            simp [x2, x4, E1.out, E2.out]
          · have h1 : p'.length ≠ 0 := fun e => h0 (List.eq_nil_of_length_eq_zero e)
            have h2 : l.length ≠ longB n m true := by rw [x1, List.length_append]; omega
            simp [h0, h2]
        · have h2 : l.length ≠ longB n m true := by omega
          simp [x2, h2]
      have KEY := Lib.hid key
      clear key
      rw [KEY.out]
      go_wp2_with fail
      go_ret
      exact ⟨rfl, hr2.below⟩
    · have t6 : (s2.toList == root.toList) = false := by rw [str_beq]; exact decide_eq_false e2
      have key : R = false := by
        rw [HRR.out]
        apply decide_eq_false
        rintro ⟨h1, h2, h3⟩
        rcases HL.out with ⟨q, x1, x2, x3, x4⟩ | ⟨x1, x2⟩
        · have : p' = [] := by
            apply List.eq_nil_of_length_eq_zero
            rw [x1, List.length_append] at h1
            omega
          subst this
          simp only [List.nil_append] at x1
          subst x1
          rw [x4] at h3
          exact e2 h3
        · omega
      have KEY := Lib.hid key
      clear key e2
      go_wp2_with fail
      go_ret
      exact ⟨by rw [KEY.out]; rfl, hr2.below⟩
  · have t5 : (s1.toList == old.toList) = false := by rw [str_beq]; exact decide_eq_false e1
    have key : R = false := by
      rw [HRR.out]
      apply decide_eq_false
      rintro ⟨h1, h2, h3⟩
      rcases HL.out with ⟨q, x1, x2, x3, x4⟩ | ⟨x1, x2⟩
      · have : p' = [] := by
          apply List.eq_nil_of_length_eq_zero
          rw [x1, List.length_append] at h1
          omega
        subst this
        simp only [List.nil_append] at x1
        subst x1
        rw [x4] at h2
        exact e1 h2
      · omega
    have KEY := Lib.hid key
    clear key e1
    go_wp2_with fail
    go_ret
    exact ⟨by rw [KEY.out]; rfl, hr2.below⟩
theorem extB_iff (old : ByteArray) (m : Int) (root : ByteArray) (n : Int) (l : List ByteArray) : extB old m root n l = true ↔
    0 ≤ m ∧ m ≤ n ∧ n ≤ 1000000 ∧ isB old = true ∧ isB root = true ∧ digsB l = true ∧
    (if m = 0 then l.length = 0 ∧ old = emptyB ∧ (0 < n ∨ root = old) else l.length = longB n.toNat m.toNat true ∧ (bothB n.toNat m.toNat true old l).1 = old ∧ (bothB n.toNat m.toNat true old l).2 = root) := by
  unfold extB
  by_cases c0 : m = 0
  · simp [c0, digsB, and_assoc]
  · by_cases c1 : m = n
    · subst c1
      rw [longB_end, bothB_end]
      simp [c0, digsB, and_assoc]
    · simp [c0, c1, digsB, and_assoc]
theorem pext_any (v : Value) (l : List ByteArray) (old root : ByteArray) (m n : Int) (w : World) (h : StrsOk w v l) (ho : old.size ≤ maxLen) (hr : root.size ≤ maxLen) (ht : TabOk w) :
    Calls Tryd.prog 22 #[.string old, .int .i64 m, .string root, .int .i64 n, v] w fun e w' => e = .returned (.bool (extB old m root n l)) ∧ Below w.heap.size w w' := by
  have hiff := extB_iff old m root n l
  have ff : ∀ {P : Prop}, (extB old m root n l = true → P) → ¬ P → extB old m root n l = false := fun f h => by
    cases e : extB old m root n l with
    | false => rfl
    | true => exact absurd (f e) h
  have no : (extB old m root n l = false) → Calls Tryd.prog 22 #[.string old, .int .i64 m, .string root, .int .i64 n, v] w (fun e w' => e = .returned (.bool false) ∧ Below w.heap.size w w') →
      Calls Tryd.prog 22 #[.string old, .int .i64 m, .string root, .int .i64 n, v] w fun e w' => e = .returned (.bool (extB old m root n l)) ∧ Below w.heap.size w w' := by
    intro e hc
    refine hc.mono ?_
    rintro e' w' ⟨rfl, hb⟩
    exact ⟨by rw [e], hb⟩
  have tr : ∀ {b : Bool}, ¬ b = true → b = false := fun h => by simpa using h
  by_cases c1 : m < 0
  · exact no (ff (fun h => (hiff.1 h).1) (by omega)) (pext_neg v old root m n w c1)
  by_cases c2 : n < m
  · exact no (ff (fun h => (hiff.1 h).2.1) (by omega)) (pext_gt v old root m n w c1 c2)
  by_cases c3 : 1000000 < n
  · exact no (ff (fun h => (hiff.1 h).2.2.1) (by omega)) (pext_big v old root m n w c1 c2 c3)
  by_cases c4 : isB old = true
  · by_cases c5 : isB root = true
    · by_cases c6 : digsB l = true
      · obtain ⟨n', rfl⟩ : ∃ k : Nat, n = k := ⟨n.toNat, by omega⟩
        by_cases c7 : m = 0
        · subst c7
          simp only [if_true] at hiff
          by_cases c8 : l.length = 0
          · by_cases c9 : old = emptyB
            · by_cases c10 : 0 < n'
              · refine (pext_zero_some v l old root n' w h (by omega) c10 ho c4 hr c5 c6 c8 c9 ht).mono ?_
                rintro e w' ⟨rfl, hb⟩
                exact ⟨by rw [hiff.2 ⟨by omega, by omega, by omega, c4, c5, c6, c8, c9, .inl (by omega)⟩], hb⟩
              · obtain rfl : n' = 0 := by omega
                refine (pext_zero_none v l old root w h ho c4 hr c5 c6 c8 c9 ht).mono ?_
                rintro e w' ⟨rfl, hb⟩
                refine ⟨?_, hb⟩
                congr 2
                by_cases c11 : root = old
                · rw [decide_eq_true c11, hiff.2 ⟨by omega, by omega, by omega, c4, c5, c6, c8, c9, .inr c11⟩]
                · rw [decide_eq_false c11, ff (fun h => (hiff.1 h).2.2.2.2.2.2.2.2.resolve_left (by omega)) c11]
            · exact no (ff (fun h => (hiff.1 h).2.2.2.2.2.2.2.1) c9) (pext_zero_old v l old root n' w h (by omega) ho c4 hr c5 c6 c8 c9 ht)
          · exact no (ff (fun h => (hiff.1 h).2.2.2.2.2.2.1) c8) (pext_zero_len v l old root n' w h (by omega) ho c4 hr c5 c6 c8)
        · obtain ⟨m', rfl⟩ : ∃ k : Nat, m = k := ⟨m.toNat, by omega⟩
          rw [if_neg c7] at hiff
          simp only [Int.toNat_natCast] at hiff
          refine (pext_all v l old root m' n' w h (by omega) (by omega) (by omega) ho c4 hr c5 c6 ht).mono ?_
          rintro e w' ⟨rfl, hb⟩
          refine ⟨?_, hb⟩
          congr 2
          by_cases c11 : l.length = longB n' m' true ∧ (bothB n' m' true old l).1 = old ∧ (bothB n' m' true old l).2 = root
          · rw [decide_eq_true c11, hiff.2 ⟨by omega, by omega, by omega, c4, c5, c6, c11⟩]
          · rw [decide_eq_false c11, ff (fun h => (hiff.1 h).2.2.2.2.2.2) c11]
      · exact no (ff (fun h => (hiff.1 h).2.2.2.2.2.1) c6) (pext_digs v l old root m n w h c1 c2 c3 ho c4 hr c5 (tr c6))
    · exact no (ff (fun h => (hiff.1 h).2.2.2.2.1) c5) (pext_root v old root m n w c1 c2 c3 ho c4 hr (tr c5))
  · exact no (ff (fun h => (hiff.1 h).2.2.2.1) c4) (pext_old v old root m n w c1 c2 c3 ho (tr c4))
end Go.Proofs.YtbiekbppenccdaaDoor
