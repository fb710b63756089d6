/-
  The program's tree package: Check.
-/
import Derived.Test.YtcdnddjoonecdaaDoorTrC
import Derived.Test.YtcdnddjoonecdaaDoorTmA
set_option linter.unusedVariables false
set_option maxRecDepth 100000
namespace Go.Proofs.YtcdnddjoonecdaaDoor
open Go.RowKit
theorem pcheck_neg (v : Value) (root leaf : ByteArray) (n i : Int) (w : World) (hi : i < 0) :
    Calls Tryd.prog 28 #[.string root, .int .i64 n, .int .i64 i, .string leaf, v] w fun e w' => e = .returned (.bool false) ∧ w = w' := by
  go_enter Tryd.func28, Tryd.ntmps28
  go_wp2_with fail
  go_ret
  exact ⟨rfl, rfl⟩
theorem pcheck_past (v : Value) (root leaf : ByteArray) (n i : Int) (w : World) (hi : ¬ i < 0) (hi2 : n ≤ i) :
    Calls Tryd.prog 28 #[.string root, .int .i64 n, .int .i64 i, .string leaf, v] w fun e w' => e = .returned (.bool false) ∧ w = w' := by
  go_enter Tryd.func28, Tryd.ntmps28
  go_wp2_with fail
  go_ret
  exact ⟨rfl, rfl⟩
theorem pcheck_big (v : Value) (root leaf : ByteArray) (n i : Int) (w : World) (hi : ¬ i < 0) (hi2 : ¬ n ≤ i) (hn : 1000000 < n) :
    Calls Tryd.prog 28 #[.string root, .int .i64 n, .int .i64 i, .string leaf, v] w fun e w' => e = .returned (.bool false) ∧ w = w' := by
  go_enter Tryd.func28, Tryd.ntmps28
  go_wp2_with fail
  go_ret
  exact ⟨rfl, rfl⟩
theorem pcheck_leaf (v : Value) (root leaf : ByteArray) (n i : Int) (w : World) (hi : ¬ i < 0) (hi2 : ¬ n ≤ i) (hn : ¬ 1000000 < n) (hls : leaf.size ≤ maxLen) (hf : isB leaf = false) :
    Calls Tryd.prog 28 #[.string root, .int .i64 n, .int .i64 i, .string leaf, v] w fun e w' => e = .returned (.bool false) ∧ w = w' := by
  have HF := Lib.hid hf
  have HL := Lib.hid hls
  clear hf hls
  go_enter Tryd.func28, Tryd.ntmps28
  go_wp2_with fail
  refine (is_any leaf _ HL.out).mono ?_
  rintro e w1 ⟨rfl, rfl⟩
  rw [HF.out]
  go_wp2_with fail
  go_ret
  exact ⟨rfl, rfl⟩
/-- the block that a proof's rest is laid in -/
theorem rest_laid (w : World) (v : Value) : RestAt w v false (w.alloc (Obj.cells #[v, .bool false] 70)) :=
  ⟨heap_last w _, (Below.refl _ _).alloc (Nat.le_refl _) _⟩
set_option maxHeartbeats 400000 in
theorem pcheck_digs (v : Value) (p : List ByteArray) (root leaf : ByteArray) (n i : Int) (w : World) (h : StrsOk w v p) (hi : ¬ i < 0) (hi2 : ¬ n ≤ i) (hn : ¬ 1000000 < n) (hls : leaf.size ≤ maxLen) (hf : isB leaf = true) (hd : digsB p = false) :
    Calls Tryd.prog 28 #[.string root, .int .i64 n, .int .i64 i, .string leaf, v] w fun e w' => e = .returned (.bool false) ∧ Below w.heap.size w w' := by
  have HF := Lib.hid hf
  have HL := Lib.hid hls
  have HD := Lib.hid hd
  obtain ⟨a, cap, rfl, hc1, hc2⟩ := h.room
  have H := Lib.hid h
  have hrest := rest_laid w (.slice a p.length cap)
  have c0 := hrest.cell0
  clear hf hls hd h
  go_enter Tryd.func28, Tryd.ntmps28
  go_wp2_with fail
  refine (is_any leaf _ HL.out).mono ?_
  rintro e w1 ⟨rfl, rfl⟩
  rw [HF.out]
  go_wp2_with fail
  refine (valid_any _ p _ (H.out.below hrest.below) H.out.len).mono ?_
  rintro e w1 ⟨rfl, rfl⟩
  rw [HD.out]
  go_wp2_with fail
  go_ret
  exact ⟨rfl, hrest.below⟩
set_option maxHeartbeats 1000000 in
theorem pcheck_all (v : Value) (p : List ByteArray) (root leaf : ByteArray) (n i : Nat) (w : World) (h : StrsOk w v p) (hi2 : i < n) (hn : n ≤ 1000000) (hls : leaf.size ≤ maxLen) (hf : isB leaf = true) (hd : digsB p = true) (ht : TabOk w) :
    Calls Tryd.prog 28 #[.string root, .int .i64 (n : Int), .int .i64 (i : Int), .string leaf, v] w fun e w' => e = .returned (.bool (decide (p.length = lenB n i ∧ upB n i leaf p = root))) ∧ Below w.heap.size w w' := by
  obtain ⟨R, hR⟩ : ∃ R, R = decide (p.length = lenB n i ∧ upB n i leaf p = root) := ⟨_, rfl⟩
  rw [← hR]
  have HR := Lib.hid hR
  clear hR
  have HF := Lib.hid hf
  have HL := Lib.hid hls
  have HD := Lib.hid hd
  have HT := Lib.hid ht
  obtain ⟨a, cap, rfl, hc1, hc2⟩ := h.room
  have H := Lib.hid h
  have hrest := rest_laid w (.slice a p.length cap)
  have c0 := hrest.cell0
  have HS : Hid (leaf.size ≤ 2147483648) := Lib.hid (by have := isB_size hf; omega)
  have t1 : decide ((i : Int) < 0) = false := by simp
  have t2 : decide (n ≤ i) = false := by simp; omega
  have t3 : decide ((1000000 : Int) < (n : Int)) = false := by simp; omega
  clear hf hls hd h ht
  go_enter Tryd.func28, Tryd.ntmps28
  go_wp2_with fail
  refine (is_any leaf _ HL.out).mono ?_
  rintro e w1 ⟨rfl, rfl⟩
  rw [HF.out]
  go_wp2_with fail
  refine (valid_any _ p _ (H.out.below hrest.below) H.out.len).mono ?_
  rintro e w1 ⟨rfl, rfl⟩
  rw [HD.out]
  go_wp2_with fail
  refine (proot_any w HT.out leaf HS.out n i p _ false _ (by omega) hi2 hrest H.out (digsB_small HD.out)).mono ?_
  rintro e w2 ⟨s, p', sh', v', rfl, hs, hr2, hp2, hL, hb2⟩
  have HSS := Lib.hid hs
  clear hs
  by_cases hsr : s = root
  · have t4 : (s.toList == root.toList) = true := by rw [str_beq]; exact decide_eq_true hsr
    have HSR := Lib.hid hsr
    clear hsr
    go_wp2_with fail
    refine (used_any w v' p' sh' w2 hr2 hp2).mono ?_
    rintro e w3 ⟨rfl, rfl⟩
    have key : (!sh' && decide (p'.length = 0)) = R := by
      rw [HR.out]
      rcases hL.cases with ⟨q, e1, e2, e3, e4⟩ | ⟨e1, e2⟩
      · subst e3
        by_cases h0 : p' = []
        · subst h0
          simp only [List.nil_append] at e1
          subst e1
          simp [e2, e4, HSR.out]
        · have h1 : p'.length ≠ 0 := fun e => h0 (List.eq_nil_of_length_eq_zero e)
          have h2 : p.length ≠ lenB n i := by rw [e1, List.length_append]; omega
          simp [h0, h2]
      · have h2 : p.length ≠ lenB n i := by omega
        simp [e2, h2]
    have KEY := Lib.hid key
    clear key hL
    rw [KEY.out]
    go_wp2_with fail
    go_ret
    exact ⟨rfl, hr2.below⟩
  · have t4 : (s.toList == root.toList) = false := by rw [str_beq]; exact decide_eq_false hsr
    have key : R = false := by
      rw [HR.out]
      apply decide_eq_false
      rintro ⟨h1, h2⟩
      rcases hL.cases with ⟨q, e1, e2, e3, e4⟩ | ⟨e1, e2⟩
      · have : p' = [] := by
          apply List.eq_nil_of_length_eq_zero
          rw [e1, List.length_append] at h1
          omega
        subst this
        simp only [List.nil_append] at e1
        subst e1
        exact hsr (e4.symm.trans h2)
      · omega
    have KEY := Lib.hid key
    clear key hL hsr
    go_wp2_with fail
    go_ret
    exact ⟨by rw [KEY.out]; rfl, hr2.below⟩
theorem pcheck_any (v : Value) (p : List ByteArray) (root leaf : ByteArray) (n i : Int) (w : World) (h : StrsOk w v p) (hls : leaf.size ≤ maxLen) (ht : TabOk w) :
    Calls Tryd.prog 28 #[.string root, .int .i64 n, .int .i64 i, .string leaf, v] w fun e w' => e = .returned (.bool (checkB root n i leaf p)) ∧ Below w.heap.size w w' := by
  have hiff := checkB_iff root n i leaf p
  have ff : ∀ {P : Prop}, (checkB root n i leaf p = true → P) → ¬ P → checkB root n i leaf p = false := fun f h => by
    cases e : checkB root n i leaf p with
    | false => rfl
    | true => exact absurd (f e) h
  have no : (checkB root n i leaf p = false) → Calls Tryd.prog 28 #[.string root, .int .i64 n, .int .i64 i, .string leaf, v] w (fun e w' => e = .returned (.bool false) ∧ w = w') →
      Calls Tryd.prog 28 #[.string root, .int .i64 n, .int .i64 i, .string leaf, v] w fun e w' => e = .returned (.bool (checkB root n i leaf p)) ∧ Below w.heap.size w w' := by
    intro e hc
    refine hc.mono ?_
    rintro e' w' ⟨rfl, rfl⟩
    exact ⟨by rw [e], Below.refl _ _⟩
  by_cases c2 : i < 0
  · exact no (ff (fun h => (hiff.1 h).2.1) (by omega)) (pcheck_neg v root leaf n i w c2)
  by_cases c3 : n ≤ i
  · exact no (ff (fun h => (hiff.1 h).2.2.1) (by omega)) (pcheck_past v root leaf n i w c2 c3)
  by_cases c1 : 1000000 < n
  · exact no (ff (fun h => (hiff.1 h).1) (by omega)) (pcheck_big v root leaf n i w c2 c3 c1)
  by_cases c6 : isB leaf = true
  · by_cases c5 : digsB p = true
    · obtain ⟨m, rfl⟩ : ∃ m : Nat, n = m := ⟨n.toNat, by omega⟩
      obtain ⟨k, rfl⟩ : ∃ k : Nat, i = k := ⟨i.toNat, by omega⟩
      simp only [Int.toNat_natCast] at hiff
      refine (pcheck_all v p root leaf m k w h (by omega) (by omega) hls c6 c5 ht).mono ?_
      rintro e w' ⟨rfl, hb⟩
      refine ⟨?_, hb⟩
      congr 2
      by_cases c7 : p.length = lenB m k ∧ upB m k leaf p = root
      · rw [decide_eq_true c7, hiff.2 ⟨by omega, by omega, by omega, c7.1, c5, c6, c7.2⟩]
      · rw [decide_eq_false c7, ff (fun h => ⟨(hiff.1 h).2.2.2.1, (hiff.1 h).2.2.2.2.2.2⟩) c7]
    · refine (pcheck_digs v p root leaf n i w h c2 c3 c1 hls c6 (by simpa using c5)).mono ?_
      rintro e w' ⟨rfl, hb⟩
      exact ⟨by rw [ff (fun h => (hiff.1 h).2.2.2.2.1) c5], hb⟩
  · exact no (ff (fun h => (hiff.1 h).2.2.2.2.2.1) c6) (pcheck_leaf v root leaf n i w c2 c3 c1 hls (by simpa using c6))
end Go.Proofs.YtcdnddjoonecdaaDoor
