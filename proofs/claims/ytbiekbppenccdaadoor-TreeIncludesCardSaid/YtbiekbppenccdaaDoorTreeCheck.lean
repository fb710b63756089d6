import Derived.Test.YtbiekbppenccdaaDoorTreeFns
set_option linter.unusedVariables false
namespace Go.Proofs.YtbiekbppenccdaaDoor
open Go.RowKit
/-- a path proves an element at a place -/
def checkB (root : ByteArray) (n i : Int) (leaf : ByteArray) (p : List ByteArray) : Bool :=
  decide (n ≤ 1000000) && decide (0 ≤ i) && decide (i < n) && decide (p.length = lenB n.toNat i.toNat) && digsB p && isB leaf && decide (upB n.toNat i.toNat leaf p = root)
theorem checkB_iff (root : ByteArray) (n i : Int) (leaf : ByteArray) (p : List ByteArray) : checkB root n i leaf p = true ↔
    n ≤ 1000000 ∧ 0 ≤ i ∧ i < n ∧ p.length = lenB n.toNat i.toNat ∧ digsB p = true ∧ isB leaf = true ∧ upB n.toNat i.toNat leaf p = root := by
  unfold checkB; simp [and_assoc]
theorem refcheck_big (v : Value) (root leaf : ByteArray) (n i : Int) (w : World) (hn : 1000000 < n) :
    Calls Tryd.prog 21 #[.string root, .int .i64 n, .int .i64 i, .string leaf, v] w fun e w' => e = .returned (.bool false) ∧ w = w' := by
  go_enter Tryd.func21, Tryd.ntmps21
  go_wp2_with fail
  go_ret
  exact ⟨rfl, rfl⟩
theorem refcheck_neg (v : Value) (root leaf : ByteArray) (n i : Int) (w : World) (hn : ¬ 1000000 < n) (hi : i < 0) :
    Calls Tryd.prog 21 #[.string root, .int .i64 n, .int .i64 i, .string leaf, v] w fun e w' => e = .returned (.bool false) ∧ w = w' := by
  go_enter Tryd.func21, Tryd.ntmps21
  go_wp2_with fail
  go_ret
  exact ⟨rfl, rfl⟩
theorem refcheck_past (v : Value) (root leaf : ByteArray) (n i : Int) (w : World) (hn : ¬ 1000000 < n) (hi : ¬ i < 0) (hi2 : n ≤ i) :
    Calls Tryd.prog 21 #[.string root, .int .i64 n, .int .i64 i, .string leaf, v] w fun e w' => e = .returned (.bool false) ∧ w = w' := by
  go_enter Tryd.func21, Tryd.ntmps21
  go_wp2_with fail
  go_ret
  exact ⟨rfl, rfl⟩
theorem refcheck_len (a : Option Addr) (p : List ByteArray) (cap : Nat) (root leaf : ByteArray) (n i : Nat) (w : World) (hn : ¬ 1000000 < (n : Int)) (hi2 : i < n) (hl : p.length ≠ lenB n i) :
    Calls Tryd.prog 21 #[.string root, .int .i64 (n : Int), .int .i64 (i : Int), .string leaf, .slice a p.length cap] w fun e w' => e = .returned (.bool false) ∧ w = w' := by
  have t1 : decide ((i : Int) < 0) = false := by simp
  have t2 : decide (n ≤ i) = false := by simp; omega
  have t3 : ((p.length : Int) != (lenB n i : Nat)) = true := by simp; omega
  go_enter Tryd.func21, Tryd.ntmps21
  go_wp2_with fail
  refine (reflen_any n i _ (by omega) hi2).mono ?_
  rintro e w1 ⟨rfl, rfl⟩
  go_wp2_with fail
  go_ret
  exact ⟨rfl, rfl⟩
theorem refcheck_digs (v : Value) (p : List ByteArray) (root leaf : ByteArray) (n i : Nat) (w : World) (h : StrsOk w v p) (hn : ¬ 1000000 < (n : Int)) (hi2 : i < n) (hl : p.length = lenB n i) (hd : digsB p = false) :
    Calls Tryd.prog 21 #[.string root, .int .i64 (n : Int), .int .i64 (i : Int), .string leaf, v] w fun e w' => e = .returned (.bool false) ∧ w = w' := by
  obtain ⟨a, cap, rfl, hc1, hc2⟩ := h.room
  have H := Lib.hid h
  have HD := Lib.hid hd
  clear h hd
  have hlen := H.out.len
  have t1 : decide ((i : Int) < 0) = false := by simp
  have t2 : decide (n ≤ i) = false := by simp; omega
  have t3 : ((p.length : Int) != (lenB n i : Nat)) = false := by simp; omega
  have HLN := Lib.hid hl
  clear hl
  go_enter Tryd.func21, Tryd.ntmps21
  go_wp2_with fail
  refine (reflen_any n i _ (by omega) hi2).mono ?_
  rintro e w1 ⟨rfl, rfl⟩
  go_wp2_with fail
  refine (digests_any _ p _ H.out hlen).mono ?_
  rintro e w1 ⟨rfl, rfl⟩
  rw [HD.out]
  go_wp2_with fail
  go_ret
  exact ⟨rfl, rfl⟩
theorem refcheck_leaf (v : Value) (p : List ByteArray) (root leaf : ByteArray) (n i : Nat) (w : World) (h : StrsOk w v p) (hn : ¬ 1000000 < (n : Int)) (hi2 : i < n) (hl : p.length = lenB n i) (hd : digsB p = true) (hls : leaf.size ≤ maxLen) (hf : isB leaf = false) :
    Calls Tryd.prog 21 #[.string root, .int .i64 (n : Int), .int .i64 (i : Int), .string leaf, v] w fun e w' => e = .returned (.bool false) ∧ w = w' := by
  obtain ⟨a, cap, rfl, hc1, hc2⟩ := h.room
  have H := Lib.hid h
  have HD := Lib.hid hd
  have HF := Lib.hid hf
  have HL := Lib.hid hls
  clear h hd hf hls
  have hlen := H.out.len
  have t1 : decide ((i : Int) < 0) = false := by simp
  have t2 : decide (n ≤ i) = false := by simp; omega
  have t3 : ((p.length : Int) != (lenB n i : Nat)) = false := by simp; omega
  have HLN := Lib.hid hl
  clear hl
  go_enter Tryd.func21, Tryd.ntmps21
  go_wp2_with fail
  refine (reflen_any n i _ (by omega) hi2).mono ?_
  rintro e w1 ⟨rfl, rfl⟩
  go_wp2_with fail
  refine (digests_any _ p _ H.out hlen).mono ?_
  rintro e w1 ⟨rfl, rfl⟩
  rw [HD.out]
  go_wp2_with fail
  refine (refis_any leaf _ HL.out).mono ?_
  rintro e w1 ⟨rfl, rfl⟩
  rw [HF.out]
  go_wp2_with fail
  go_ret
  exact ⟨rfl, rfl⟩
theorem refcheck_all (v : Value) (p : List ByteArray) (root leaf : ByteArray) (n i : Nat) (w : World) (h : StrsOk w v p) (hn : ¬ 1000000 < (n : Int)) (hi2 : i < n) (hl : p.length = lenB n i) (hd : digsB p = true) (hls : leaf.size ≤ maxLen) (hf : isB leaf = true) :
    Calls Tryd.prog 21 #[.string root, .int .i64 (n : Int), .int .i64 (i : Int), .string leaf, v] w fun e w' => e = .returned (.bool (decide (upB n i leaf p = root))) ∧ Below w.heap.size w w' := by
  obtain ⟨a, cap, rfl, hc1, hc2⟩ := h.room
  have H := Lib.hid h
  have HD := Lib.hid hd
  have HF := Lib.hid hf
  have HL := Lib.hid hls
  have HS : Hid (leaf.size ≤ 2147483648) := Lib.hid (by have := isB_size hf; omega)
  clear h hd hf hls
  have hlen := H.out.len
  have t1 : decide ((i : Int) < 0) = false := by simp
  have t2 : decide (n ≤ i) = false := by simp; omega
  have t3 : ((p.length : Int) != (lenB n i : Nat)) = false := by simp; omega
  have HLN := Lib.hid hl
  clear hl
  go_enter Tryd.func21, Tryd.ntmps21
  go_wp2_with fail
  refine (reflen_any n i _ (by omega) hi2).mono ?_
  rintro e w1 ⟨rfl, rfl⟩
  go_wp2_with fail
  refine (digests_any _ p _ H.out hlen).mono ?_
  rintro e w1 ⟨rfl, rfl⟩
  rw [HD.out]
  go_wp2_with fail
  refine (refis_any leaf _ HL.out).mono ?_
  rintro e w1 ⟨rfl, rfl⟩
  rw [HF.out]
  go_wp2_with fail
  refine (refup_any n i leaf p _ _ (by omega) hi2 HLN.out HS.out (digsB_small HD.out) H.out).mono ?_
  rintro e w2 ⟨rfl, hb2⟩
  go_wp2_with fail
  go_ret
  exact ⟨by simp only [str_beq]; rfl, hb2⟩
theorem refcheck_any (v : Value) (p : List ByteArray) (root leaf : ByteArray) (n i : Int) (w : World) (h : StrsOk w v p) (hls : leaf.size ≤ maxLen) :
    Calls Tryd.prog 21 #[.string root, .int .i64 n, .int .i64 i, .string leaf, v] w fun e w' => e = .returned (.bool (checkB root n i leaf p)) ∧ Below w.heap.size w w' := by
  have no : (checkB root n i leaf p = false) → Calls Tryd.prog 21 #[.string root, .int .i64 n, .int .i64 i, .string leaf, v] w (fun e w' => e = .returned (.bool false) ∧ w = w') →
      Calls Tryd.prog 21 #[.string root, .int .i64 n, .int .i64 i, .string leaf, v] w fun e w' => e = .returned (.bool (checkB root n i leaf p)) ∧ Below w.heap.size w w' := by
    intro e hc
    refine hc.mono ?_
    rintro e' w' ⟨rfl, rfl⟩
    exact ⟨by rw [e], Below.refl _ _⟩
  have hiff := checkB_iff root n i leaf p
  have ff : ∀ {P : Prop}, (checkB root n i leaf p = true → P) → ¬ P → checkB root n i leaf p = false := fun f h => by
    cases e : checkB root n i leaf p with
    | false => rfl
    | true => exact absurd (f e) h
  by_cases c1 : 1000000 < n
  · exact no (ff (fun h => (hiff.1 h).1) (by omega)) (refcheck_big v root leaf n i w c1)
  by_cases c2 : i < 0
  · exact no (ff (fun h => (hiff.1 h).2.1) (by omega)) (refcheck_neg v root leaf n i w c1 c2)
  by_cases c3 : n ≤ i
  · exact no (ff (fun h => (hiff.1 h).2.2.1) (by omega)) (refcheck_past v root leaf n i w c1 c2 c3)
  obtain ⟨m, rfl⟩ : ∃ m : Nat, n = m := ⟨n.toNat, by omega⟩
  obtain ⟨k, rfl⟩ : ∃ k : Nat, i = k := ⟨i.toNat, by omega⟩
  simp only [Int.toNat_natCast] at hiff
  by_cases c4 : p.length = lenB m k
  · by_cases c5 : digsB p = true
    · by_cases c6 : isB leaf = true
      · refine (refcheck_all v p root leaf m k w h c1 (by omega) c4 c5 hls c6).mono ?_
        rintro e w' ⟨rfl, hb⟩
        refine ⟨?_, hb⟩
        congr 2
        by_cases c7 : upB m k leaf p = root
        · rw [decide_eq_true c7, hiff.2 ⟨by omega, by omega, by omega, c4, c5, c6, c7⟩]
        · rw [decide_eq_false c7, ff (fun h => (hiff.1 h).2.2.2.2.2.2) c7]
      · exact no (ff (fun h => (hiff.1 h).2.2.2.2.2.1) c6) (refcheck_leaf v p root leaf m k w h c1 (by omega) c4 c5 hls (by simpa using c6))
    · exact no (ff (fun h => (hiff.1 h).2.2.2.2.1) c5) (refcheck_digs v p root leaf m k w h c1 (by omega) c4 (by simpa using c5))
  · obtain ⟨a, cap, e, _, _⟩ := h.room
    subst e
    exact no (ff (fun h => (hiff.1 h).2.2.2.1) c4) (refcheck_len a p cap root leaf m k w c1 (by omega) c4)
end Go.Proofs.YtbiekbppenccdaaDoor
