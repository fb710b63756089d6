/-
  Plain mathematics of joined texts: they tell lists apart, and short ones have different digests.
-/
import Derived.Test.YtbkhcmpmhnnhcaaDoorDigLaws2
import Derived.Test.YtbkhcmpmhnnhcaaDoorDigBlk
set_option linter.unusedVariables false
namespace Go.Proofs.YtbkhcmpmhnnhcaaDoor
open Go.RowKit
/-- the number of a row of digits -/
def valD (l : List UInt8) : Nat := l.foldl (fun n b => n * 10 + (b.toNat - 48)) 0
theorem valD_snoc (l : List UInt8) (b : UInt8) : valD (l ++ [b]) = valD l * 10 + (b.toNat - 48) := by simp [valD]
theorem dig_toNat (d : Nat) (h : d < 10) : (UInt8.ofNat (48 + d)).toNat = 48 + d := by
  rw [UInt8.toNat_ofNat']; omega
theorem valD_dec (n : Nat) : valD (Lib.decDigits n) = n := by
  induction n using Nat.strongRecOn with
  | _ n ih =>
    rw [Lib.decDigits]
    by_cases h : n < 10
    · rw [dif_pos h]
      show valD ([] ++ [_]) = n
      rw [valD_snoc, dig_toNat _ h]; simp [valD]
    · rw [dif_neg h, valD_snoc, ih _ (by omega), dig_toNat _ (Nat.mod_lt _ (by omega))]; omega
theorem dec_inj {a b : Nat} (h : Lib.decDigits a = Lib.decDigits b) : a = b := by rw [← valD_dec a, ← valD_dec b, h]
theorem dec_no58 (n : Nat) : ∀ b ∈ Lib.decDigits n, b ≠ 58 := by
  induction n using Nat.strongRecOn with
  | _ n ih =>
    intro b hb
    rw [Lib.decDigits] at hb
    have key : ∀ d, d < 10 → UInt8.ofNat (48 + d) ≠ 58 := by
      intro d hd e
      have := congrArg UInt8.toNat e
      rw [dig_toNat d hd] at this
      have h58 : (58 : UInt8).toNat = 58 := rfl
      omega
    by_cases h : n < 10
    · rw [dif_pos h] at hb
      simp only [List.mem_singleton] at hb
      subst hb; exact key n h
    · rw [dif_neg h] at hb
      rcases List.mem_append.1 hb with hb | hb
      · exact ih _ (by omega) b hb
      · simp only [List.mem_singleton] at hb
        subst hb; exact key _ (Nat.mod_lt _ (by omega))
theorem split58 {x y r q : List UInt8} (hx : ∀ b ∈ x, b ≠ 58) (hy : ∀ b ∈ y, b ≠ 58) (h : x ++ 58 :: r = y ++ 58 :: q) : x = y ∧ r = q := by
  induction x generalizing y with
  | nil =>
    cases y with
    | nil => simp at h; exact ⟨rfl, h⟩
    | cons c y => simp at h; exact absurd h.1.symm (hy c (List.mem_cons_self ..))
  | cons c x ih =>
    cases y with
    | nil => simp at h; exact absurd h.1 (hx c (List.mem_cons_self ..))
    | cons d y =>
      simp only [List.cons_append, List.cons.injEq] at h
      obtain ⟨rfl, h⟩ := h
      obtain ⟨h1, h2⟩ := ih (fun b hb => hx b (List.mem_cons_of_mem _ hb)) (fun b hb => hy b (List.mem_cons_of_mem _ hb)) h
      exact ⟨by rw [h1], h2⟩
theorem joinL_ne_nil (s : ByteArray) (r : List ByteArray) : joinL (s :: r) ≠ [] := by simp [joinL, oneL]
theorem joinL_inj : ∀ {l m : List ByteArray}, joinL l = joinL m → l = m
  | [], [], _ => rfl
  | [], t :: m, h => absurd h.symm (joinL_ne_nil t m)
  | s :: l, [], h => absurd h (joinL_ne_nil s l)
  | s :: l, t :: m, h => by
    simp only [joinL, oneL, List.append_assoc, List.cons_append] at h
    obtain ⟨h1, h2⟩ := split58 (dec_no58 _) (dec_no58 _) h
    have h3 := dec_inj h1
    have sz : ∀ x : ByteArray, x.data.toList.length = x.size := fun x => by simp
    obtain ⟨h4, h5⟩ := List.append_inj h2 (by rw [sz, sz, h3])
    rw [bytes_ext h4, joinL_inj h5]
theorem joinB_eq (l m : List ByteArray) : ((joinB l).toList == (joinB m).toList) = sameB l m := by
  rw [str_beq]
  unfold sameB
  by_cases h : l = m
  · subst h; simp
  · have : joinB l ≠ joinB m := fun e => h (joinL_inj (by
      have := congrArg (fun b : ByteArray => b.data.toList) e
      simpa [joinB] using this))
    simp [h, this]
theorem list_short (l m : List ByteArray) (hl : (joinB l).size ≤ 7) (hm : (joinB m).size ≤ 7) : ((sumB (joinB l)).toList == (sumB (joinB m)).toList) = sameB l m := by
  rw [str_beq, ← joinB_eq, str_beq]
  by_cases h : joinB l = joinB m
  · rw [h]; simp
  · have : sumB (joinB l) ≠ sumB (joinB m) := fun e => h ((sumB_short hl hm).1 e)
    simp [h, this]
/-- one element of at most 9 bytes -/
theorem join_one (A : ByteArray) (h : A.size ≤ 9) : (joinB [A]).data.toList = [UInt8.ofNat (48 + A.size), 58] ++ A.data.toList := by
  show joinL [A] = _
  simp only [joinL, oneL]
  rw [Lib.decDigits, dif_pos (by omega)]
  simp
theorem list_one (A B : ByteArray) (hAB : A.size = B.size) (h9 : A.size ≤ 9) (h6 : ∀ i, i < 6 → Dig.byteAt A.data.toList i = Dig.byteAt B.data.toList i) :
    (((sumB (joinB [A])).toList == (sumB (joinB [B])).toList) == (A.toList == B.toList)) = true := by
  have sz : ∀ x : ByteArray, x.data.toList.length = x.size := fun x => by simp
  rw [str_beq, str_beq]
  by_cases h : A = B
  · subst h; simp
  · have h6' : 6 ≤ A.size := by
      rcases Nat.lt_or_ge A.size 6 with h7 | h7
      · exact absurd (bytes_ext (Dig.ext_bytes (by rw [sz, sz, hAB]) (fun i hi => h6 i (by rw [sz] at hi; omega)))) h
      · exact h7
    have hne : sumB (joinB [A]) ≠ sumB (joinB [B]) := by
      intro e
      have e2 := sumB_inj e
      rw [join_one A h9, join_one B (by omega), hAB] at e2
      have h3 := (Dig.block_iff (p := 1) (by simp only [List.length_append, sz]; unfold Dig.M; simp; omega) (by simp only [List.length_append, sz]; omega) (by simp only [List.length_append, sz]; simp; omega) (by
        intro i hi
        simp only [byteAt_append, List.length_cons, List.length_nil]
        split
        · rfl
        · rcases hi with hi | hi
          · exact h6 _ (by omega)
          · rw [Dig.byteAt_out (by rw [sz]; omega), Dig.byteAt_out (by rw [sz]; omega)])).1 e2
      exact h (bytes_ext (List.append_cancel_left h3))
    simp [h, hne]
end Go.Proofs.YtbkhcmpmhnnhcaaDoor
