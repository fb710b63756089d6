/-
  How the program's Parse finds the moment (layer 9): pure facts.
-/
import Derived.Test.YtkjflpkokeckgaaDoorCaAns
import Derived.Lib.AtoiAllCases
import Derived.Lib.ItoaNum
import Derived.Lib.CutLaws
set_option linter.unusedVariables false
set_option maxRecDepth 100000
namespace Go.Proofs.YtkjflpkokeckgaaDoor
open Go.RowKit
namespace Ca
theorem dec_digits : ∀ (n : Nat), Lib.decDigits n = decs n := by
  intro n
  induction n using Nat.strongRecOn with
  | ind n ih =>
    by_cases h : n < 10
    · rw [decs_small h, Lib.decDigits, dif_pos h]
    · rw [decs_big h, Lib.decDigits, dif_neg h, ih (n / 10) (by omega)]
theorem val_ge : ∀ (l : Bs) (a : Nat), a ≤ val a l
  | [], a => Nat.le_refl a
  | c :: l, a => by
    have := val_ge l (10 * a + (c.toNat - 48))
    rw [show val a (c :: l) = val (10 * a + (c.toNat - 48)) l from rfl]
    omega
theorem parse_uint : ∀ (l : Bs) (a : Nat), (∀ c ∈ l, dgt c = true) → val a l < 1000000000 → Lib.parseUint10 a l = .ok (val a l)
  | [], a, _, _ => rfl
  | c :: l, a, hd, h => by
    have hc := hd c (by simp)
    simp only [dgt, Bool.and_eq_true, decide_eq_true_eq] at hc
    have hv : val a (c :: l) = val (10 * a + (c.toNat - 48)) l := rfl
    rw [hv] at h ⊢
    have hg := val_ge l (10 * a + (c.toNat - 48))
    unfold Lib.parseUint10
    rw [if_pos hc, if_neg (by omega), if_neg (by omega), Nat.mul_comm a 10]
    exact parse_uint l _ (fun x hx => hd x (by simp [hx])) h
theorem atoi_decs {n : Nat} (h : n < 1000000000) : Lib.atoiAll (decs n) = .ok (n : Int) := by
  have hd := decs_dgt n
  have hv := decs_val n
  have hp := decs_pos n
  generalize decs n = l at hd hv hp
  cases l with
  | nil => simp at hp
  | cons c r =>
    have hc := hd c (by simp)
    simp only [dgt, Bool.and_eq_true, decide_eq_true_eq] at hc
    rw [Lib.atoiAll_plain c r (by omega) (by omega), Lib.parseMag, if_neg (by simp), parse_uint _ _ hd (by omega), hv]
    simp only [Lib.signless]
    rw [if_neg (by omega)]
theorem itoa_decs (n : Nat) : Lib.itoa (n : Int) = decs n := by
  unfold Lib.itoa
  rw [if_neg (by omega), Int.toNat_natCast, dec_digits]
/-- a text that is the string of a number -/
def numO (l : Bs) : Option Int := match Lib.atoiAll l with
  | .ok v => if Lib.itoa v = l then some v else none
  | _ => none
theorem numO_decs {n : Nat} (h : n < 1000000000) : numO (decs n) = some (n : Int) := by
  unfold numO
  rw [atoi_decs h]
  simp only
  rw [if_pos (itoa_decs n)]
theorem numO_nil : numO [] = none := rfl
theorem numO_is {l : Bs} {v : Int} (h : numO l = some v) : Lib.atoiAll l = .ok v ∧ Lib.itoa v = l := by
  unfold numO at h
  split at h
  · rename_i u hu
    split at h
    · rename_i c
      injection h with h
      subst h
      exact ⟨hu, c⟩
    · cases h
  · cases h
/-- the text before the first dot and the one behind it -/
def headL (l : Bs) : Bs := (Lib.cut l [46]).1
def tailL (l : Bs) : Bs := (Lib.cut l [46]).2.1
theorem idx_ge (l : Bs) : -1 ≤ Lib.index l [46] := Lib.index_ge l [46]
theorem idx_zero (l : Bs) : Lib.index (46 :: l) [46] = 0 := by
  unfold Lib.index
  rw [if_pos (by simp [List.isPrefixOf])]
theorem idx_cons {c : UInt8} (l : Bs) (h : c ≠ 46) : Lib.index (c :: l) [46] = if Lib.index l [46] = -1 then -1 else Lib.index l [46] + 1 := by
  rw [Lib.index, if_neg (by simpa [List.isPrefixOf] using fun e => h e.symm)]
  by_cases q : Lib.index l [46] = -1 <;> simp [q]
theorem cut_split : ∀ (a r : Bs), (∀ c ∈ a, c ≠ 46) → Lib.index (a ++ 46 :: r) [46] = a.length
  | [], r, _ => idx_zero r
  | c :: a, r, h => by
    have ih := cut_split a r (fun x hx => h x (by simp [hx]))
    rw [List.cons_append, idx_cons _ (h c (by simp)), ih, if_neg (by omega)]
    simp
theorem headL_app {a r : Bs} (h : ∀ c ∈ a, c ≠ 46) : headL (a ++ 46 :: r) = a ∧ tailL (a ++ 46 :: r) = r := by
  unfold headL tailL Lib.cut
  rw [cut_split a r h, if_pos (by omega)]
  simp
theorem idx_found : ∀ (l : Bs) (n : Nat), Lib.index l [46] = (n : Int) → l = l.take n ++ 46 :: l.drop (n + 1)
  | [], n, h => by
    have : Lib.index [] [46] = -1 := rfl
    omega
  | c :: l, n, h => by
    by_cases e : c = 46
    · subst e
      rw [idx_zero] at h
      obtain rfl : n = 0 := by omega
      simp
    · rw [idx_cons l e] at h
      split at h
      · omega
      · match n, h with
        | 0, h => have := idx_ge l; omega
        | n + 1, h =>
          have ih := idx_found l n (by omega)
          simp only [List.take_succ_cons, List.cons_append, List.drop_succ_cons]
          rw [← ih]
theorem cut_is {l : Bs} (h : tailL l ≠ []) : l = headL l ++ 46 :: tailL l := by
  unfold headL tailL Lib.cut at *
  split at h
  · rename_i c
    rw [if_pos c]
    have := idx_found l (Lib.index l [46]).toNat (by omega)
    simpa using this
  · simp at h
theorem cut_len (l : Bs) : (headL l).length ≤ l.length ∧ (tailL l).length ≤ l.length := by
  unfold headL tailL Lib.cut
  split <;> simp <;> omega
theorem dot_no {n : Nat} : ∀ c ∈ decs n, c ≠ 46 := by
  intro c hc e
  subst e
  have := decs_dgt n _ hc
  revert this; decide
theorem textL_cut (m : Nat) : headL (textL m) = decs (m / 96) ∧ tailL (textL m) = decs (m % 96) := by
  unfold textL
  exact headL_app (r := decs (m % 96)) dot_no
/-- what the program's Parse answers, by its parts -/
def parP (l : Bs) : Int × Nat := match numO (headL l), numO (tailL l) with
  | some a, some b => if okNS a b then (96 * a + b, 0) else (0, 5)
  | _, _ => (0, 5)
theorem okNS_is {a b : Int} (h : okNS a b = true) : ∃ n s : Nat, a = (n : Int) ∧ b = (s : Int) ∧ n < 400 ∧ s < 96 := by
  simp only [okNS, decide_eq_true_eq] at h
  exact ⟨a.toNat, b.toNat, by omega, by omega, by omega, by omega⟩
theorem parA_by (l : Bs) : parA l = parP l := by
  unfold parA
  cases hp : parseF l with
  | some m =>
    obtain ⟨h1, rfl⟩ := parseF_is hp
    unfold parP
    rw [(textL_cut m).1, (textL_cut m).2, numO_decs (by omega), numO_decs (by omega)]
    simp only
    rw [if_pos (by simp [okNS]; omega)]
    simp only [ansF]
    rw [show (96 : Int) * ((m / 96 : Nat) : Int) + ((m % 96 : Nat) : Int) = (m : Int) by omega]
  | none =>
    unfold parP
    cases ha : numO (headL l) with
    | none => rfl
    | some a =>
      cases hb : numO (tailL l) with
      | none => rfl
      | some b =>
        simp only
        by_cases ho : okNS a b = true
        · exfalso
          obtain ⟨n, s, rfl, rfl, hn, hs⟩ := okNS_is ho
          have h1 := (numO_is ha).2
          have h2 := (numO_is hb).2
          rw [itoa_decs] at h1 h2
          have hne : tailL l ≠ [] := by
            intro e
            rw [e, numO_nil] at hb
            cases hb
          have hl := cut_is hne
          rw [← h1, ← h2] at hl
          have ht : textL (96 * n + s) = l := by
            rw [hl, textL, show (96 * n + s) / 96 = n by omega, show (96 * n + s) % 96 = s by omega]
          rw [← ht, parseF_text (by omega)] at hp
          cases hp
        · rw [if_neg ho]; rfl
end Ca
end Go.Proofs.YtkjflpkokeckgaaDoor
