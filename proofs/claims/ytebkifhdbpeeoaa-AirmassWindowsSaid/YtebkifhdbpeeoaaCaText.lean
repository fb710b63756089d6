/-
  The strings of moments (layer 9): pure facts.
-/
import Derived.Test.YtebkifhdbpeeoaaCaPure
set_option linter.unusedVariables false
set_option maxRecDepth 100000
namespace Go.Proofs.Ytebkifhdbpeeoaa.Ca
abbrev Bs := List UInt8
def bl (s : ByteArray) : Bs := s.data.toList
def ba (l : Bs) : ByteArray := ⟨l.toArray⟩
theorem bl_ba (l : Bs) : bl (ba l) = l := by simp [bl, ba]
theorem ba_bl (s : ByteArray) : ba (bl s) = s := by simp [bl, ba]
theorem bl_len (s : ByteArray) : (bl s).length = s.size := by simp [bl]
theorem bl_inj {s t : ByteArray} (h : bl s = bl t) : s = t := by rw [← ba_bl s, h, ba_bl]
theorem ba_inj {l m : Bs} (h : ba l = ba m) : l = m := by rw [← bl_ba l, h, bl_ba]
theorem ba_size (l : Bs) : (ba l).size = l.length := by rw [← bl_len, bl_ba]
theorem bl_app (s t : ByteArray) : bl (s ++ t) = bl s ++ bl t := by simp [bl]
theorem ba_app (l m : Bs) : ba (l ++ m) = ba l ++ ba m := bl_inj (by rw [bl_app, bl_ba, bl_ba, bl_ba])
theorem bl_get {s : ByteArray} {k : Nat} (h : k < s.size) : (bl s)[k]'(by rw [bl_len]; exact h) = s[k] := by simp [bl, ByteArray.getElem_eq_getElem_data]
theorem bl_ext (s : ByteArray) (i j : Nat) : bl (s.extract i j) = ((bl s).drop i).take (j - i) := by
  simp only [bl, ByteArray.data_extract, Array.toList_extract]
def dgt (c : UInt8) : Bool := 48 ≤ c.toNat && c.toNat ≤ 57
/-- a number's decimal digits -/
def decs (n : Nat) : Bs := if h : n < 10 then [UInt8.ofNat (48 + n)] else decs (n / 10) ++ [UInt8.ofNat (48 + n % 10)]
termination_by n
decreasing_by omega
theorem decs_small {n : Nat} (h : n < 10) : decs n = [UInt8.ofNat (48 + n)] := by rw [decs, dif_pos h]
theorem decs_big {n : Nat} (h : ¬ n < 10) : decs n = decs (n / 10) ++ [UInt8.ofNat (48 + n % 10)] := by rw [decs, dif_neg h]
theorem digit_nat {d : Nat} (h : d < 10) : (UInt8.ofNat (48 + d)).toNat = 48 + d := by
  rw [UInt8.toNat_ofNat']; omega
theorem decs_dgt : ∀ (n : Nat), ∀ d ∈ decs n, dgt d = true := by
  intro n
  induction n using Nat.strongRecOn with
  | ind n ih =>
    intro d hd
    by_cases h : n < 10
    · rw [decs_small h, List.mem_singleton] at hd
      subst hd
      unfold dgt
      rw [digit_nat h]
      simp; omega
    · rw [decs_big h, List.mem_append, List.mem_singleton] at hd
      rcases hd with hd | rfl
      · exact ih (n / 10) (by omega) d hd
      · unfold dgt
        rw [digit_nat (Nat.mod_lt n (by omega))]
        have := Nat.mod_lt n (show 10 > 0 by omega)
        simp; omega
def val (n : Nat) (l : Bs) : Nat := l.foldl (fun n c => 10 * n + (c.toNat - 48)) n
theorem decs_val : ∀ (n : Nat), val 0 (decs n) = n := by
  intro n
  induction n using Nat.strongRecOn with
  | ind n ih =>
    by_cases h : n < 10
    · rw [decs_small h]
      simp [val]
      rw [Nat.mod_eq_of_lt (by omega)]; omega
    · rw [decs_big h, val, List.foldl_append]
      have := ih (n / 10) (by omega)
      rw [val] at this
      rw [this, List.foldl_cons, List.foldl_nil, digit_nat (Nat.mod_lt n (by omega))]
      omega
theorem decs_pos (n : Nat) : 0 < (decs n).length := by
  rw [decs]
  split <;> simp
theorem decs_len : ∀ (k n : Nat), n < 10 ^ (k + 1) → (decs n).length ≤ k + 1
  | 0, n, h => by rw [decs_small (by omega)]; simp
  | k + 1, n, h => by
    by_cases h1 : n < 10
    · rw [decs_small h1]; simp
    · rw [decs_big h1, List.length_append]
      have := decs_len k (n / 10) (by rw [Nat.div_lt_iff_lt_mul (by omega), ← Nat.pow_succ]; exact h)
      simp; omega
/-- the string of a moment -/
def textL (m : Nat) : Bs := decs (m / 96) ++ 46 :: decs (m % 96)
theorem textL_len {m : Nat} (h : m < 38400) : (textL m).length ≤ 6 := by
  have h1 := decs_len 2 (m / 96) (by omega)
  have h2 := decs_len 1 (m % 96) (by omega)
  simp only [textL, List.length_append, List.length_cons]; omega
/-- night, slot and dots so far -/
def step (n s d : Nat) (c : UInt8) : Option (Nat × Nat × Nat) :=
  if c.toNat = 46 then some (n, s, d + 1) else if dgt c = false then none else if d = 0 then some (10 * n + (c.toNat - 48), s, d) else some (n, 10 * s + (c.toNat - 48), d)
def run : Nat → Nat → Nat → Bs → Option (Nat × Nat × Nat)
  | n, s, d, [] => some (n, s, d)
  | n, s, d, c :: r => match step n s d c with
    | none => none
    | some (n', s', d') => run n' s' d' r
theorem dgt_dot {c : UInt8} (h : dgt c = true) : c.toNat ≠ 46 := by
  simp only [dgt, Bool.and_eq_true, decide_eq_true_eq] at h; omega
theorem run_night : ∀ (l : Bs) (n s : Nat) (r : Bs), (∀ c ∈ l, dgt c = true) → run n s 0 (l ++ r) = run (val n l) s 0 r
  | [], n, s, r, _ => rfl
  | c :: l, n, s, r, h => by
    have hc := h c (by simp)
    rw [List.cons_append, run, step, if_neg (dgt_dot hc), if_neg (by rw [hc]; decide), if_pos rfl]
    exact run_night l _ s r (fun d hd => h d (by simp [hd]))
theorem run_slot : ∀ (l : Bs) (n s d : Nat) (r : Bs), d ≠ 0 → (∀ c ∈ l, dgt c = true) → run n s d (l ++ r) = run n (val s l) d r
  | [], n, s, d, r, _, _ => rfl
  | c :: l, n, s, d, r, hd, h => by
    have hc := h c (by simp)
    rw [List.cons_append, run, step, if_neg (dgt_dot hc), if_neg (by rw [hc]; decide), if_neg hd]
    exact run_slot l n _ d r hd (fun x hx => h x (by simp [hx]))
theorem run_text (m : Nat) : run 0 0 0 (textL m) = some (m / 96, m % 96, 1) := by
  rw [textL, run_night _ _ _ _ (decs_dgt _), decs_val, run, step, if_pos (by decide)]
  have := run_slot (decs (m % 96)) (m / 96) 0 1 [] (by decide) (decs_dgt _)
  rw [List.append_nil, decs_val] at this
  exact this
theorem textL_inj {m k : Nat} (h : textL m = textL k) : m = k := by
  have h1 := run_text m
  rw [h, run_text k] at h1
  simp only [Option.some.injEq, Prod.mk.injEq] at h1
  omega
/-- the moment with a string -/
def parseF (l : Bs) : Option Nat := (List.range 38400).find? fun m => textL m == l
theorem parseF_text {m : Nat} (h : m < 38400) : parseF (textL m) = some m := by
  unfold parseF
  cases hf : (List.range 38400).find? fun k => textL k == textL m with
  | none =>
    rw [List.find?_eq_none] at hf
    have := hf m (by simpa using h)
    simp at this
  | some k =>
    have := List.find?_some hf
    rw [beq_iff_eq] at this
    rw [textL_inj this]
theorem parseF_is {l : Bs} {m : Nat} (h : parseF l = some m) : m < 38400 ∧ textL m = l := by
  unfold parseF at h
  have h1 := List.find?_some h
  have h2 := List.mem_of_find?_eq_some h
  exact ⟨by simpa using h2, by simpa using h1⟩
def pickF (l : Bs) : Option (Nat × Nat × Nat) → Option Nat
  | none => none
  | some (n, s, _) => if n < 400 ∧ s < 96 ∧ textL (96 * n + s) = l then some (96 * n + s) else none
/-- how the document's own Parse finds it -/
theorem parseF_run (l : Bs) : parseF l = pickF l (run 0 0 0 (l.take 8)) := by
  unfold pickF
  cases hp : parseF l with
  | some m =>
    obtain ⟨h1, h2⟩ := parseF_is hp
    have h3 := textL_len h1
    rw [h2] at h3
    rw [List.take_of_length_le (by omega), ← h2, run_text]
    simp only
    rw [show 96 * (m / 96) + m % 96 = m by omega, if_pos ⟨by omega, by omega, rfl⟩]
  | none =>
    cases hr : run 0 0 0 (l.take 8) with
    | none => rfl
    | some t =>
      obtain ⟨n, s, d⟩ := t
      simp only
      rw [if_neg]
      rintro ⟨h1, h2, h3⟩
      rw [← h3, parseF_text (by omega)] at hp
      cases hp
end Go.Proofs.Ytebkifhdbpeeoaa.Ca
