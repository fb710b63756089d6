/-
  Nights, slots and the sidereal angle (layer 9): pure facts.
-/
import Derived.WalkSmall
set_option linter.unusedVariables false
set_option maxRecDepth 100000
namespace Go.Proofs.Ytebkifhdbpeeoaa.Ca
/-- the sidereal angle of a moment -/
def sid (m : Nat) : Nat := (60 * (m % 96) + 16 * (m / 96)) % 5760
/-- a moment reaches an angle -/
def hits (m a : Nat) : Bool := decide ((sid m + 5760 - a) % 5760 < 60)
theorem sid_lt (m : Nat) : sid m < 5760 := Nat.mod_lt _ (by decide)
theorem sid_at (n s : Nat) (hs : s < 96) : sid (96 * n + s) = (60 * s + 16 * n) % 5760 := by
  unfold sid
  rw [show (96 * n + s) % 96 = s by omega, show (96 * n + s) / 96 = n by omega]
/-- the only slot of a night that reaches an angle -/
def slotOf (n a : Nat) : Nat := (96 - (16 * n + 5760 - a) % 5760 / 60) % 96
theorem slotOf_lt (n a : Nat) : slotOf n a < 96 := Nat.mod_lt _ (by decide)
theorem hits_slot {n s a : Nat} (hs : s < 96) (ha : a < 5760) : hits (96 * n + s) a = decide (s = slotOf n a) := by
  unfold hits slotOf
  rw [sid_at n s hs]
  congr 1
  apply propext
  obtain ⟨t, ht⟩ : ∃ t, t = (16 * n + 5760 - a) % 5760 := ⟨_, rfl⟩
  have h1 : ((60 * s + 16 * n) % 5760 + 5760 - a) % 5760 = (60 * s + t) % 5760 := by omega
  rw [h1, ← ht]
  have h2 : t < 5760 := by rw [ht]; exact Nat.mod_lt _ (by decide)
  clear ht h1
  omega
theorem hits_split (m a : Nat) (ha : a < 5760) : hits m a = decide (m % 96 = slotOf (m / 96) a) := by
  have h := hits_slot (n := m / 96) (s := m % 96) (a := a) (by omega) ha
  rwa [show 96 * (m / 96) + m % 96 = m by omega] at h
/-- the next night's slot is the same, or the one before -/
theorem slotOf_next (n a : Nat) (ha : a < 5760) : slotOf (n + 1) a = slotOf n a ∨ slotOf (n + 1) a + 1 = slotOf n a ∨ (slotOf n a = 0 ∧ slotOf (n + 1) a = 95) := by
  unfold slotOf
  obtain ⟨t, ht⟩ : ∃ t, t = (16 * n + 5760 - a) % 5760 := ⟨_, rfl⟩
  have h1 : (16 * (n + 1) + 5760 - a) % 5760 = (t + 16) % 5760 := by omega
  rw [h1, ← ht]
  have h2 : t < 5760 := by rw [ht]; exact Nat.mod_lt _ (by decide)
  clear ht h1
  omega
/-- at most 190 moments later an angle is reached -/
theorem hits_soon (m a : Nat) (ha : a < 5760) : ∃ x, m ≤ x ∧ x ≤ m + 190 ∧ hits x a = true := by
  have hp := slotOf_lt (m / 96) a
  by_cases h : m % 96 ≤ slotOf (m / 96) a
  · exact ⟨96 * (m / 96) + slotOf (m / 96) a, by omega, by omega, by rw [hits_slot hp ha]; simp⟩
  · have hq := slotOf_lt (m / 96 + 1) a
    have hn := slotOf_next (m / 96) a ha
    exact ⟨96 * (m / 96 + 1) + slotOf (m / 96 + 1) a, by omega, by omega, by rw [hits_slot hq ha]; simp⟩
/-- the first moment from m on that reaches an angle -/
def nextF (m a : Nat) : Option Nat := (List.range' m (38400 - m)).find? fun x => hits x a
theorem nextF_some {m a x : Nat} (h1 : m ≤ x) (h2 : x < 38400) (h3 : hits x a = true) (h4 : ∀ y, m ≤ y → y < x → hits y a = false) : nextF m a = some x := by
  unfold nextF
  have e : List.range' m (38400 - m) = List.range' m (x - m) ++ x :: List.range' (x + 1) (38399 - x) := by
    have := List.range'_append (s := m) (m := x - m) (n := 38400 - x) (step := 1)
    rw [show 1 * (x - m) = x - m by omega, show m + (x - m) = x by omega, show x - m + (38400 - x) = 38400 - m by omega, show 38400 - x = (38399 - x) + 1 by omega, List.range'_succ] at this
    exact this.symm
  rw [e, List.find?_append, List.find?_eq_none.2 (fun y hy => by
    rw [List.mem_range'_1] at hy
    rw [h4 y hy.1 (by omega)]; decide), Option.none_or, List.find?_cons_of_pos (by exact h3)]
theorem nextF_none {m a : Nat} (h : ∀ y, m ≤ y → y < 38400 → hits y a = false) : nextF m a = none := by
  unfold nextF
  rw [List.find?_eq_none]
  intro y hy
  rw [List.mem_range'_1] at hy
  rw [h y hy.1 (by omega)]; decide
theorem nextF_is {m a x : Nat} (h : nextF m a = some x) : m ≤ x ∧ x < 38400 ∧ hits x a = true ∧ ∀ y, m ≤ y → y < x → hits y a = false := by
  unfold nextF at h
  rw [List.find?_eq_some_iff_append] at h
  obtain ⟨h1, as, bs, h2, h3⟩ := h
  have hm : x ∈ List.range' m (38400 - m) := by rw [h2]; simp
  rw [List.mem_range'_1] at hm
  refine ⟨hm.1, by omega, h1, fun y hy1 hy2 => ?_⟩
  have hlen : as.length = x - m := by
    have hx : (List.range' m (38400 - m))[as.length]? = some x := by rw [h2]; simp
    have hlt : as.length < 38400 - m := by
      have := congrArg List.length h2
      simp at this; omega
    rw [List.getElem?_eq_getElem (by simpa using hlt), List.getElem_range'] at hx
    simp at hx; omega
  have hy : y ∈ as := by
    have hyl : y - m < as.length := by omega
    have : (List.range' m (38400 - m))[y - m]? = some as[y - m] := by rw [h2, List.getElem?_append_left hyl, List.getElem?_eq_getElem hyl]
    rw [List.getElem?_eq_getElem (by simp; omega), List.getElem_range'] at this
    simp at this
    have e : m + (y - m) = y := by omega
    rw [e] at this
    rw [this]; exact List.getElem_mem _
  have := h3 y hy
  simpa using this
theorem nextF_no {m a : Nat} (h : nextF m a = none) : ∀ y, m ≤ y → y < 38400 → hits y a = false := by
  unfold nextF at h
  rw [List.find?_eq_none] at h
  intro y h1 h2
  have := h y (by rw [List.mem_range'_1]; omega)
  simpa using this
theorem nextF_near {m a x : Nat} (ha : a < 5760) (h : nextF m a = some x) : x ≤ m + 190 := by
  obtain ⟨h1, h2, h3, h4⟩ := nextF_is h
  obtain ⟨y, y1, y2, y3⟩ := hits_soon m a ha
  rcases Nat.lt_or_ge (m + 190) x with hl | hl
  · have := h4 y y1 (by omega)
    rw [y3] at this; cases this
  · exact hl
theorem nextF_far {m a : Nat} (ha : a < 5760) (h : nextF m a = none) : 38400 ≤ m + 190 := by
  obtain ⟨y, y1, y2, y3⟩ := hits_soon m a ha
  rcases Nat.lt_or_ge (m + 190) 38400 with hl | hl
  · have := nextF_no h y y1 (by omega)
    rw [y3] at this; cases this
  · exact hl
/-- of the slots of a night so far, those that reach an angle -/
def cntF (n a : Nat) (k : Nat) : Nat := ((List.range k).filter fun s => hits (96 * n + s) a).length
theorem cntF_zero (n a : Nat) : cntF n a 0 = 0 := rfl
theorem cntF_succ (n a k : Nat) : cntF n a (k + 1) = cntF n a k + (if hits (96 * n + k) a then 1 else 0) := by
  unfold cntF
  rw [List.range_succ, List.filter_append, List.length_append]
  by_cases h : hits (96 * n + k) a = true
  · simp [h]
  · simp only [Bool.not_eq_true] at h; simp [h]
theorem cntF_le (n a : Nat) : ∀ k, cntF n a k ≤ k
  | 0 => Nat.le_refl _
  | k + 1 => by
    have := cntF_le n a k
    rw [cntF_succ]; split <;> omega
theorem cntF_one (n a : Nat) (ha : a < 5760) : cntF n a 96 = 1 := by
  have key : ∀ k, k ≤ 96 → cntF n a k = if slotOf n a < k then 1 else 0 := by
    intro k
    induction k with
    | zero => intro _; rfl
    | succ k ih =>
      intro hk
      rw [cntF_succ, ih (by omega), hits_slot (by omega) ha]
      by_cases h1 : slotOf n a < k
      · rw [if_pos h1, if_neg (by simp; omega), if_pos (by omega)]
      · by_cases h2 : k = slotOf n a
        · rw [if_neg h1, if_pos (by simp [h2]), if_pos (by omega)]
        · rw [if_neg h1, if_neg (by simp [h2]), if_neg (by omega)]
  rw [key 96 (by omega), if_pos (slotOf_lt n a)]
/-- from slot to slot, and from night to night -/
theorem sid_slot {n s : Nat} (hs : s + 1 < 96) : sid (96 * n + (s + 1)) = (sid (96 * n + s) + 60) % 5760 := by
  rw [sid_at n (s + 1) hs, sid_at n s (by omega)]; omega
theorem sid_night {n s : Nat} (hs : s < 96) : sid (96 * (n + 1) + s) = (sid (96 * n + s) + 16) % 5760 := by
  rw [sid_at (n + 1) s hs, sid_at n s hs]; omega
end Go.Proofs.Ytebkifhdbpeeoaa.Ca
