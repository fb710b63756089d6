/-
  The tiles that the program's Near goes through, band by band, and that they are the near ones (pure facts).
-/
import Derived.Test.YtaebejhncjadhaaSkAt
set_option linter.unusedVariables false
set_option maxRecDepth 100000
namespace Go.Proofs.Ytaebejhncjadhaa.Sk
/-- the tile that is reached by d bands and j columns from the first one -/
def rTile (t r d j : Nat) : Nat := 32 * (t / 32 + d - r) + (t % 32 + j + 32 - r) % 32
def rOk (t r d : Nat) : Bool := decide (r ≤ t / 32 + d ∧ t / 32 + d < r + 16)
def rRow (t r d : Nat) : Nat → List Nat
  | 0 => []
  | j + 1 => if rOk t r d then rRow t r d j ++ [rTile t r d j] else rRow t r d j
def rAll (t r m : Nat) : Nat → List Nat
  | 0 => []
  | d + 1 => rAll t r m d ++ rRow t r d m
theorem rRow_mem {t r d x : Nat} : ∀ n, x ∈ rRow t r d n ↔ rOk t r d = true ∧ ∃ j, j < n ∧ x = rTile t r d j
  | 0 => by simp [rRow]
  | n + 1 => by
    have ih := rRow_mem (t := t) (r := r) (d := d) (x := x) n
    unfold rRow
    cases h : rOk t r d with
    | false => rw [h] at ih; simpa using ih
    | true =>
      rw [h] at ih
      rw [if_pos rfl, List.mem_append, ih, List.mem_singleton]
      constructor
      · rintro (⟨-, j, h1, h2⟩ | h1)
        · exact ⟨rfl, j, by omega, h2⟩
        · exact ⟨rfl, n, by omega, h1⟩
      · rintro ⟨-, j, h1, h2⟩
        rcases Nat.lt_or_ge j n with h3 | h3
        · exact .inl ⟨rfl, j, h3, h2⟩
        · obtain rfl : j = n := by omega
          exact .inr h2
theorem rRow_len (t r d : Nat) : ∀ n, (rRow t r d n).length ≤ n
  | 0 => Nat.le_refl _
  | n + 1 => by
    have := rRow_len t r d n
    unfold rRow
    split
    · rw [List.length_append]; simp; omega
    · omega
theorem rRow_nodup {t r d : Nat} (hr : r ≤ 31) : ∀ n, n ≤ 32 → (rRow t r d n).Nodup
  | 0, _ => List.nodup_nil
  | n + 1, h => by
    have ih := rRow_nodup (t := t) (d := d) hr n (by omega)
    unfold rRow
    split
    · refine List.nodup_append.2 ⟨ih, by simp, ?_⟩
      intro a ha b hb
      obtain ⟨-, j, hj, rfl⟩ := (rRow_mem n).1 ha
      rw [List.mem_singleton] at hb
      subst hb
      unfold rTile
      omega
    · exact ih
theorem rAll_mem {t r m x : Nat} : ∀ D, x ∈ rAll t r m D ↔ ∃ d, d < D ∧ x ∈ rRow t r d m
  | 0 => by simp [rAll]
  | D + 1 => by
    rw [rAll, List.mem_append, rAll_mem D]
    constructor
    · rintro (⟨d, h1, h2⟩ | h)
      · exact ⟨d, by omega, h2⟩
      · exact ⟨D, by omega, h⟩
    · rintro ⟨d, h1, h2⟩
      rcases Nat.lt_or_ge d D with h3 | h3
      · exact .inl ⟨d, h3, h2⟩
      · obtain rfl : d = D := by omega
        exact .inr h2
theorem rAll_len (t r m : Nat) : ∀ D, (rAll t r m D).length ≤ D * m
  | 0 => by simp [rAll]
  | D + 1 => by
    have h1 := rAll_len t r m D
    have h2 := rRow_len t r D m
    rw [rAll, List.length_append, Nat.succ_mul]
    omega
theorem rAll_nodup {t r m : Nat} (hr : r ≤ 31) (hm : m ≤ 32) : ∀ D, (rAll t r m D).Nodup
  | 0 => List.nodup_nil
  | D + 1 => by
    have ih := rAll_nodup (t := t) hr hm D
    refine List.nodup_append.2 ⟨ih, rRow_nodup hr m hm, ?_⟩
    intro a ha b hb e
    subst e
    obtain ⟨d, hd, ha⟩ := (rAll_mem D).1 ha
    obtain ⟨o1, j1, h1, e1⟩ := (rRow_mem m).1 ha
    obtain ⟨o2, j2, h2, e2⟩ := (rRow_mem m).1 hb
    simp only [rOk, decide_eq_true_eq] at o1 o2
    unfold rTile at e1 e2
    omega
theorem raw_mem {t r x : Nat} (ht : t < 512) (hr : r ≤ 31) : x ∈ rAll t r (min (2 * r + 1) 32) (2 * r + 1) ↔ x ∈ nea t r := by
  rw [nea_mem, rAll_mem]
  constructor
  · rintro ⟨d, hd, hx⟩
    obtain ⟨o1, j, hj, e⟩ := (rRow_mem _).1 hx
    simp only [rOk, decide_eq_true_eq] at o1
    unfold rTile at e
    have h1 : x / 32 = t / 32 + d - r := by omega
    have h2 : x % 32 = (t % 32 + j + 32 - r) % 32 := by omega
    refine ⟨by omega, ?_⟩
    have hc := aro_cases (t % 32) (x % 32)
    unfold dis bnd
    refine Nat.max_le.2 ⟨by omega, ?_⟩
    clear e h1 hx hd o1
    omega
  · rintro ⟨hx, hd⟩
    have h1 : bnd (t / 32) (x / 32) ≤ r := Nat.le_trans (Nat.le_max_left _ _) hd
    have h2 : aro (t % 32) (x % 32) ≤ r := Nat.le_trans (Nat.le_max_right _ _) hd
    have hc := aro_cases (t % 32) (x % 32)
    unfold bnd at h1
    refine ⟨x / 32 + r - t / 32, by omega, (rRow_mem _).2 ⟨?_, (x % 32 + 32 + r - t % 32) % 32, ?_, ?_⟩⟩
    · simp only [rOk, decide_eq_true_eq]; omega
    · clear h1 hd
      omega
    · unfold rTile
      have k1 : (t % 32 + (x % 32 + 32 + r - t % 32) % 32 + 32 - r) % 32 = x % 32 := by
        clear h1 h2 hd hc
        omega
      rw [k1]
      omega
theorem raw_perm {t r : Nat} (ht : t < 512) (hr : r ≤ 31) : (rAll t r (min (2 * r + 1) 32) (2 * r + 1)).Perm (nea t r) :=
  (List.perm_ext_iff_of_nodup (rAll_nodup hr (Nat.min_le_right _ _) _) ((nea_up t r).imp (fun h => Nat.ne_of_lt h))).2 fun _ => raw_mem ht hr
theorem intsN_sorted {l : List Nat} (h : l.Pairwise (· < ·)) : (intsN l).Pairwise (· ≤ ·) := by
  unfold intsN
  rw [List.pairwise_map]
  exact h.imp fun h => by omega
theorem raw_sorted {t r : Nat} (ht : t < 512) (hr : r ≤ 31) : (intsN (rAll t r (min (2 * r + 1) 32) (2 * r + 1))).mergeSort (fun x y => decide (x ≤ y)) = intsN (nea t r) := by
  have hp : ((intsN (rAll t r (min (2 * r + 1) 32) (2 * r + 1))).mergeSort (fun x y => decide (x ≤ y))).Perm (intsN (nea t r)) := (List.mergeSort_perm _ _).trans ((raw_perm ht hr).map _)
  have hs : ((intsN (rAll t r (min (2 * r + 1) 32) (2 * r + 1))).mergeSort (fun x y => decide (x ≤ y))).Pairwise (· ≤ ·) :=
    (List.pairwise_mergeSort (le := fun x y : Int => decide (x ≤ y)) (fun a b c h1 h2 => by simp at *; omega) (fun a b => by simp; omega) _).imp (fun h => by simpa using h)
  exact hp.eq_of_pairwise (fun a b _ _ h1 h2 => Int.le_antisymm h1 h2) hs (intsN_sorted (nea_up t r))
end Go.Proofs.Ytaebejhncjadhaa.Sk
