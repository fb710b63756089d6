/-
  Hour angles, heights, airmasses and windows (layer 11): pure facts.
-/
import Derived.Test.YtebkifhdbpeeoaaCaPure
import Derived.Test.YtebkifhdbpeeoaaSkPure
set_option linter.unusedVariables false
set_option maxRecDepth 100000
namespace Go.Proofs.Ytebkifhdbpeeoaa.Am
open Ca (sid sid_lt sid_at sid_slot sid_night)
open Sk (bnd)
/-- the hour angle of a column where the sidereal angle is s -/
def hr (s c : Nat) : Int :=
  if (s : Int) - 180 * c - 90 < -2880 then (s : Int) - 180 * c - 90 + 5760 else if 2879 < (s : Int) - 180 * c - 90 then (s : Int) - 180 * c - 90 - 5760 else (s : Int) - 180 * c - 90
theorem hr_cases (s c : Nat) : (hr s c = (s : Int) - 180 * c - 90 + 5760 ∧ (s : Int) - 180 * c - 90 < -2880) ∨ (hr s c = (s : Int) - 180 * c - 90 - 5760 ∧ 2879 < (s : Int) - 180 * c - 90) ∨ (hr s c = (s : Int) - 180 * c - 90 ∧ -2880 ≤ (s : Int) - 180 * c - 90 ∧ (s : Int) - 180 * c - 90 ≤ 2879) := by
  unfold hr
  by_cases h : (s : Int) - 180 * c - 90 < -2880
  · rw [if_pos h]; exact .inl ⟨rfl, h⟩
  · rw [if_neg h]
    by_cases h2 : 2879 < (s : Int) - 180 * c - 90
    · rw [if_pos h2]; exact .inr (.inl ⟨rfl, h2⟩)
    · rw [if_neg h2]; exact .inr (.inr ⟨rfl, by omega, by omega⟩)
theorem hr_range {s c : Nat} (hs : s < 5760) (hc : c < 32) : -2880 ≤ hr s c ∧ hr s c ≤ 2879 := by
  have := hr_cases s c; omega
theorem hr_mod (s c : Nat) : ∃ z : Int, hr s c = (s : Int) - 180 * c - 90 + 5760 * z := by
  rcases hr_cases s c with ⟨h, _⟩ | ⟨h, _⟩ | ⟨h, _⟩
  · exact ⟨1, by omega⟩
  · exact ⟨-1, by omega⟩
  · exact ⟨0, by omega⟩
theorem hr_column {s c : Nat} (hc : c < 32) : (hr s c - 180 - hr s ((c + 1) % 32)) % 5760 = 0 := by
  obtain ⟨y, hy⟩ := hr_mod s c
  obtain ⟨z, hz⟩ := hr_mod s ((c + 1) % 32)
  by_cases h : c = 31
  · subst h; omega
  · have : (c + 1) % 32 = c + 1 := by omega
    rw [this] at hz ⊢
    omega
theorem hr_slot {s c : Nat} : (hr s c + 60 - hr ((s + 60) % 5760) c) % 5760 = 0 := by
  obtain ⟨y, hy⟩ := hr_mod s c
  obtain ⟨z, hz⟩ := hr_mod ((s + 60) % 5760) c
  omega
theorem hr_night {s c : Nat} : (hr s c + 16 - hr ((s + 16) % 5760) c) % 5760 = 0 := by
  obtain ⟨y, hy⟩ := hr_mod s c
  obtain ⟨z, hz⟩ := hr_mod ((s + 16) % 5760) c
  omega
/-- the height at an hour angle with a difference of bands -/
def htA (b : Nat) (h : Int) : Int := 900 - 50 * (b : Int) - ((5 * h.natAbs / 16 : Nat) : Int)
def ht (t s m : Nat) : Int := htA (bnd (t / 32) s) (hr (sid m) (t % 32))
theorem htA_range {b : Nat} {h : Int} (hb : b ≤ 15) (h1 : -2880 ≤ h) (h2 : h ≤ 2879) : -750 ≤ htA b h ∧ htA b h ≤ 900 := by
  unfold htA; omega
theorem htA_mono {b c : Nat} {h k : Int} (hb : b ≤ c) (hk : h.natAbs ≤ k.natAbs) : htA c k ≤ htA b h := by
  unfold htA; omega
theorem ht_range {t s m : Nat} (ht' : t < 512) (hs : s < 16) : -750 ≤ ht t s m ∧ ht t s m ≤ 900 := by
  obtain ⟨h1, h2⟩ := hr_range (sid_lt m) (show t % 32 < 32 by omega)
  exact htA_range (by unfold bnd; omega) h1 h2
theorem hr_near {x c r : Nat} {K : Int} (hx : x < 5760) (hc : c < 32) (hr0 : r < 60) (h : (x : Int) - 180 * c - 90 = 30 - (r : Int) + 5760 * K) : (hr x c).natAbs ≤ 30 := by
  have hK : K = -1 ∨ K = 0 ∨ K = 1 := by omega
  have := hr_cases x c
  rcases hK with rfl | rfl | rfl <;> omega
/-- in each night there is a slot at which a column transits -/
theorem transit {n c : Nat} (hn : n < 400) (hc : c < 32) : ∃ s, s < 96 ∧ (hr (sid (96 * n + s)) c).natAbs ≤ 30 := by
  obtain ⟨z, hz⟩ : ∃ z, z = 180 * c + 120 + 5760 - (16 * n) % 5760 := ⟨_, rfl⟩
  refine ⟨z / 60 % 96, Nat.mod_lt _ (by decide), ?_⟩
  rw [sid_at _ _ (Nat.mod_lt _ (by decide))]
  obtain ⟨g, hg⟩ : ∃ g, g = 16 * n / 5760 := ⟨_, rfl⟩
  obtain ⟨e, he⟩ : ∃ e, e = z / 60 / 96 := ⟨_, rfl⟩
  obtain ⟨s, hs⟩ : ∃ s, s = z / 60 % 96 := ⟨_, rfl⟩
  obtain ⟨f, hf⟩ : ∃ f, f = (60 * s + 16 * n) / 5760 := ⟨_, rfl⟩
  obtain ⟨x, hx⟩ : ∃ x, x = (60 * s + 16 * n) % 5760 := ⟨_, rfl⟩
  rw [← hs, ← hx]
  have e1 : 16 * n = 5760 * g + 16 * n % 5760 := by omega
  have e2 : z / 60 = 96 * e + s := by omega
  have e3 : z = 60 * (z / 60) + z % 60 := by omega
  have e4 : 60 * s + 16 * n = 5760 * f + x := by omega
  have e5 : z % 60 < 60 := by omega
  have e6 : x < 5760 := by omega
  have e7 : 16 * n % 5760 < 5760 := by omega
  refine hr_near (r := z % 60) (K := 1 + (g : Int) - e - f) e6 hc e5 ?_
  generalize z / 60 = q at e2 e3
  generalize z % 60 = r at e3 e5
  generalize 16 * n % 5760 = g0 at hz e1 e7
  clear hs hf hx he hg
  omega
theorem transit_height {t s : Nat} {h : Int} (hh : h.natAbs ≤ 30) (b : Nat) : 891 - 50 * (b : Int) ≤ htA b h := by
  unfold htA; omega
/-- the windows of the slots before k, the last one first -/
def wr (p : Nat → Bool) : Nat → List (Nat × Nat)
  | 0 => []
  | k + 1 => if p k then (match wr p k with
    | [] => [(k, k)]
    | (f, u) :: r => if u + 1 = k then (f, k) :: r else (k, k) :: (f, u) :: r) else wr p k
def win (p : Nat → Bool) (k : Nat) : List (Nat × Nat) := (wr p k).reverse
theorem wr_no {p : Nat → Bool} {k : Nat} (h : p k = false) : wr p (k + 1) = wr p k := by
  rw [wr, h]; rfl
theorem wr_first {p : Nat → Bool} {k : Nat} (h : p k = true) (he : wr p k = []) : wr p (k + 1) = [(k, k)] := by
  rw [wr, h, he]; rfl
theorem wr_more {p : Nat → Bool} {k f u : Nat} {r : List (Nat × Nat)} (h : p k = true) (he : wr p k = (f, u) :: r) (hu : u + 1 = k) : wr p (k + 1) = (f, k) :: r := by
  rw [wr, h, he, if_pos rfl]; simp [hu]
theorem wr_new {p : Nat → Bool} {k f u : Nat} {r : List (Nat × Nat)} (h : p k = true) (he : wr p k = (f, u) :: r) (hu : ¬ u + 1 = k) : wr p (k + 1) = (k, k) :: (f, u) :: r := by
  rw [wr, h, he, if_pos rfl]; simp [hu]
theorem wr_len (p : Nat → Bool) : ∀ k, (wr p k).length ≤ k
  | 0 => Nat.le_refl 0
  | k + 1 => by
    have ih := wr_len p k
    cases h : p k with
    | false => rw [wr_no h]; omega
    | true =>
      cases he : wr p k with
      | nil => rw [wr_first h he]; simp
      | cons x r =>
        obtain ⟨f, u⟩ := x
        rw [he] at ih
        by_cases hu : u + 1 = k
        · rw [wr_more h he hu]; simp at ih ⊢; omega
        · rw [wr_new h he hu]; simp at ih ⊢; omega
/-- what the windows of the slots before k are like -/
structure Good (p : Nat → Bool) (k : Nat) (l : List (Nat × Nat)) : Prop where
  each : ∀ w ∈ l, w.1 ≤ w.2 ∧ w.2 < k
  inside : ∀ w ∈ l, ∀ s, w.1 ≤ s → s ≤ w.2 → p s = true
  all : ∀ s, s < k → p s = true → ∃ w ∈ l, w.1 ≤ s ∧ s ≤ w.2
  apart : l.Pairwise fun a b => b.2 + 1 < a.1
theorem wr_good (p : Nat → Bool) : ∀ k, Good p k (wr p k)
  | 0 => ⟨by simp [wr], by simp [wr], by intro s hs; omega, by simp [wr]⟩
  | k + 1 => by
    have ih := wr_good p k
    cases h : p k with
    | false =>
      rw [wr_no h]
      refine ⟨fun w hw => ?_, ih.inside, fun s hs hp => ?_, ih.apart⟩
      · have := ih.each w hw; omega
      · by_cases e : s = k
        · subst e; rw [h] at hp; cases hp
        · exact ih.all s (by omega) hp
    | true =>
      cases he : wr p k with
      | nil =>
        rw [wr_first h he]
        rw [he] at ih
        refine ⟨by simp, ?_, fun s hs hp => ?_, by simp⟩
        · intro w hw s h1 h2
          simp only [List.mem_singleton] at hw
          subst hw
          obtain rfl : s = k := by simp only at h1 h2; omega
          exact h
        · by_cases e : s = k
          · exact ⟨(k, k), by simp, by simp only; omega, by simp only; omega⟩
          · obtain ⟨w, hw, _⟩ := ih.all s (by omega) hp
            simp at hw
      | cons x r =>
        obtain ⟨f, u⟩ := x
        rw [he] at ih
        have hx := ih.each (f, u) (by simp)
        simp only at hx
        have hap := List.pairwise_cons.1 ih.apart
        by_cases hu : u + 1 = k
        · rw [wr_more h he hu]
          refine ⟨fun w hw => ?_, fun w hw s h1 h2 => ?_, fun s hs hp => ?_, List.pairwise_cons.2 ⟨fun b hb => hap.1 b hb, hap.2⟩⟩
          · rcases List.mem_cons.1 hw with rfl | hw
            · simp only; omega
            · have := ih.each w (by simp [hw]); omega
          · rcases List.mem_cons.1 hw with rfl | hw
            · simp only at h1 h2
              by_cases e : s = k
              · subst e; exact h
              · exact ih.inside (f, u) (by simp) s h1 (by simp only; omega)
            · exact ih.inside w (by simp [hw]) s h1 h2
          · by_cases e : s = k
            · exact ⟨(f, k), by simp, by simp only; omega, by simp only; omega⟩
            · obtain ⟨w, hw, h1, h2⟩ := ih.all s (by omega) hp
              rcases List.mem_cons.1 hw with rfl | hw
              · exact ⟨(f, k), by simp, h1, by simp only at h2 ⊢; omega⟩
              · exact ⟨w, by simp [hw], h1, h2⟩
        · rw [wr_new h he hu]
          refine ⟨fun w hw => ?_, fun w hw s h1 h2 => ?_, fun s hs hp => ?_, List.pairwise_cons.2 ⟨fun b hb => ?_, ih.apart⟩⟩
          · rcases List.mem_cons.1 hw with rfl | hw
            · simp only; omega
            · have := ih.each w hw; omega
          · rcases List.mem_cons.1 hw with rfl | hw
            · obtain rfl : s = k := by simp only at h1 h2; omega
              exact h
            · exact ih.inside w hw s h1 h2
          · by_cases e : s = k
            · exact ⟨(k, k), by simp, by simp only; omega, by simp only; omega⟩
            · obtain ⟨w, hw, h1, h2⟩ := ih.all s (by omega) hp
              exact ⟨w, by simp [hw], h1, h2⟩
          · simp only
            rcases List.mem_cons.1 hb with rfl | hb
            · simp only; omega
            · have h1 := hap.1 b hb
              simp only at h1
              omega
theorem win_len (p : Nat → Bool) (k : Nat) : (win p k).length ≤ k := by
  unfold win; rw [List.length_reverse]; exact wr_len p k
theorem win_each {p : Nat → Bool} {k : Nat} {w : Nat × Nat} (h : w ∈ win p k) : w.1 ≤ w.2 ∧ w.2 < k := (wr_good p k).each w (List.mem_reverse.1 h)
theorem win_apart (p : Nat → Bool) (k : Nat) : (win p k).Pairwise fun a b => a.2 + 1 < b.1 := by
  unfold win; exact List.pairwise_reverse.2 (wr_good p k).apart
/-- is a slot in one of some windows? -/
def inW (l : List (Nat × Nat)) (s : Nat) : Bool := l.any fun w => decide (w.1 ≤ s) && decide (s ≤ w.2)
theorem inW_win (p : Nat → Bool) {k s : Nat} (hs : s < k) : inW (win p k) s = p s := by
  rw [Bool.eq_iff_iff]
  simp only [inW, List.any_eq_true, Bool.and_eq_true, decide_eq_true_eq]
  constructor
  · rintro ⟨w, hw, h1, h2⟩
    exact (wr_good p k).inside w (List.mem_reverse.1 hw) s h1 h2
  · intro h
    obtain ⟨w, hw, h1, h2⟩ := (wr_good p k).all s hs h
    exact ⟨w, List.mem_reverse.2 hw, h1, h2⟩
/-- a window of a narrower condition lies within one of a wider one -/
theorem win_within {p q : Nat → Bool} {k : Nat} (hpq : ∀ s, s < k → p s = true → q s = true) {w : Nat × Nat} (hw : w ∈ win p k) : ∃ v ∈ win q k, v.1 ≤ w.1 ∧ w.2 ≤ v.2 := by
  have hw := List.mem_reverse.1 hw
  have G := wr_good p k
  have K := wr_good q k
  obtain ⟨w1, w2⟩ := G.each w hw
  obtain ⟨v, hv, h1, h2⟩ := K.all w.1 (by omega) (hpq _ (by omega) (G.inside w hw _ (Nat.le_refl _) w1))
  refine ⟨v, List.mem_reverse.2 hv, h1, ?_⟩
  rcases Nat.lt_or_ge v.2 w.2 with c | c
  · exfalso
    obtain ⟨u, hu, h3, h4⟩ := K.all (v.2 + 1) (by omega) (hpq _ (by omega) (G.inside w hw _ (by omega) (by omega)))
    have hne : u ≠ v := by rintro rfl; omega
    obtain ⟨hv1, _⟩ := K.each v hv
    obtain ⟨hu1, _⟩ := K.each u hu
    obtain ⟨i, hi, ei⟩ := List.getElem_of_mem hu
    obtain ⟨j, hj, ej⟩ := List.getElem_of_mem hv
    have pw := List.pairwise_iff_getElem.1 K.apart
    rcases Nat.lt_trichotomy i j with c1 | c1 | c1
    · have := pw i j hi hj c1; rw [ei, ej] at this; omega
    · subst c1; exact hne (ei.symm.trans ej)
    · have := pw j i hj hi c1; rw [ei, ej] at this; omega
  · exact c
end Go.Proofs.Ytebkifhdbpeeoaa.Am
