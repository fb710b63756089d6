/-
  Windows slot by slot (layer 11): those that have ended, where the last one began, and whether it is open.
-/
import Derived.Test.YtebkifhdbpeeoaaAmAt
set_option linter.unusedVariables false
set_option maxRecDepth 100000
namespace Go.Proofs.Ytebkifhdbpeeoaa.Am
/-- a slot comes: is it high enough? -/
def kps (x : List (Nat × Nat) × Nat × Bool) (k : Nat) (b : Bool) : List (Nat × Nat) × Nat × Bool :=
  (if x.2.2 && !b then x.1 ++ [(x.2.1, k - 1)] else x.1, if b && !x.2.2 then k else x.2.1, b)
/-- what the slots before k leave -/
def stp (p : Nat → Bool) : Nat → List (Nat × Nat) × Nat × Bool
  | 0 => ([], 0, false)
  | k + 1 => kps (stp p k) k (p k)
/-- the windows that have ended, and the open one -/
structure Opn (p : Nat → Bool) (k : Nat) (x : List (Nat × Nat) × Nat × Bool) : Prop where
  yes : x.2.2 = true → 0 < k ∧ wr p k = (x.2.1, k - 1) :: x.1.reverse
  no : x.2.2 = false → wr p k = x.1.reverse ∧ ∀ w ∈ wr p k, w.2 + 1 ≠ k
  len : x.1.length ≤ k
  beg : x.2.1 ≤ k
theorem stp_opn (p : Nat → Bool) : ∀ k, Opn p k (stp p k)
  | 0 => ⟨by simp [stp], by simp [stp, wr], by simp [stp], by simp [stp]⟩
  | k + 1 => by
    have ih := stp_opn p k
    have G := wr_good p k
    rw [stp]
    obtain ⟨⟨l, f, o⟩, hx⟩ : ∃ x, x = stp p k := ⟨_, rfl⟩
    rw [← hx] at ih ⊢
    clear hx
    have i1 := ih.yes
    have i2 := ih.no
    have i3 := ih.len
    have i4 := ih.beg
    simp only at i1 i2 i3 i4
    cases h : p k with
    | true =>
      cases o with
      | true =>
        obtain ⟨h0, he⟩ := i1 rfl
        refine ⟨fun _ => ⟨by omega, ?_⟩, fun hn => by simp [kps] at hn, by simp [kps]; omega, by simp [kps]; omega⟩
        rw [wr_more h he (by omega)]
        simp [kps]
      | false =>
        obtain ⟨he, hne⟩ := i2 rfl
        refine ⟨fun _ => ⟨by omega, ?_⟩, fun hn => by simp [kps] at hn, by simp [kps]; omega, by simp [kps]⟩
        cases hw : wr p k with
        | nil =>
          rw [wr_first h hw]
          rw [hw] at he
          simp [kps, ← he]
        | cons x r =>
          obtain ⟨a, u⟩ := x
          have hu : ¬ u + 1 = k := hne (a, u) (by rw [hw]; simp)
          rw [wr_new h hw hu]
          rw [hw] at he
          simp [kps, ← he]
    | false =>
      have hq : ∀ w ∈ wr p (k + 1), w.2 + 1 ≠ k + 1 := by
        intro w hw
        rw [wr_no h] at hw
        have := (G.each w hw).2
        omega
      cases o with
      | true =>
        obtain ⟨h0, he⟩ := i1 rfl
        refine ⟨fun hn => by simp [kps] at hn, fun _ => ⟨?_, hq⟩, by simp [kps]; omega, by simp [kps]; omega⟩
        rw [wr_no h, he]
        simp [kps]
      | false =>
        obtain ⟨he, hne⟩ := i2 rfl
        refine ⟨fun hn => by simp [kps] at hn, fun _ => ⟨?_, hq⟩, by simp [kps]; omega, by simp [kps]; omega⟩
        rw [wr_no h, he]
        simp [kps]
/-- at the end of the night the open window ends -/
theorem stp_end (p : Nat → Bool) (k : Nat) : (kps (stp p k) k false).1 = win p k := by
  have ih := stp_opn p k
  obtain ⟨⟨l, f, o⟩, hx⟩ : ∃ x, x = stp p k := ⟨_, rfl⟩
  rw [← hx] at ih ⊢
  unfold win
  cases o with
  | true => rw [(ih.yes rfl).2]; simp [kps]
  | false => rw [(ih.no rfl).1]; simp [kps]
/-- the same over numbers, for any slots -/
def kpI (x : List (Int × Int) × Int × Bool) (k : Int) (b : Bool) : List (Int × Int) × Int × Bool :=
  (if x.2.2 && !b then x.1 ++ [(x.2.1, k - 1)] else x.1, if b && !x.2.2 then k else x.2.1, b)
def sl (x : Nat) : Nat := x % 96
theorem sl_lt (x : Nat) : sl x < 96 := Nat.mod_lt _ (by decide)
theorem sl_id {x : Nat} (h : x < 96) : sl x = x := Nat.mod_eq_of_lt h
def fol (p : Nat → Bool) : List Nat → List (Int × Int) × Int × Bool
  | l => l.foldl (fun x y => kpI x (sl y : Nat) (p (sl y))) ([], 0, false)
theorem fol_nil (p : Nat → Bool) : fol p [] = ([], 0, false) := rfl
theorem fol_snoc (p : Nat → Bool) (l : List Nat) (y : Nat) : fol p (l ++ [y]) = kpI (fol p l) (sl y : Nat) (p (sl y)) := by
  simp [fol, List.foldl_append]
theorem kpI_len (x : List (Int × Int) × Int × Bool) (k : Int) (b : Bool) : (kpI x k b).1.length ≤ x.1.length + 1 := by
  unfold kpI
  cases x.2.2 && !b <;> simp
theorem fol_len (p : Nat → Bool) (l : List Nat) : (fol p l).1.length ≤ l.length := by
  suffices h : ∀ (l : List Nat) x, (l.foldl (fun x y => kpI x (sl y : Nat) (p (sl y))) x).1.length ≤ x.1.length + l.length by
    have := h l ([], 0, false)
    simpa [fol] using this
  intro l
  induction l with
  | nil => intro x; simp
  | cons y l ih =>
    intro x
    rw [List.foldl_cons]
    have h1 := ih (kpI x (sl y : Nat) (p (sl y)))
    have h2 := kpI_len x (sl y : Nat) (p (sl y))
    rw [List.length_cons]
    omega
theorem intsS_snoc (l : List (Nat × Nat)) (a b : Nat) : intsS (l ++ [(a, b)]) = intsS l ++ [((a : Int), (b : Int))] := by simp [intsS]
theorem kps_ints {p : Nat → Bool} {k : Nat} {x : List (Nat × Nat) × Nat × Bool} (h : Opn p k x) (b : Bool) :
    kpI (intsS x.1, (x.2.1 : Int), x.2.2) (k : Int) b = (intsS (kps x k b).1, ((kps x k b).2.1 : Int), (kps x k b).2.2) := by
  obtain ⟨l, f, o⟩ := x
  have h0 : o = true → 0 < k := fun e => (h.yes e).1
  cases o <;> cases b
  · simp [kpI, kps]
  · simp [kpI, kps]
  · have := h0 rfl
    simp only [kpI, kps, Bool.not_false, Bool.and_self, if_true, intsS_snoc, Bool.not_true]
    rw [show ((k - 1 : Nat) : Int) = (k : Int) - 1 by omega]
    simp
  · simp [kpI, kps]
theorem fol_range (p : Nat → Bool) : ∀ k, k ≤ 96 → fol p (List.range k) = (intsS (stp p k).1, ((stp p k).2.1 : Int), (stp p k).2.2)
  | 0, _ => rfl
  | k + 1, h => by
    rw [List.range_succ, fol_snoc, fol_range p k (by omega), sl_id (by omega), kps_ints (stp_opn p k), stp]
/-- the windows of a night -/
theorem fol_end (p : Nat → Bool) : (kpI (fol p (List.range 96)) 96 false).1 = intsS (win p 96) := by
  rw [fol_range p 96 (Nat.le_refl _)]
  have := kps_ints (stp_opn p 96) false
  rw [show ((96 : Nat) : Int) = 96 from rfl] at this
  rw [this, stp_end]
end Go.Proofs.Ytebkifhdbpeeoaa.Am
