/-
  Plain mathematics of the trees of layer 2: roots, paths and links over digests as plain functions; what a path or a link that proves something binds, or else two different texts have one digest.
-/
import Derived.Test.YtbiekbppenccdaaDoorDigLib
set_option linter.unusedVariables false
namespace Go.Proofs.YtbiekbppenccdaaDoor
open Go.RowKit

/-- the greatest power of two below n, by doubling -/
def halfGo : Nat → Nat → Nat → Nat
  | 0, k, _ => k
  | f + 1, k, n => if 2 * k < n then halfGo f (2 * k) n else k
def half (n : Nat) : Nat := halfGo n 1 n
theorem halfGo_end (f k n : Nat) (h : ¬ 2 * k < n) : halfGo f k n = k := by
  cases f with
  | zero => rfl
  | succ f => simp [halfGo, h]
theorem halfGo_spec (f k n : Nat) (h1 : 1 ≤ k) (h2 : k < n) (h3 : n ≤ f + k) : 1 ≤ halfGo f k n ∧ halfGo f k n < n ∧ n ≤ 2 * halfGo f k n := by
  induction f generalizing k with
  | zero => omega
  | succ f ih =>
    by_cases h : 2 * k < n
    · rw [halfGo, if_pos h]; exact ih (2 * k) (by omega) h (by omega)
    · rw [halfGo_end _ _ _ h]; omega
theorem half_spec {n : Nat} (h : 2 ≤ n) : 1 ≤ half n ∧ half n < n ∧ n ≤ 2 * half n := halfGo_spec n 1 n (by omega) (by omega) (by omega)
theorem half_pos {n : Nat} (h : 2 ≤ n) : 1 ≤ half n := (half_spec h).1
theorem half_lt {n : Nat} (h : 2 ≤ n) : half n < n := (half_spec h).2.1
theorem half_le {n : Nat} (h : 2 ≤ n) : n ≤ 2 * half n := (half_spec h).2.2
theorem halfGo_pow (f k n j : Nat) (hk : k = 2 ^ j) : ∃ i, halfGo f k n = 2 ^ i := by
  induction f generalizing k j with
  | zero => exact ⟨j, hk⟩
  | succ f ih =>
    by_cases h : 2 * k < n
    · rw [halfGo, if_pos h]; exact ih (2 * k) (j + 1) (by rw [hk, Nat.pow_succ]; omega)
    · rw [halfGo_end _ _ _ h]; exact ⟨j, hk⟩
theorem half_pow (n : Nat) : ∃ i, half n = 2 ^ i := halfGo_pow n 1 n 0 rfl
/-- it is the only one -/
theorem pow_unique {a b n : Nat} (ha : 2 ^ a < n) (ha2 : n ≤ 2 * 2 ^ a) (hb : 2 ^ b < n) (hb2 : n ≤ 2 * 2 ^ b) : a = b := by
  rcases Nat.lt_trichotomy a b with h | h | h
  · have : 2 ^ (a + 1) ≤ 2 ^ b := Nat.pow_le_pow_right (by omega) h
    rw [Nat.pow_succ] at this; omega
  · exact h
  · have : 2 ^ (b + 1) ≤ 2 ^ a := Nat.pow_le_pow_right (by omega) h
    rw [Nat.pow_succ] at this; omega
theorem half_mid {n m : Nat} (hn : 2 ≤ n) (h1 : half n < m) (h2 : m ≤ n) : half m = half n := by
  have hm : 2 ≤ m := by have := half_pos hn; omega
  obtain ⟨i, hi⟩ := half_pow n
  obtain ⟨j, hj⟩ := half_pow m
  have a1 := half_lt hm
  have a2 := half_le hm
  have a3 := half_le hn
  rw [hi] at h1 a3 ⊢
  rw [hj] at a1 a2 ⊢
  rw [pow_unique (n := m) a1 a2 h1 (by omega)]

def kEmpty : ByteArray := ⟨#[101, 109, 112, 116, 121]⟩
def kLeaf : ByteArray := ⟨#[108, 101, 97, 102]⟩
def kNode : ByteArray := ⟨#[110, 111, 100, 101]⟩
def emptyB : ByteArray := sumB (joinB [kEmpty])
def leafB (s : ByteArray) : ByteArray := sumB (joinB [kLeaf, s])
def nodeT (a b : ByteArray) : ByteArray := joinB [kNode, a, b]
def nodeB (a b : ByteArray) : ByteArray := sumB (nodeT a b)
theorem joinB_inj {l m : List ByteArray} (h : joinB l = joinB m) : l = m := joinL_inj (by
  have := congrArg (fun b : ByteArray => b.data.toList) h
  simpa [joinB] using this)
theorem nodeT_inj {a b c d : ByteArray} (h : nodeT a b = nodeT c d) : a = c ∧ b = d := by
  have := joinB_inj h
  simp at this
  exact this

/-- the root of a list of digests -/
def rootB (l : List ByteArray) : ByteArray :=
  if h : 2 ≤ l.length then nodeB (rootB (l.take (half l.length))) (rootB (l.drop (half l.length))) else l.headD emptyB
  termination_by l.length
  decreasing_by
    · rw [List.length_take]; have := half_lt h; omega
    · rw [List.length_drop]; have := half_pos h; omega
theorem rootB_big {l : List ByteArray} (h : 2 ≤ l.length) : rootB l = nodeB (rootB (l.take (half l.length))) (rootB (l.drop (half l.length))) := by rw [rootB, dif_pos h]
theorem rootB_small {l : List ByteArray} (h : ¬ 2 ≤ l.length) : rootB l = l.headD emptyB := by rw [rootB, dif_neg h]
theorem rootB_nil : rootB [] = emptyB := rootB_small (by simp)
theorem rootB_one (a : ByteArray) : rootB [a] = a := rootB_small (by simp)
/-- the path of an element -/
def pathB (l : List ByteArray) (i : Nat) : List ByteArray :=
  if h : 2 ≤ l.length then
    if i < half l.length then pathB (l.take (half l.length)) i ++ [rootB (l.drop (half l.length))]
    else pathB (l.drop (half l.length)) (i - half l.length) ++ [rootB (l.take (half l.length))]
  else []
  termination_by l.length
  decreasing_by
    · rw [List.length_take]; have := half_lt h; omega
    · rw [List.length_drop]; have := half_pos h; omega
/-- its length -/
def lenB (n i : Nat) : Nat :=
  if h : 2 ≤ n then
    if i < half n then 1 + lenB (half n) i else 1 + lenB (n - half n) (i - half n)
  else 0
  termination_by n
  decreasing_by
    · exact half_lt h
    · have := half_pos h; omega
/-- the root that a path of the right length makes of a digest -/
def upB (n i : Nat) (d : ByteArray) (p : List ByteArray) : ByteArray :=
  if h : 2 ≤ n then
    if i < half n then nodeB (upB (half n) i d p.dropLast) (p.getLastD emptyB)
    else nodeB (p.getLastD emptyB) (upB (n - half n) (i - half n) d p.dropLast)
  else d
  termination_by n
  decreasing_by
    · exact half_lt h
    · have := half_pos h; omega
/-- the link of m in a list -/
def linkB (l : List ByteArray) (m : Nat) (whole : Bool) : List ByteArray :=
  if m = l.length then (if whole then [] else [rootB l])
  else if h : 2 ≤ l.length then
    if m ≤ half l.length then linkB (l.take (half l.length)) m whole ++ [rootB (l.drop (half l.length))]
    else linkB (l.drop (half l.length)) (m - half l.length) false ++ [rootB (l.take (half l.length))]
  else []
  termination_by l.length
  decreasing_by
    · rw [List.length_take]; have := half_lt h; omega
    · rw [List.length_drop]; have := half_pos h; omega
def longB (n m : Nat) (whole : Bool) : Nat :=
  if m = n then (if whole then 0 else 1)
  else if h : 2 ≤ n then
    if m ≤ half n then 1 + longB (half n) m whole else 1 + longB (n - half n) (m - half n) false
  else 0
  termination_by n
  decreasing_by
    · exact half_lt h
    · have := half_pos h; omega
/-- the two roots that a link of the right length makes -/
def bothB (n m : Nat) (whole : Bool) (old : ByteArray) (p : List ByteArray) : ByteArray × ByteArray :=
  if m = n then (if whole then (old, old) else (p.headD emptyB, p.headD emptyB))
  else if h : 2 ≤ n then
    if m ≤ half n then ((bothB (half n) m whole old p.dropLast).1, nodeB (bothB (half n) m whole old p.dropLast).2 (p.getLastD emptyB))
    else (nodeB (p.getLastD emptyB) (bothB (n - half n) (m - half n) false old p.dropLast).1, nodeB (p.getLastD emptyB) (bothB (n - half n) (m - half n) false old p.dropLast).2)
  else (old, old)
  termination_by n
  decreasing_by
    all_goals first
      | exact half_lt h
      | (have := half_pos h; omega)
/-- the texts that are digested for a root -/
def textsB (l : List ByteArray) : List ByteArray :=
  if h : 2 ≤ l.length then textsB (l.take (half l.length)) ++ textsB (l.drop (half l.length)) ++ [nodeT (rootB (l.take (half l.length))) (rootB (l.drop (half l.length)))]
  else if l.length = 0 then [joinB [kEmpty]] else []
  termination_by l.length
  decreasing_by
    · rw [List.length_take]; have := half_lt h; omega
    · rw [List.length_drop]; have := half_pos h; omega
def pathTextsB (n i : Nat) (d : ByteArray) (p : List ByteArray) : List ByteArray :=
  if h : 2 ≤ n then
    if i < half n then pathTextsB (half n) i d p.dropLast ++ [nodeT (upB (half n) i d p.dropLast) (p.getLastD emptyB)]
    else pathTextsB (n - half n) (i - half n) d p.dropLast ++ [nodeT (p.getLastD emptyB) (upB (n - half n) (i - half n) d p.dropLast)]
  else []
  termination_by n
  decreasing_by
    · exact half_lt h
    · have := half_pos h; omega
def linkTextsB (n m : Nat) (whole : Bool) (old : ByteArray) (p : List ByteArray) : List ByteArray :=
  if m = n then []
  else if h : 2 ≤ n then
    if m ≤ half n then linkTextsB (half n) m whole old p.dropLast ++ [nodeT (bothB (half n) m whole old p.dropLast).2 (p.getLastD emptyB)]
    else linkTextsB (n - half n) (m - half n) false old p.dropLast ++ [nodeT (p.getLastD emptyB) (bothB (n - half n) (m - half n) false old p.dropLast).1] ++ [nodeT (p.getLastD emptyB) (bothB (n - half n) (m - half n) false old p.dropLast).2]
  else []
  termination_by n
  decreasing_by
    · exact half_lt h
    · have := half_pos h; omega
theorem textsB_big {l : List ByteArray} (h : 2 ≤ l.length) : textsB l = textsB (l.take (half l.length)) ++ textsB (l.drop (half l.length)) ++ [nodeT (rootB (l.take (half l.length))) (rootB (l.drop (half l.length)))] := by rw [textsB, dif_pos h]
/-- two different texts of a list have one digest -/
def Shown (l : List ByteArray) : Prop := ∃ x ∈ l, ∃ y ∈ l, sumB x = sumB y ∧ x ≠ y
theorem Shown.mono {l m : List ByteArray} (h : Shown l) (hs : ∀ x ∈ l, x ∈ m) : Shown m := by
  obtain ⟨x, hx, y, hy, e, n⟩ := h
  exact ⟨x, hs x hx, y, hs y hy, e, n⟩
theorem take_length {l : List ByteArray} (h : 2 ≤ l.length) : (l.take (half l.length)).length = half l.length := by rw [List.length_take]; have := half_lt h; omega
theorem drop_length {l : List ByteArray} (h : 2 ≤ l.length) : (l.drop (half l.length)).length = l.length - half l.length := List.length_drop

/-- two lists of one length with one root are equal, or two different texts have one digest -/
theorem root_binds : ∀ (n : Nat) (a b : List ByteArray), a.length = n → b.length = n → rootB a = rootB b → a = b ∨ Shown (textsB a ++ textsB b) := by
  intro n
  induction n using Nat.strongRecOn with
  | _ n ih =>
    intro a b ha hb h
    by_cases h2 : 2 ≤ n
    · have ha2 : 2 ≤ a.length := by omega
      have hb2 : 2 ≤ b.length := by omega
      rw [rootB_big ha2, rootB_big hb2] at h
      by_cases e : nodeT (rootB (a.take (half a.length))) (rootB (a.drop (half a.length))) = nodeT (rootB (b.take (half b.length))) (rootB (b.drop (half b.length)))
      · obtain ⟨e1, e2⟩ := nodeT_inj e
        have hp := half_pos h2
        have hl := half_lt h2
        have r1 := ih (half n) hl _ _ (by rw [take_length ha2, ha]) (by rw [take_length hb2, hb]) e1
        have r2 := ih (n - half n) (by omega) _ _ (by rw [drop_length ha2, ha]) (by rw [drop_length hb2, hb]) e2
        have sub : ∀ x, (x ∈ textsB (a.take (half a.length)) ++ textsB (b.take (half b.length)) ∨ x ∈ textsB (a.drop (half a.length)) ++ textsB (b.drop (half b.length))) → x ∈ textsB a ++ textsB b := by
          intro x hx
          rw [textsB_big ha2, textsB_big hb2]
          simp only [List.mem_append] at hx ⊢
          rcases hx with (hx | hx) | (hx | hx) <;> simp [hx]
        rcases r1 with r1 | r1
        · rcases r2 with r2 | r2
          · left
            rw [← List.take_append_drop (half a.length) a, ← List.take_append_drop (half b.length) b, r1, r2]
          · exact .inr (r2.mono fun x hx => sub x (.inr hx))
        · exact .inr (r1.mono fun x hx => sub x (.inl hx))
      · right
        refine ⟨_, ?_, _, ?_, h, e⟩
        · rw [textsB_big ha2]; simp
        · rw [textsB_big hb2, List.mem_append]; right; simp
    · left
      match a, b, ha, hb with
      | [], [], _, _ => rfl
      | [x], [y], _, _ => rw [rootB_one, rootB_one] at h; rw [h]
      | [], _ :: _, ha, hb => simp at ha hb; omega
      | _ :: _, [], ha, hb => simp at ha hb; omega
      | x :: y :: r, _, ha, _ => simp at ha; omega
      | _, x :: y :: r, _, hb => simp at hb; omega
end Go.Proofs.YtbiekbppenccdaaDoor
