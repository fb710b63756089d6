/-
  Tiles of the sky (layer 10): pure facts.
-/
import Derived.WalkSmall
set_option linter.unusedVariables false
set_option maxRecDepth 100000
namespace Go.Proofs.Ytebkifhdbpeeoaa.Sk
/-- the distance of two columns -/
def aro (a b : Nat) : Nat := if 16 < (a - b) + (b - a) then 32 - ((a - b) + (b - a)) else (a - b) + (b - a)
/-- the difference of two bands -/
def bnd (a b : Nat) : Nat := (a - b) + (b - a)
/-- the distance of two tiles -/
def dis (a b : Nat) : Nat := max (bnd (a / 32) (b / 32)) (aro (a % 32) (b % 32))
def tilN (x y : Nat) : Nat := 32 * (y / 180) + x / 180
def celN (x y : Nat) : Nat := 2 * (y % 180 / 90) + x % 180 / 90
theorem aro_cases (a b : Nat) : (aro a b = a - b + (b - a) ∧ a - b + (b - a) ≤ 16) ∨ (aro a b = 32 - (a - b + (b - a)) ∧ 16 < a - b + (b - a)) := by
  unfold aro
  by_cases h : 16 < (a - b) + (b - a)
  · rw [if_pos h]; exact .inr ⟨rfl, h⟩
  · rw [if_neg h]; exact .inl ⟨rfl, by omega⟩
theorem aro_le (a b : Nat) : aro a b ≤ 16 := by
  have := aro_cases a b; omega
theorem aro_comm (a b : Nat) : aro a b = aro b a := by
  have := aro_cases a b; have := aro_cases b a; omega
theorem aro_zero {a b : Nat} (ha : a < 32) (hb : b < 32) : aro a b = 0 ↔ a = b := by
  have := aro_cases a b; omega
theorem aro_tri {a b c : Nat} (ha : a < 32) (hb : b < 32) (hc : c < 32) : aro a b ≤ aro a c + aro c b := by
  have := aro_cases a b; have := aro_cases a c; have := aro_cases c b; omega
theorem aro_move {a b : Nat} (k : Nat) (ha : a < 32) (hb : b < 32) : aro ((a + k) % 32) ((b + k) % 32) = aro a b := by
  have h1 := aro_cases a b
  have h2 := aro_cases ((a + k) % 32) ((b + k) % 32)
  omega
theorem bnd_comm (a b : Nat) : bnd a b = bnd b a := by unfold bnd; omega
theorem bnd_zero (a b : Nat) : bnd a b = 0 ↔ a = b := by unfold bnd; omega
theorem bnd_tri (a b c : Nat) : bnd a b ≤ bnd a c + bnd c b := by unfold bnd; omega
theorem dis_comm (a b : Nat) : dis a b = dis b a := by unfold dis; rw [bnd_comm, aro_comm]
theorem dis_zero (a b : Nat) : dis a b = 0 ↔ a = b := by
  have h1 := bnd_zero (a / 32) (b / 32)
  have h2 := aro_zero (a := a % 32) (b := b % 32) (by omega) (by omega)
  unfold dis
  omega
theorem dis_le {a b : Nat} (ha : a < 512) (hb : b < 512) : dis a b ≤ 16 := by
  have h1 := aro_le (a % 32) (b % 32)
  unfold dis bnd
  omega
theorem dis_tri (a b c : Nat) : dis a b ≤ dis a c + dis c b := by
  have h1 := bnd_tri (a / 32) (b / 32) (c / 32)
  have h2 := aro_tri (a := a % 32) (b := b % 32) (c := c % 32) (by omega) (by omega) (by omega)
  unfold dis
  omega
/-- a tile moved by columns -/
def mv (k t : Nat) : Nat := t / 32 * 32 + (t % 32 + k) % 32
theorem mv_lt {k t : Nat} (h : t < 512) : mv k t < 512 := by unfold mv; omega
theorem mv_parts (k t : Nat) : mv k t / 32 = t / 32 ∧ mv k t % 32 = (t % 32 + k) % 32 := by unfold mv; omega
theorem dis_mv (k a b : Nat) : dis (mv k a) (mv k b) = dis a b := by
  unfold dis
  rw [(mv_parts k a).1, (mv_parts k b).1, (mv_parts k a).2, (mv_parts k b).2, aro_move k (by omega) (by omega)]
/-- the tiles within a distance -/
def nea (t r : Nat) : List Nat := (List.range 512).filter fun i => decide (dis t i ≤ r)
theorem nea_mem {t r i : Nat} : i ∈ nea t r ↔ i < 512 ∧ dis t i ≤ r := by simp [nea]
theorem nea_up (t r : Nat) : (nea t r).Pairwise (· < ·) := List.Pairwise.filter _ List.pairwise_lt_range
theorem nea_lt {t r i j : Nat} (hij : i < j) (hj : j < (nea t r).length) : (nea t r)[i]'(by omega) < (nea t r)[j] :=
  List.pairwise_iff_getElem.1 (nea_up t r) i j (by omega) hj hij
/-- how many of the first n tiles are near -/
def neaK (t r n : Nat) : List Nat := (List.range n).filter fun i => decide (dis t i ≤ r)
theorem neaK_zero (t r : Nat) : neaK t r 0 = [] := rfl
theorem neaK_succ (t r n : Nat) : neaK t r (n + 1) = if dis t n ≤ r then neaK t r n ++ [n] else neaK t r n := by
  unfold neaK
  rw [List.range_succ, List.filter_append]
  by_cases h : dis t n ≤ r <;> simp [h]
theorem neaK_full (t r : Nat) : neaK t r 512 = nea t r := rfl
theorem neaK_len (t r n : Nat) : (neaK t r n).length ≤ n := by
  unfold neaK
  have := List.length_filter_le (fun i => decide (dis t i ≤ r)) (List.range n)
  simpa using this
/-- how many of n columns are near -/
def colK (c r : Nat) : Nat → Nat
  | 0 => 0
  | n + 1 => colK c r n + (if aro c n ≤ r then 1 else 0)
def bndK (b r : Nat) : Nat → Nat
  | 0 => 0
  | n + 1 => bndK b r n + (if bnd b n ≤ r then 1 else 0)
theorem dis_at (t q n : Nat) (hn : n < 32) : dis t (32 * q + n) = max (bnd (t / 32) q) (aro (t % 32) n) := by
  unfold dis
  rw [show (32 * q + n) / 32 = q by omega, show (32 * q + n) % 32 = n by omega]
theorem row_len (t r q : Nat) : ∀ n, n ≤ 32 → (neaK t r (32 * q + n)).length = (neaK t r (32 * q)).length + (if bnd (t / 32) q ≤ r then colK (t % 32) r n else 0)
  | 0, _ => by simp [colK]
  | n + 1, h => by
    have ih := row_len t r q n (by omega)
    rw [show 32 * q + (n + 1) = 32 * q + n + 1 by omega, neaK_succ, dis_at t q n (by omega)]
    by_cases h1 : bnd (t / 32) q ≤ r
    · rw [if_pos h1] at ih ⊢
      by_cases h2 : aro (t % 32) n ≤ r
      · rw [if_pos (by omega)]
        simp [colK, ih, h2]; omega
      · rw [if_neg (by omega)]
        simp [colK, ih, h2]
    · rw [if_neg h1] at ih ⊢
      rw [if_neg (by omega), ih]
theorem rows_len (t r : Nat) : ∀ q, (neaK t r (32 * q)).length = colK (t % 32) r 32 * bndK (t / 32) r q
  | 0 => by simp [neaK_zero, bndK]
  | q + 1 => by
    have ih := rows_len t r q
    have h := row_len t r q 32 (Nat.le_refl _)
    rw [show 32 * (q + 1) = 32 * q + 32 by omega, h, ih, bndK]
    by_cases h1 : bnd (t / 32) q ≤ r <;> simp [h1, Nat.mul_add]
theorem colK_all : ∀ c, c < 32 → ∀ r, r < 32 → colK c r 32 = min (2 * r + 1) 32 := by decide +kernel
theorem bndK_all : ∀ b, b < 16 → ∀ r, r < 32 → bndK b r 16 = min (b + r) 15 - (b - r) + 1 := by decide +kernel
theorem nea_len {t r : Nat} (ht : t < 512) (hr : r < 32) : (nea t r).length = min (2 * r + 1) 32 * (min (t / 32 + r) 15 - (t / 32 - r) + 1) := by
  rw [← neaK_full, show 512 = 32 * 16 by decide, rows_len, colK_all _ (by omega) _ hr, bndK_all _ (by omega) _ hr]
/-- a number one nearer to another one -/
def stepB (a b : Nat) : Nat := if a < b then a + 1 else if b < a then a - 1 else a
/-- a column one nearer to another one, around the sky -/
def stepC (a b : Nat) : Nat := if a = b then a else if (b + 32 - a) % 32 ≤ 16 then (a + 1) % 32 else (a + 31) % 32
theorem stepB_ok (a b : Nat) : bnd a (stepB a b) ≤ 1 ∧ bnd (stepB a b) b = bnd a b - 1 := by
  unfold bnd stepB
  split
  · omega
  · split <;> omega
theorem stepB_lt {a b n : Nat} (ha : a < n) (hb : b < n) : stepB a b < n := by
  unfold stepB
  split
  · omega
  · split <;> omega
theorem stepC_ok : ∀ a, a < 32 → ∀ b, b < 32 → stepC a b < 32 ∧ aro a (stepC a b) ≤ 1 ∧ aro (stepC a b) b = aro a b - 1 := by decide +kernel
/-- from a tile one comes nearer to another one by a step -/
theorem step_near {a b : Nat} (ha : a < 512) (hb : b < 512) : ∃ x, x ∈ nea a 1 ∧ dis x b = dis a b - 1 := by
  obtain ⟨h1, h2⟩ := stepB_ok (a / 32) (b / 32)
  have h3 := stepB_lt (a := a / 32) (b := b / 32) (n := 16) (by omega) (by omega)
  obtain ⟨h4, h5, h6⟩ := stepC_ok (a % 32) (by omega) (b % 32) (by omega)
  refine ⟨32 * stepB (a / 32) (b / 32) + stepC (a % 32) (b % 32), nea_mem.2 ⟨by omega, ?_⟩, ?_⟩
  · rw [dis_at _ _ _ h4]; omega
  · rw [dis_comm, dis]
    rw [show (32 * stepB (a / 32) (b / 32) + stepC (a % 32) (b % 32)) / 32 = stepB (a / 32) (b / 32) by omega, show (32 * stepB (a / 32) (b / 32) + stepC (a % 32) (b % 32)) % 32 = stepC (a % 32) (b % 32) by omega, bnd_comm, aro_comm, h2, h6, dis]
    omega
theorem step_least {a b x : Nat} (hx : x ∈ nea a 1) : dis a b - 1 ≤ dis x b := by
  have h1 := (nea_mem.1 hx).2
  have h2 := dis_tri a b x
  omega
/-- the least of a number and the distances of a list -/
def leastF (b : Nat) (l : List Nat) (d : Nat) : Nat := l.foldl (fun m x => min m (dis x b)) d
theorem leastF_le (b : Nat) : ∀ (l : List Nat) (d : Nat), leastF b l d ≤ d
  | [], d => Nat.le_refl d
  | x :: l, d => Nat.le_trans (leastF_le b l _) (Nat.min_le_left _ _)
theorem leastF_mem (b : Nat) : ∀ (l : List Nat) (d x : Nat), x ∈ l → leastF b l d ≤ dis x b
  | y :: l, d, x, h => by
    rcases List.mem_cons.1 h with rfl | h
    · exact Nat.le_trans (leastF_le b l _) (Nat.min_le_right _ _)
    · exact leastF_mem b l _ x h
theorem leastF_ge (b m : Nat) : ∀ (l : List Nat) (d : Nat), m ≤ d → (∀ x ∈ l, m ≤ dis x b) → m ≤ leastF b l d
  | [], d, h, _ => h
  | y :: l, d, h, hl => leastF_ge b m l _ (Nat.le_min.2 ⟨h, hl y (by simp)⟩) (fun x hx => hl x (by simp [hx]))
theorem least_step {a b : Nat} (ha : a < 512) (hb : b < 512) : leastF b (nea a 1) (dis a b) = dis a b - 1 := by
  obtain ⟨x, hx, h⟩ := step_near ha hb
  have h1 := leastF_mem b (nea a 1) (dis a b) x hx
  have h2 := leastF_ge b (dis a b - 1) (nea a 1) (dis a b) (by omega) (fun y hy => step_least hy)
  omega
theorem leastF_take (b : Nat) {l : List Nat} {n : Nat} (h : n < l.length) (d : Nat) : leastF b (l.take (n + 1)) d = min (leastF b (l.take n) d) (dis l[n] b) := by
  rw [List.take_succ_eq_append_getElem h]
  unfold leastF
  rw [List.foldl_append]; rfl
end Go.Proofs.Ytebkifhdbpeeoaa.Sk
