/-
  Plain mathematics of the digests of layer 1: the digest of a list of bytes as a plain Lean function, and what it tells apart. No program is imported.
-/
import Init
namespace Go.Proofs.YtbiekbppenccdaaDoor.Dig

/-- xor with an own shift is one to one -/
theorem xs_inj {x y s : Nat} (hs : 1 ≤ s) (h : x ^^^ x >>> s = y ^^^ y >>> s) : x = y := by
  have hd : x ^^^ y = (x ^^^ y) >>> s := by
    rw [Nat.shiftRight_xor_distrib]
    apply Nat.eq_of_testBit_eq
    intro i
    have hi := congrArg (fun n => Nat.testBit n i) h
    simp only [Nat.testBit_xor] at hi ⊢
    revert hi
    cases x.testBit i <;> cases y.testBit i <;> cases (x >>> s).testBit i <;> cases (y >>> s).testBit i <;> simp
  have hz : x ^^^ y = 0 := by
    generalize x ^^^ y = d at hd
    rw [Nat.shiftRight_eq_div_pow] at hd
    by_cases h0 : d = 0
    · exact h0
    · have h2 : 2 ≤ 2 ^ s := by
        calc 2 = 2 ^ 1 := rfl
          _ ≤ 2 ^ s := Nat.pow_le_pow_right (by omega) hs
      have : d / 2 ^ s < d := Nat.div_lt_self (by omega) (by omega)
      omega
  apply Nat.eq_of_testBit_eq
  intro i
  have hi := congrArg (fun n => Nat.testBit n i) hz
  simp only [Nat.testBit_xor, Nat.zero_testBit] at hi
  revert hi
  cases x.testBit i <;> cases y.testBit i <;> simp

theorem xor_left_inj {a x y : Nat} (h : a ^^^ x = a ^^^ y) : x = y := by
  apply Nat.eq_of_testBit_eq
  intro i
  have hi := congrArg (fun n => Nat.testBit n i) h
  simp only [Nat.testBit_xor] at hi
  revert hi
  cases a.testBit i <;> cases x.testBit i <;> cases y.testBit i <;> simp

theorem xor_right_inj {a x y : Nat} (h : x ^^^ a = y ^^^ a) : x = y := by
  rw [Nat.xor_comm x, Nat.xor_comm y] at h; exact xor_left_inj h

/-- multiplication by a number that has an inverse modulo m -/
theorem mul_inj {m c d x y : Nat} (hcd : c * d % m = 1 % m) (hx : x < m) (hy : y < m) (h : x * c % m = y * c % m) : x = y := by
  have e : ∀ z, z < m → (z * c % m) * d % m = z := by
    intro z hz
    rw [Nat.mod_mul_mod, Nat.mul_assoc, Nat.mul_mod, hcd, ← Nat.mul_mod, Nat.mul_one, Nat.mod_eq_of_lt hz]
  rw [← e x hx, ← e y hy, h]

def A1 : Nat := 14029467366897019727
def A2 : Nat := 11400714785074694791
def M : Nat := 18446744073709551616

/-- the mixed number -/
def mixN (x : Nat) : Nat :=
  ((((x ^^^ x / 2147483648) * A1 % M) ^^^ ((x ^^^ x / 2147483648) * A1 % M) / 134217728) * A2 % M) ^^^
    ((((x ^^^ x / 2147483648) * A1 % M) ^^^ ((x ^^^ x / 2147483648) * A1 % M) / 134217728) * A2 % M) / 8589934592

theorem M_pos : 0 < M := by decide
theorem xsh_lt {x : Nat} (k : Nat) (h : x < M) : x ^^^ x / k < M := by
  have h' : x / k < 2 ^ 64 := Nat.lt_of_le_of_lt (Nat.div_le_self x k) h
  exact Nat.xor_lt_two_pow (n := 64) h h'
theorem mixN_lt (x : Nat) : mixN x < M := xsh_lt _ (Nat.mod_lt _ M_pos)

theorem xsh31 {x y : Nat} (h : x ^^^ x / 2147483648 = y ^^^ y / 2147483648) : x = y :=
  xs_inj (s := 31) (by omega) (by rw [Nat.shiftRight_eq_div_pow, Nat.shiftRight_eq_div_pow]; exact h)
theorem xsh27 {x y : Nat} (h : x ^^^ x / 134217728 = y ^^^ y / 134217728) : x = y :=
  xs_inj (s := 27) (by omega) (by rw [Nat.shiftRight_eq_div_pow, Nat.shiftRight_eq_div_pow]; exact h)
theorem xsh33 {x y : Nat} (h : x ^^^ x / 8589934592 = y ^^^ y / 8589934592) : x = y :=
  xs_inj (s := 33) (by omega) (by rw [Nat.shiftRight_eq_div_pow, Nat.shiftRight_eq_div_pow]; exact h)

/-- the mixing is one to one -/
theorem mixN_inj {x y : Nat} (hx : x < M) (hy : y < M) (h : mixN x = mixN y) : x = y := by
  have h1 := xsh33 h
  have h2 := mul_inj (c := A2) (d := 614540362697595703) (by decide) (xsh_lt _ (Nat.mod_lt _ M_pos)) (xsh_lt _ (Nat.mod_lt _ M_pos)) h1
  have h3 := xsh27 h2
  have h4 := mul_inj (c := A1) (d := 839798700976720815) (by decide) (xsh_lt _ hx) (xsh_lt _ hy) h3
  exact xsh31 h4

/-- a hexadecimal digit -/
def dg (n : Nat) : UInt8 := UInt8.ofNat (if n < 10 then 48 + n else 87 + n)
theorem dg_inj {a b : Nat} (ha : a < 16) (hb : b < 16) (h : dg a = dg b) : a = b := by
  have hn := congrArg UInt8.toNat h
  unfold dg at hn
  split at hn <;> split at hn <;> simp [UInt8.toNat_ofNat'] at hn <;> omega

/-- the last k hexadecimal digits, the most significant one first -/
def hexK : Nat → Nat → List UInt8
  | 0, _ => []
  | k + 1, x => hexK k (x / 16) ++ [dg (x % 16)]
theorem hexK_length (k x : Nat) : (hexK k x).length = k := by
  induction k generalizing x with
  | zero => rfl
  | succ k ih => simp [hexK, ih]
theorem hexK_inj {k x y : Nat} (hx : x < 16 ^ k) (hy : y < 16 ^ k) (h : hexK k x = hexK k y) : x = y := by
  induction k generalizing x y with
  | zero => simp at hx hy; omega
  | succ k ih =>
    simp only [hexK] at h
    obtain ⟨h1, h2⟩ := List.append_inj' h rfl
    have h3 : dg (x % 16) = dg (y % 16) := by simpa using h2
    have h4 := dg_inj (Nat.mod_lt _ (by omega)) (Nat.mod_lt _ (by omega)) h3
    have h5 := ih (x := x / 16) (y := y / 16) (by rw [Nat.pow_succ] at hx; omega) (by rw [Nat.pow_succ] at hy; omega) h1
    omega
/-- one digit more, in front -/
theorem hexK_front (k x : Nat) : hexK (k + 1) x = dg (x / 16 ^ k % 16) :: hexK k x := by
  induction k generalizing x with
  | zero => simp [hexK]
  | succ k ih =>
    rw [hexK, ih (x / 16), hexK, Nat.div_div_eq_div_mul, ← Nat.pow_succ']
    rfl

/-- a byte of a text; 0 behind its end -/
def byteAt (l : List UInt8) (i : Nat) : Nat := (l[i]?.map UInt8.toNat).getD 0
theorem byteAt_lt (l : List UInt8) (i : Nat) : byteAt l i < 256 := by
  unfold byteAt
  cases h : l[i]? with
  | none => simp
  | some v => simpa using v.toNat_lt
theorem byteAt_in {l : List UInt8} {i : Nat} (h : i < l.length) : byteAt l i = l[i].toNat := by simp [byteAt, h]
theorem byteAt_out {l : List UInt8} {i : Nat} (h : l.length ≤ i) : byteAt l i = 0 := by simp [byteAt, h]

/-- the number of j bytes from a place on -/
def blkN (l : List UInt8) (at_ : Nat) : Nat → Nat
  | 0 => 0
  | j + 1 => blkN l at_ j * 256 + byteAt l (at_ + j)
theorem blkN_lt (l : List UInt8) (a j : Nat) : blkN l a j < 256 ^ j := by
  induction j with
  | zero => simp [blkN]
  | succ j ih =>
    have hb := byteAt_lt l (a + j)
    rw [blkN, Nat.pow_succ]
    omega
theorem blkN_congr {l m : List UInt8} {a b j : Nat} (h : ∀ i, i < j → byteAt l (a + i) = byteAt m (b + i)) : blkN l a j = blkN m b j := by
  induction j with
  | zero => rfl
  | succ j ih => rw [blkN, blkN, ih (fun i hi => h i (by omega)), h j (by omega)]
theorem blkN_inj {l m : List UInt8} {a b j : Nat} (h : blkN l a j = blkN m b j) : ∀ i, i < j → byteAt l (a + i) = byteAt m (b + i) := by
  induction j with
  | zero => intro i hi; omega
  | succ j ih =>
    rw [blkN, blkN] at h
    have h1 := byteAt_lt l (a + j)
    have h2 := byteAt_lt m (b + j)
    have h3 : blkN l a j = blkN m b j := by omega
    intro i hi
    by_cases e : i = j
    · subst e; omega
    · exact ih h3 i (by omega)

def SEED : Nat := 1442695040888963407
/-- the state after so many blocks -/
def stN (l : List UInt8) : Nat → Nat
  | 0 => SEED ^^^ l.length
  | k + 1 => mixN (stN l k ^^^ blkN l (8 * k) 8)
theorem blk8_lt (l : List UInt8) (a : Nat) : blkN l a 8 < M := by have := blkN_lt l a 8; simpa [M] using this
theorem xor_lt_M {a b : Nat} (ha : a < M) (hb : b < M) : a ^^^ b < M := Nat.xor_lt_two_pow (n := 64) ha hb
theorem stN_lt (l : List UInt8) (hl : l.length < M) (k : Nat) : stN l k < M := by
  cases k with
  | zero => exact xor_lt_M (by decide) hl
  | succ k => exact mixN_lt _

/-- the digest -/
def sumL (l : List UInt8) : List UInt8 := hexK 16 (stN l (l.length / 8 + 1))
theorem sumL_length (l : List UInt8) : (sumL l).length = 16 := hexK_length _ _
theorem sumL_inj {l m : List UInt8} (hl : l.length < M) (hm : m.length < M) (h : sumL l = sumL m) : stN l (l.length / 8 + 1) = stN m (m.length / 8 + 1) :=
  hexK_inj (k := 16) (by have := stN_lt l hl (l.length / 8 + 1); simpa [M] using this) (by have := stN_lt m hm (m.length / 8 + 1); simpa [M] using this) h

theorem ext_bytes {l m : List UInt8} (hlen : l.length = m.length) (h : ∀ i, i < l.length → byteAt l i = byteAt m i) : l = m := by
  apply List.ext_getElem hlen
  intro i h1 h2
  have := h i h1
  rw [byteAt_in h1, byteAt_in h2] at this
  exact UInt8.toNat_inj.1 this

/-- P1.3 -/
theorem short_iff {l m : List UInt8} (hl : l.length ≤ 7) (hm : m.length ≤ 7) : sumL l = sumL m ↔ l = m := by
  constructor
  · intro h
    have hlM : l.length < M := Nat.lt_of_le_of_lt hl (by decide)
    have hmM : m.length < M := Nat.lt_of_le_of_lt hm (by decide)
    have h1 := sumL_inj hlM hmM h
    rw [show l.length / 8 + 1 = 0 + 1 by omega, show m.length / 8 + 1 = 0 + 1 by omega, stN, stN] at h1
    have h2 := mixN_inj (xor_lt_M (stN_lt l hlM 0) (blk8_lt _ _)) (xor_lt_M (stN_lt m hmM 0) (blk8_lt _ _)) h1
    rw [stN, stN, Nat.xor_assoc, Nat.xor_assoc] at h2
    have h3 := xor_left_inj h2
    have low : ∀ z : List UInt8, z.length ≤ 7 → (z.length ^^^ blkN z (8 * 0) 8) % 2 ^ 8 = z.length := by
      intro z hz
      have e : blkN z (8 * 0) 8 % 2 ^ 8 = 0 := by
        rw [blkN, byteAt_out (by omega)]
        omega
      rw [Nat.xor_mod_two_pow, e, Nat.xor_zero]
      exact Nat.mod_eq_of_lt (by omega)
    have h4 : l.length = m.length := by rw [← low l hl, ← low m hm, h3]
    rw [h4] at h3
    have h5 := blkN_inj (xor_left_inj h3)
    refine ext_bytes h4 (fun i hi => ?_)
    have := h5 i (by omega)
    simpa using this
  · intro h; rw [h]

/-- two texts of one length that differ in one block alone -/
theorem block_iff {l m : List UInt8} {p : Nat} (hM : l.length < M) (hlen : l.length = m.length) (hp : 8 * p ≤ l.length)
    (h : ∀ i, i < 8 * p ∨ 8 * p + 8 ≤ i → byteAt l i = byteAt m i) : sumL l = sumL m ↔ l = m := by
  constructor
  · intro hs
    have hmM : m.length < M := by omega
    have before : ∀ k, k ≤ p → stN l k = stN m k := by
      intro k hk
      induction k with
      | zero => rw [stN, stN, hlen]
      | succ k ih => rw [stN, stN, ih (by omega), blkN_congr (fun i hi => h _ (Or.inl (by omega)))]
    have after : ∀ k, p + 1 ≤ k → stN l k = stN m k → stN l (p + 1) = stN m (p + 1) := by
      intro k hk
      induction k with
      | zero => omega
      | succ k ih =>
        intro he
        by_cases e : k = p
        · subst e; exact he
        · refine ih (by omega) ?_
          rw [stN, stN, blkN_congr (l := l) (m := m) (fun i hi => h _ (Or.inr (by omega)))] at he
          exact xor_right_inj (mixN_inj (xor_lt_M (stN_lt l hM _) (blk8_lt _ _)) (xor_lt_M (stN_lt m hmM _) (blk8_lt _ _)) he)
    have h1 := sumL_inj hM hmM hs
    rw [← hlen] at h1
    have h2 := after _ (by omega) h1
    rw [stN, stN, before p (Nat.le_refl p)] at h2
    have h3 := xor_left_inj (mixN_inj (xor_lt_M (stN_lt m hmM _) (blk8_lt _ _)) (xor_lt_M (stN_lt m hmM _) (blk8_lt _ _)) h2)
    have h4 := blkN_inj h3
    refine ext_bytes hlen (fun i hi => ?_)
    by_cases e : i < 8 * p ∨ 8 * p + 8 ≤ i
    · exact h i e
    · have := h4 (i - 8 * p) (by omega)
      rw [show 8 * p + (i - 8 * p) = i by omega] at this
      exact this
  · intro hs; rw [hs]

end Go.Proofs.YtbiekbppenccdaaDoor.Dig
