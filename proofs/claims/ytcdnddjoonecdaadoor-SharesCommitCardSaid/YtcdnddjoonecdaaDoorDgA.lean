/-
  Plain mathematics of the digests of layer 1: the digest of a list of bytes as a plain Lean function, and what it tells apart. No program is imported.
-/
import Init
import Derived.Test.YtcdnddjoonecdaaDoorProg
import Derived.WalkKit
import Derived.Handy
import Derived.Outline
import Derived.WalkLawsBesides
import Derived.Deep.RegionLaw
import Derived.Laws.CopyOwn
import Derived.Lib.Builder
import Derived.Lib.Hide
import Derived.WalkSpells
set_option maxRecDepth 100000
namespace Go.Proofs.YtcdnddjoonecdaaDoor.Dig

/-- xor with an own shift is one to one -/
theorem xs_inj {x y s : Nat} (hs : 1 ≤ s) (h : x ^^^ x >>> s = y ^^^ y >>> s) : x = y := by
  have hd : x ^^^ y = (x ^^^ y) >>> s := by
    rw [Nat.shiftRight_xor_distrib]
    apply Nat.eq_of_testBit_eq
    intro i
    have hi := congrArg (fun n => Nat.testBit n i) h
    simp only [Nat.testBit_xor] at hi ⊢
    revert hi
    cases x.testBit i <;> cases y.testBit i <;> cases (x >>> s).testBit i <;> cases (y >>> s).testBit i <;> simp
  have hz : x ^^^ y = 0 := by
    generalize x ^^^ y = d at hd
    rw [Nat.shiftRight_eq_div_pow] at hd
    by_cases h0 : d = 0
    · exact h0
    · have h2 : 2 ≤ 2 ^ s := by
        calc 2 = 2 ^ 1 := rfl
          _ ≤ 2 ^ s := Nat.pow_le_pow_right (by omega) hs
      have : d / 2 ^ s < d := Nat.div_lt_self (by omega) (by omega)
      omega
  apply Nat.eq_of_testBit_eq
  intro i
  have hi := congrArg (fun n => Nat.testBit n i) hz
  simp only [Nat.testBit_xor, Nat.zero_testBit] at hi
  revert hi
  cases x.testBit i <;> cases y.testBit i <;> simp

theorem xor_left_inj {a x y : Nat} (h : a ^^^ x = a ^^^ y) : x = y := by
  apply Nat.eq_of_testBit_eq
  intro i
  have hi := congrArg (fun n => Nat.testBit n i) h
  simp only [Nat.testBit_xor] at hi
  revert hi
  cases a.testBit i <;> cases x.testBit i <;> cases y.testBit i <;> simp

theorem xor_right_inj {a x y : Nat} (h : x ^^^ a = y ^^^ a) : x = y := by
  rw [Nat.xor_comm x, Nat.xor_comm y] at h; exact xor_left_inj h

/-- multiplication by a number that has an inverse modulo m -/
theorem mul_inj {m c d x y : Nat} (hcd : c * d % m = 1 % m) (hx : x < m) (hy : y < m) (h : x * c % m = y * c % m) : x = y := by
  have e : ∀ z, z < m → (z * c % m) * d % m = z := by
    intro z hz
    rw [Nat.mod_mul_mod, Nat.mul_assoc, Nat.mul_mod, hcd, ← Nat.mul_mod, Nat.mul_one, Nat.mod_eq_of_lt hz]
  rw [← e x hx, ← e y hy, h]

def A1 : Nat := 14029467366897019727
def A2 : Nat := 11400714785074694791
def M : Nat := 18446744073709551616

/-- the mixed number -/
def mixN (x : Nat) : Nat :=
  ((((x ^^^ x / 2147483648) * A1 % M) ^^^ ((x ^^^ x / 2147483648) * A1 % M) / 134217728) * A2 % M) ^^^
    ((((x ^^^ x / 2147483648) * A1 % M) ^^^ ((x ^^^ x / 2147483648) * A1 % M) / 134217728) * A2 % M) / 8589934592

theorem M_pos : 0 < M := by decide
theorem xsh_lt {x : Nat} (k : Nat) (h : x < M) : x ^^^ x / k < M := by
  have h' : x / k < 2 ^ 64 := Nat.lt_of_le_of_lt (Nat.div_le_self x k) h
  exact Nat.xor_lt_two_pow (n := 64) h h'
theorem mixN_lt (x : Nat) : mixN x < M := xsh_lt _ (Nat.mod_lt _ M_pos)

theorem xsh31 {x y : Nat} (h : x ^^^ x / 2147483648 = y ^^^ y / 2147483648) : x = y :=
  xs_inj (s := 31) (by omega) (by rw [Nat.shiftRight_eq_div_pow, Nat.shiftRight_eq_div_pow]; exact h)
theorem xsh27 {x y : Nat} (h : x ^^^ x / 134217728 = y ^^^ y / 134217728) : x = y :=
  xs_inj (s := 27) (by omega) (by rw [Nat.shiftRight_eq_div_pow, Nat.shiftRight_eq_div_pow]; exact h)
theorem xsh33 {x y : Nat} (h : x ^^^ x / 8589934592 = y ^^^ y / 8589934592) : x = y :=
  xs_inj (s := 33) (by omega) (by rw [Nat.shiftRight_eq_div_pow, Nat.shiftRight_eq_div_pow]; exact h)

/-- the mixing is one to one -/
theorem mixN_inj {x y : Nat} (hx : x < M) (hy : y < M) (h : mixN x = mixN y) : x = y := by
  have h1 := xsh33 h
  have h2 := mul_inj (c := A2) (d := 614540362697595703) (by decide) (xsh_lt _ (Nat.mod_lt _ M_pos)) (xsh_lt _ (Nat.mod_lt _ M_pos)) h1
  have h3 := xsh27 h2
  have h4 := mul_inj (c := A1) (d := 839798700976720815) (by decide) (xsh_lt _ hx) (xsh_lt _ hy) h3
  exact xsh31 h4

/-- a hexadecimal digit -/
def dg (n : Nat) : UInt8 := UInt8.ofNat (if n < 10 then 48 + n else 87 + n)
theorem dg_inj {a b : Nat} (ha : a < 16) (hb : b < 16) (h : dg a = dg b) : a = b := by
  have hn := congrArg UInt8.toNat h
  unfold dg at hn
  split at hn <;> split at hn <;> simp [UInt8.toNat_ofNat'] at hn <;> omega

/-- the last k hexadecimal digits, the most significant one first -/
def hexK : Nat → Nat → List UInt8
  | 0, _ => []
  | k + 1, x => hexK k (x / 16) ++ [dg (x % 16)]
theorem hexK_length (k x : Nat) : (hexK k x).length = k := by
  induction k generalizing x with
  | zero => rfl
  | succ k ih => simp [hexK, ih]
theorem hexK_inj {k x y : Nat} (hx : x < 16 ^ k) (hy : y < 16 ^ k) (h : hexK k x = hexK k y) : x = y := by
  induction k generalizing x y with
  | zero => simp at hx hy; omega
  | succ k ih =>
    simp only [hexK] at h
    obtain ⟨h1, h2⟩ := List.append_inj' h rfl
    have h3 : dg (x % 16) = dg (y % 16) := by simpa using h2
    have h4 := dg_inj (Nat.mod_lt _ (by omega)) (Nat.mod_lt _ (by omega)) h3
    have h5 := ih (x := x / 16) (y := y / 16) (by rw [Nat.pow_succ] at hx; omega) (by rw [Nat.pow_succ] at hy; omega) h1
    omega
/-- one digit more, in front -/
theorem hexK_front (k x : Nat) : hexK (k + 1) x = dg (x / 16 ^ k % 16) :: hexK k x := by
  induction k generalizing x with
  | zero => simp [hexK]
  | succ k ih =>
    rw [hexK, ih (x / 16), hexK, Nat.div_div_eq_div_mul, ← Nat.pow_succ']
    rfl

/-- a byte of a text; 0 behind its end -/
def byteAt (l : List UInt8) (i : Nat) : Nat := (l[i]?.map UInt8.toNat).getD 0
theorem byteAt_lt (l : List UInt8) (i : Nat) : byteAt l i < 256 := by
  unfold byteAt
  cases h : l[i]? with
  | none => simp
  | some v => simpa using v.toNat_lt
theorem byteAt_in {l : List UInt8} {i : Nat} (h : i < l.length) : byteAt l i = l[i].toNat := by simp [byteAt, h]
theorem byteAt_out {l : List UInt8} {i : Nat} (h : l.length ≤ i) : byteAt l i = 0 := by simp [byteAt, h]

/-- the number of j bytes from a place on -/
def blkN (l : List UInt8) (at_ : Nat) : Nat → Nat
  | 0 => 0
  | j + 1 => blkN l at_ j * 256 + byteAt l (at_ + j)
theorem blkN_lt (l : List UInt8) (a j : Nat) : blkN l a j < 256 ^ j := by
  induction j with
  | zero => simp [blkN]
  | succ j ih =>
    have hb := byteAt_lt l (a + j)
    rw [blkN, Nat.pow_succ]
    omega
theorem blkN_congr {l m : List UInt8} {a b j : Nat} (h : ∀ i, i < j → byteAt l (a + i) = byteAt m (b + i)) : blkN l a j = blkN m b j := by
  induction j with
  | zero => rfl
  | succ j ih => rw [blkN, blkN, ih (fun i hi => h i (by omega)), h j (by omega)]
theorem blkN_inj {l m : List UInt8} {a b j : Nat} (h : blkN l a j = blkN m b j) : ∀ i, i < j → byteAt l (a + i) = byteAt m (b + i) := by
  induction j with
  | zero => intro i hi; omega
  | succ j ih =>
    rw [blkN, blkN] at h
    have h1 := byteAt_lt l (a + j)
    have h2 := byteAt_lt m (b + j)
    have h3 : blkN l a j = blkN m b j := by omega
    intro i hi
    by_cases e : i = j
    · subst e; omega
    · exact ih h3 i (by omega)

def SEED : Nat := 1442695040888963407
/-- the state after so many blocks -/
def stN (l : List UInt8) : Nat → Nat
  | 0 => SEED ^^^ l.length
  | k + 1 => mixN (stN l k ^^^ blkN l (8 * k) 8)
theorem blk8_lt (l : List UInt8) (a : Nat) : blkN l a 8 < M := by have := blkN_lt l a 8; simpa [M] using this
theorem xor_lt_M {a b : Nat} (ha : a < M) (hb : b < M) : a ^^^ b < M := Nat.xor_lt_two_pow (n := 64) ha hb
theorem stN_lt (l : List UInt8) (hl : l.length < M) (k : Nat) : stN l k < M := by
  cases k with
  | zero => exact xor_lt_M (by decide) hl
  | succ k => exact mixN_lt _

/-- the digest -/
def sumL (l : List UInt8) : List UInt8 := hexK 16 (stN l (l.length / 8 + 1))
theorem sumL_length (l : List UInt8) : (sumL l).length = 16 := hexK_length _ _
theorem sumL_inj {l m : List UInt8} (hl : l.length < M) (hm : m.length < M) (h : sumL l = sumL m) : stN l (l.length / 8 + 1) = stN m (m.length / 8 + 1) :=
  hexK_inj (k := 16) (by have := stN_lt l hl (l.length / 8 + 1); simpa [M] using this) (by have := stN_lt m hm (m.length / 8 + 1); simpa [M] using this) h

theorem ext_bytes {l m : List UInt8} (hlen : l.length = m.length) (h : ∀ i, i < l.length → byteAt l i = byteAt m i) : l = m := by
  apply List.ext_getElem hlen
  intro i h1 h2
  have := h i h1
  rw [byteAt_in h1, byteAt_in h2] at this
  exact UInt8.toNat_inj.1 this

/-- P1.3 -/
theorem short_iff {l m : List UInt8} (hl : l.length ≤ 7) (hm : m.length ≤ 7) : sumL l = sumL m ↔ l = m := by
  constructor
  · intro h
    have hlM : l.length < M := Nat.lt_of_le_of_lt hl (by decide)
    have hmM : m.length < M := Nat.lt_of_le_of_lt hm (by decide)
    have h1 := sumL_inj hlM hmM h
    rw [show l.length / 8 + 1 = 0 + 1 by omega, show m.length / 8 + 1 = 0 + 1 by omega, stN, stN] at h1
    have h2 := mixN_inj (xor_lt_M (stN_lt l hlM 0) (blk8_lt _ _)) (xor_lt_M (stN_lt m hmM 0) (blk8_lt _ _)) h1
    rw [stN, stN, Nat.xor_assoc, Nat.xor_assoc] at h2
    have h3 := xor_left_inj h2
    have low : ∀ z : List UInt8, z.length ≤ 7 → (z.length ^^^ blkN z (8 * 0) 8) % 2 ^ 8 = z.length := by
      intro z hz
      have e : blkN z (8 * 0) 8 % 2 ^ 8 = 0 := by
        rw [blkN, byteAt_out (by omega)]
        omega
      rw [Nat.xor_mod_two_pow, e, Nat.xor_zero]
      exact Nat.mod_eq_of_lt (by omega)
    have h4 : l.length = m.length := by rw [← low l hl, ← low m hm, h3]
    rw [h4] at h3
    have h5 := blkN_inj (xor_left_inj h3)
    refine ext_bytes h4 (fun i hi => ?_)
    have := h5 i (by omega)
    simpa using this
  · intro h; rw [h]

/-- two texts of one length that differ in one block alone -/
theorem block_iff {l m : List UInt8} {p : Nat} (hM : l.length < M) (hlen : l.length = m.length) (hp : 8 * p ≤ l.length)
    (h : ∀ i, i < 8 * p ∨ 8 * p + 8 ≤ i → byteAt l i = byteAt m i) : sumL l = sumL m ↔ l = m := by
  constructor
  · intro hs
    have hmM : m.length < M := by omega
    have before : ∀ k, k ≤ p → stN l k = stN m k := by
      intro k hk
      induction k with
      | zero => rw [stN, stN, hlen]
      | succ k ih => rw [stN, stN, ih (by omega), blkN_congr (fun i hi => h _ (Or.inl (by omega)))]
    have after : ∀ k, p + 1 ≤ k → stN l k = stN m k → stN l (p + 1) = stN m (p + 1) := by
      intro k hk
      induction k with
      | zero => omega
      | succ k ih =>
        intro he
        by_cases e : k = p
        · subst e; exact he
        · refine ih (by omega) ?_
          rw [stN, stN, blkN_congr (l := l) (m := m) (fun i hi => h _ (Or.inr (by omega)))] at he
          exact xor_right_inj (mixN_inj (xor_lt_M (stN_lt l hM _) (blk8_lt _ _)) (xor_lt_M (stN_lt m hmM _) (blk8_lt _ _)) he)
    have h1 := sumL_inj hM hmM hs
    rw [← hlen] at h1
    have h2 := after _ (by omega) h1
    rw [stN, stN, before p (Nat.le_refl p)] at h2
    have h3 := xor_left_inj (mixN_inj (xor_lt_M (stN_lt m hmM _) (blk8_lt _ _)) (xor_lt_M (stN_lt m hmM _) (blk8_lt _ _)) h2)
    have h4 := blkN_inj h3
    refine ext_bytes hlen (fun i hi => ?_)
    by_cases e : i < 8 * p ∨ 8 * p + 8 ≤ i
    · exact h i e
    · have := h4 (i - 8 * p) (by omega)
      rw [show 8 * p + (i - 8 * p) = i by omega] at this
      exact this
  · intro hs; rw [hs]

end Go.Proofs.YtcdnddjoonecdaaDoor.Dig

/-
  The contracts of digest.mix, of the reference mix and of blocks.count: for every number below 2^64 both return the mixed number; for every text the number of its blocks.
-/
set_option maxRecDepth 100000
namespace Go.Proofs.YtcdnddjoonecdaaDoor
open Go.RowKit
theorem ret_int {k : IntKind} {a b : Int} (h : a = b) : Ending.returned (.int k a) = .returned (.int k b) := by rw [h]
theorem mix_form (x : Nat) (hx : x < 18446744073709551616) :
  bits BinOp.xor IntKind.u64
                        (IntKind.u64.wrap
                          (bits BinOp.xor IntKind.u64
                              (IntKind.u64.wrap
                                (bits BinOp.xor IntKind.u64 (↑x) (↑x / 2147483648) * 14029467366897019727))
                              (IntKind.u64.wrap
                                  (bits BinOp.xor IntKind.u64 (↑x) (↑x / 2147483648) * 14029467366897019727) /
                                134217728) *
                            11400714785074694791))
                        (IntKind.u64.wrap
                            (bits BinOp.xor IntKind.u64
                                (IntKind.u64.wrap
                                  (bits BinOp.xor IntKind.u64 (↑x) (↑x / 2147483648) * 14029467366897019727))
                                (IntKind.u64.wrap
                                    (bits BinOp.xor IntKind.u64 (↑x) (↑x / 2147483648) * 14029467366897019727) /
                                  134217728) *
                              11400714785074694791) /
                          8589934592) = ((Dig.mixN x : Nat) : Int) := by
  have h1 := mixStep_u64 x 2147483648 Dig.A1 hx
  have b1 : (x ^^^ x / 2147483648) * Dig.A1 % Dig.M < 18446744073709551616 := Nat.mod_lt _ Dig.M_pos
  have h2 := mixStep_u64 _ 134217728 Dig.A2 b1
  have b2 : ((((x ^^^ x / 2147483648) * Dig.A1 % Dig.M) ^^^ ((x ^^^ x / 2147483648) * Dig.A1 % Dig.M) / 134217728) * Dig.A2 % Dig.M) < 18446744073709551616 := Nat.mod_lt _ Dig.M_pos
  have h3 := xorShift_u64 _ 8589934592 b2
  have e1 : (Dig.A1 : Int) = 14029467366897019727 := rfl
  have e2 : (Dig.A2 : Int) = 11400714785074694791 := rfl
  have e3 : ((2147483648 : Nat) : Int) = 2147483648 := rfl
  have e4 : ((134217728 : Nat) : Int) = 134217728 := rfl
  have e5 : ((8589934592 : Nat) : Int) = 8589934592 := rfl
  rw [e1, e3] at h1
  rw [h1]
  rw [e2, e4] at h2
  erw [h2]
  rw [e5] at h3
  exact h3
theorem mix_any (x : Nat) (hx : x < 18446744073709551616) (w : World) : Calls Tryd.prog 79 #[.int .u64 (x:Int)] w fun e w' => e = .returned (.int .u64 ((Dig.mixN x : Nat) : Int)) ∧ w = w' := by
  go_enter Tryd.func79, Tryd.ntmps79
  go_wp2
  go_ret
  exact ⟨ret_int (mix_form x hx), rfl⟩
theorem refmix_any (x : Nat) (hx : x < 18446744073709551616) (w : World) : Calls Tryd.prog 55 #[.int .u64 (x:Int)] w fun e w' => e = .returned (.int .u64 ((Dig.mixN x : Nat) : Int)) ∧ w = w' := by
  go_enter Tryd.func55, Tryd.ntmps55
  go_wp2
  go_ret
  exact ⟨ret_int (mix_form x hx), rfl⟩
theorem count_any (s : ByteArray) (w : World) (hs : s.size ≤ maxLen) : Calls Tryd.prog 78 #[.string s] w fun e w' => e = .returned (.int .i64 ((s.size / 8 + 1 : Nat) : Int)) ∧ w = w' := by
  unfold maxLen at hs
  go_enter Tryd.func78, Tryd.ntmps78
  go_wp2
  go_ret
  exact ⟨ret_int (by omega), rfl⟩
end Go.Proofs.YtcdnddjoonecdaaDoor

/-
  The contract of block.number: for every eight bytes the number that they make.
-/
set_option maxRecDepth 100000
namespace Go.Proofs.YtcdnddjoonecdaaDoor
open Go.RowKit
theorem or0 (b : Nat) (hb : b < 256) : bits BinOp.or IntKind.u64 0 (b : Int) = ((0 * 256 + b : Nat) : Int) := by
  have := u64_or_nat 0 b (by omega) (by omega)
  simp at this ⊢
  exact this
theorem orStep (n b : Nat) (hn : n < 72057594037927936) (hb : b < 256) : bits BinOp.or IntKind.u64 (IntKind.u64.wrap ((n : Int) * 256)) (b : Int) = ((n * 256 + b : Nat) : Int) := by
  have e : IntKind.u64.wrap ((n : Int) * 256) = ((n * 256 : Nat) : Int) := by
    rw [IntKind.wrap_u64]; omega
  rw [e, u64_or_nat _ _ (by omega) (by omega), nat_join 8 (n * 256) b (by omega) (by omega)]
def arr8 (l : List UInt8) (a : Nat) : Value := .agg #[.int .u8 (Dig.byteAt l a : Int), .int .u8 (Dig.byteAt l (a+1) : Int), .int .u8 (Dig.byteAt l (a+2) : Int), .int .u8 (Dig.byteAt l (a+3) : Int), .int .u8 (Dig.byteAt l (a+4) : Int), .int .u8 (Dig.byteAt l (a+5) : Int), .int .u8 (Dig.byteAt l (a+6) : Int), .int .u8 (Dig.byteAt l (a+7) : Int)]
theorem number_gen (b0 b1 b2 b3 b4 b5 b6 b7 : Nat) (h0 : b0 < 256) (h1 : b1 < 256) (h2 : b2 < 256) (h3 : b3 < 256) (h4 : b4 < 256) (h5 : b5 < 256) (h6 : b6 < 256) (h7 : b7 < 256) (w : World) :
   Calls Tryd.prog 80 #[.agg #[.int .u8 (b0:Int), .int .u8 (b1:Int), .int .u8 (b2:Int), .int .u8 (b3:Int), .int .u8 (b4:Int), .int .u8 (b5:Int), .int .u8 (b6:Int), .int .u8 (b7:Int)]] w fun e w' => e = .returned (.int .u64 (((((((((0 * 256 + b0) * 256 + b1) * 256 + b2) * 256 + b3) * 256 + b4) * 256 + b5) * 256 + b6) * 256 + b7 : Nat) : Int)) ∧ Below w.heap.size w w' := by
  have i0 : ∀ w, (Instr.index 95 (.agg #[.int .u8 (b0:Int), .int .u8 (b1:Int), .int .u8 (b2:Int), .int .u8 (b3:Int), .int .u8 (b4:Int), .int .u8 (b5:Int), .int .u8 (b6:Int), .int .u8 (b7:Int)]) (.int .i64 0)).run Tryd.prog w = .ok (.int .u8 (b0:Int)) w := fun _ => by kernel_rfl
  have i1 : ∀ w, (Instr.index 95 (.agg #[.int .u8 (b0:Int), .int .u8 (b1:Int), .int .u8 (b2:Int), .int .u8 (b3:Int), .int .u8 (b4:Int), .int .u8 (b5:Int), .int .u8 (b6:Int), .int .u8 (b7:Int)]) (.int .i64 1)).run Tryd.prog w = .ok (.int .u8 (b1:Int)) w := fun _ => by kernel_rfl
  have i2 : ∀ w, (Instr.index 95 (.agg #[.int .u8 (b0:Int), .int .u8 (b1:Int), .int .u8 (b2:Int), .int .u8 (b3:Int), .int .u8 (b4:Int), .int .u8 (b5:Int), .int .u8 (b6:Int), .int .u8 (b7:Int)]) (.int .i64 2)).run Tryd.prog w = .ok (.int .u8 (b2:Int)) w := fun _ => by kernel_rfl
  have i3 : ∀ w, (Instr.index 95 (.agg #[.int .u8 (b0:Int), .int .u8 (b1:Int), .int .u8 (b2:Int), .int .u8 (b3:Int), .int .u8 (b4:Int), .int .u8 (b5:Int), .int .u8 (b6:Int), .int .u8 (b7:Int)]) (.int .i64 3)).run Tryd.prog w = .ok (.int .u8 (b3:Int)) w := fun _ => by kernel_rfl
  have i4 : ∀ w, (Instr.index 95 (.agg #[.int .u8 (b0:Int), .int .u8 (b1:Int), .int .u8 (b2:Int), .int .u8 (b3:Int), .int .u8 (b4:Int), .int .u8 (b5:Int), .int .u8 (b6:Int), .int .u8 (b7:Int)]) (.int .i64 4)).run Tryd.prog w = .ok (.int .u8 (b4:Int)) w := fun _ => by kernel_rfl
  have i5 : ∀ w, (Instr.index 95 (.agg #[.int .u8 (b0:Int), .int .u8 (b1:Int), .int .u8 (b2:Int), .int .u8 (b3:Int), .int .u8 (b4:Int), .int .u8 (b5:Int), .int .u8 (b6:Int), .int .u8 (b7:Int)]) (.int .i64 5)).run Tryd.prog w = .ok (.int .u8 (b5:Int)) w := fun _ => by kernel_rfl
  have i6 : ∀ w, (Instr.index 95 (.agg #[.int .u8 (b0:Int), .int .u8 (b1:Int), .int .u8 (b2:Int), .int .u8 (b3:Int), .int .u8 (b4:Int), .int .u8 (b5:Int), .int .u8 (b6:Int), .int .u8 (b7:Int)]) (.int .i64 6)).run Tryd.prog w = .ok (.int .u8 (b6:Int)) w := fun _ => by kernel_rfl
  have i7 : ∀ w, (Instr.index 95 (.agg #[.int .u8 (b0:Int), .int .u8 (b1:Int), .int .u8 (b2:Int), .int .u8 (b3:Int), .int .u8 (b4:Int), .int .u8 (b5:Int), .int .u8 (b6:Int), .int .u8 (b7:Int)]) (.int .i64 7)).run Tryd.prog w = .ok (.int .u8 (b7:Int)) w := fun _ => by kernel_rfl
  go_enter Tryd.func80, Tryd.ntmps80
  go_wp2
  refine wp_loop_rounds 9 ?_
  repeat (rw [rounds_succ]; go_wp2)
  go_ret
  refine ⟨ret_int ?_, (Below.refl _ _).alloc (Nat.le_refl _) _⟩
  rw [or0 _ h0, orStep _ _ (by omega) h1, orStep _ _ (by omega) h2, orStep _ _ (by omega) h3, orStep _ _ (by omega) h4, orStep _ _ (by omega) h5, orStep _ _ (by omega) h6, orStep _ _ (by omega) h7]
theorem number_any (l : List UInt8) (a : Nat) (w : World) : Calls Tryd.prog 80 #[arr8 l a] w fun e w' => e = .returned (.int .u64 (Dig.blkN l a 8 : Nat)) ∧ Below w.heap.size w w' := by
  have hb := Dig.byteAt_lt l
  refine (number_gen _ _ _ _ _ _ _ _ (hb _) (hb _) (hb _) (hb _) (hb _) (hb _) (hb _) (hb _) w).mono ?_
  rintro e w' ⟨rfl, h⟩
  exact ⟨by simp [Dig.blkN], h⟩
end Go.Proofs.YtcdnddjoonecdaaDoor

/-
  The contract of blocks.at: for every text and block within it, the eight bytes of the block, 0 behind the end.
-/
set_option maxRecDepth 100000
namespace Go.Proofs.YtcdnddjoonecdaaDoor
open Go.RowKit
def strCells (s : ByteArray) (n : Nat) : List Value := (s.data.toList.map fun b => Value.int .u8 (b.toNat : Int)).take n
theorem run_copy_str {P : Program} (w : World) (dT sT ty elem : TypeId) (g o dLen dCap : Nat) (s : ByteArray) (cur : Array Value) (t : TypeId)
    (hu : P.underlying dT = some (.slice elem)) (hs : (P.info? elem).map (·.size) = some 1)
    (hg : w.heap[g]? = some (.cells cur t (0, 0))) (hfit : o + Nat.min s.size dLen ≤ cur.size) :
    (Builtin.copy_ #[dT, sT] ty #[.slice (some ⟨g, o, none⟩) dLen dCap, .string s]).run P w =
      .ok (goInt (Nat.min s.size dLen)) (w.setRow g (cur.toList.take o ++ strCells s (Nat.min s.size dLen) ++ cur.toList.drop (o + Nat.min s.size dLen)).toArray) := by
  have hlen : (strCells s (Nat.min s.size dLen)).length = Nat.min s.size dLen := by
    have : s.data.toList.length = s.size := by simp
    simp only [strCells, List.length_map, List.length_take, this]
    exact Nat.min_eq_left (Nat.min_le_left _ _)
  have hst := run_storeCells_at P g o t (strCells s (Nat.min s.size dLen)) 0 cur w hg (by rw [hlen]; simpa using hfit) (by intro v hv; have hv' := List.mem_of_mem_take hv; simp only [List.mem_map] at hv'; obtain ⟨b, _, rfl⟩ := hv'; rfl)
  rw [hlen] at hst
  cases hq : P.info? elem with
  | none => simp [hq] at hs
  | some i =>
    simp only [Nat.add_zero] at hst
    simp only [Builtin.copy_, Builtin.lenOf, Builtin.firstCells, sizeOf, typeInfo]
    simp [run_underlying hu, hq]
    rw [show List.take (s.size.min dLen) (List.map (fun b => Value.int IntKind.u8 ↑b.toNat) s.data.toList) = strCells s (s.size.min dLen) from rfl, hst]
    simp
theorem step_copy_str {P : Program} {ops : Array Oper} {o : Oper} {a : Act} {w : World} {K : Act → World → Prop} {Q : Exit → Act → World → Prop} {E : Prop} (hgd : o.guard = none) (d s : Operand) (dT sT : TypeId)
    (ho : o.op = .call { callee := .builtin .copy, args := #[d, s], argTypes := #[dT, sT] }) (elem : TypeId) (hu : P.underlying dT = some (.slice elem)) (hsz : (P.info? elem).map (·.size) = some 1)
    (g off dLen dCap : Nat) (str : ByteArray) (hd : a.eval d = .slice (some ⟨g, off, none⟩) dLen dCap) (hs : a.eval s = .string str)
    (cur : Array Value) (t : TypeId) (hg : w.heap[g]? = some (.cells cur t (0, 0))) (hfit : off + Nat.min str.size dLen ≤ cur.size)
    (B : Nat) (w0 : World) (hb : RowKit.Below B w0 w) (hBg : B ≤ g)
    (h : ∀ w', RowKit.Hid (w'.heap[g]? = some (.cells (cur.toList.take off ++ strCells str (Nat.min str.size dLen) ++ cur.toList.drop (off + Nat.min str.size dLen)).toArray t (0, 0))) → RowKit.Below B w0 w' → K (a.put o.dst (goInt (Nat.min str.size dLen))) w') :
    if Region.wanted o (yielded ops a.tmps) = true then Oper.wp P o a w K Q else E := by
  have hw : Region.wanted o (yielded ops a.tmps) = true := by simp [Region.wanted, hgd]
  rw [if_pos hw]
  have hrun := run_copy_str (P := P) w dT sT o.type elem g off dLen dCap str cur t hu hsz hg hfit
  unfold Oper.wp
  simp [execOp, ho, resolve, invoke, builtin, hd, hs, hrun, Result.andThen]
  exact h _ (show _ = _ by simpa using setRow_heap w g _ _ t _ hg) (below_setRow hb hBg _)
def zero8 : Array Value := #[Value.int IntKind.u8 0, Value.int IntKind.u8 0, Value.int IntKind.u8 0, Value.int IntKind.u8 0, Value.int IntKind.u8 0, Value.int IntKind.u8 0, Value.int IntKind.u8 0, Value.int IntKind.u8 0]
def row8 (l : List UInt8) (a : Nat) : Array Value := #[.int .u8 (Dig.byteAt l a : Int), .int .u8 (Dig.byteAt l (a+1) : Int), .int .u8 (Dig.byteAt l (a+2) : Int), .int .u8 (Dig.byteAt l (a+3) : Int), .int .u8 (Dig.byteAt l (a+4) : Int), .int .u8 (Dig.byteAt l (a+5) : Int), .int .u8 (Dig.byteAt l (a+6) : Int), .int .u8 (Dig.byteAt l (a+7) : Int)]
theorem row8_eq (s : ByteArray) (i : Nat) (hi : 8 * i ≤ s.size) : (List.take 0 zero8.toList ++ strCells (s.extract (i * 8) s.size) ((s.extract (i * 8) s.size).size.min 8) ++ List.drop (0 + (s.extract (i * 8) s.size).size.min 8) zero8.toList).toArray = row8 s.data.toList (8 * i) := by
  have hsz : (s.extract (i * 8) s.size).size = s.size - i * 8 := by simp
  have hl : s.data.toList.length = s.size := by simp
  have hb : ∀ j, j < 8 → (row8 s.data.toList (8 * i)).toList[j]? = some (.int .u8 (Dig.byteAt s.data.toList (8 * i + j) : Int)) := by
    intro j hj
    match j, hj with
    | 0, _ => rfl
    | 1, _ => rfl
    | 2, _ => rfl
    | 3, _ => rfl
    | 4, _ => rfl
    | 5, _ => rfl
    | 6, _ => rfl
    | 7, _ => rfl
  have hz : ∀ j, j < 8 → zero8.toList[j]? = some (.int .u8 0) := by
    intro j hj
    match j, hj with
    | 0, _ => rfl
    | 1, _ => rfl
    | 2, _ => rfl
    | 3, _ => rfl
    | 4, _ => rfl
    | 5, _ => rfl
    | 6, _ => rfl
    | 7, _ => rfl
  have hz8 : zero8.toList.length = 8 := rfl
  have hr8 : (row8 s.data.toList (8 * i)).toList.length = 8 := rfl
  rw [hsz]
  have hmin : (s.size - i * 8).min 8 = Nat.min (s.size - i * 8) 8 := rfl
  have hlenS : (strCells (s.extract (i * 8) s.size) ((s.size - i * 8).min 8)).length = (s.size - i * 8).min 8 := by
    simp [strCells]
  apply Array.ext'
  simp only [List.take_zero, List.nil_append, Nat.zero_add]
  apply List.ext_getElem?
  intro j
  by_cases hj : j < 8
  · rw [hb j hj]
    by_cases h1 : j < (s.size - i * 8).min 8
    · rw [List.getElem?_append_left (by rw [hlenS]; exact h1)]
      have h2 : j < s.size - i * 8 := Nat.lt_of_lt_of_le h1 (Nat.min_le_left _ _)
      simp only [strCells]
      rw [List.getElem?_take, if_pos h1, List.getElem?_map]
      have h3 : (s.extract (i * 8) s.size).data.toList[j]? = s.data.toList[8 * i + j]? := by
        simp [ByteArray.data_extract]
        rw [List.getElem?_take, if_pos h2, List.getElem?_drop, Nat.mul_comm i 8]; simp
      rw [h3]
      have h4 : 8 * i + j < s.data.toList.length := by rw [hl]; omega
      rw [List.getElem?_eq_getElem h4]
      simp only [Option.map_some]
      rw [Dig.byteAt_in h4]
    · have h2 : s.size - i * 8 ≤ j := by
        rcases Nat.le_total (s.size - i * 8) 8 with h | h
        · have : (s.size - i * 8).min 8 = s.size - i * 8 := Nat.min_eq_left h
          omega
        · have : (s.size - i * 8).min 8 = 8 := Nat.min_eq_right h
          omega
      have h1' : (s.size - i * 8).min 8 ≤ j := by omega
      rw [List.getElem?_append_right (by rw [hlenS]; exact h1'), hlenS, List.getElem?_drop]
      rw [show (s.size - i * 8).min 8 + (j - (s.size - i * 8).min 8) = j by omega, hz j hj, Dig.byteAt_out (by rw [hl]; omega)]
      rfl
  · have hle : (s.size - i * 8).min 8 ≤ 8 := Nat.min_le_right _ _
    rw [List.getElem?_eq_none, List.getElem?_eq_none]
    · rw [hr8]; omega
    · rw [List.length_append, hlenS, List.length_drop, hz8]; omega
theorem heap_last (w : World) (o : Obj) : (w.alloc o).heap[w.heap.size]? = some o := by show (w.heap.push o)[w.heap.size]? = _; simp
theorem heap_prev (w : World) (o p : Obj) : ((w.alloc o).alloc p).heap[w.heap.size]? = some o := by rw [Below.heap_alloc _ _ _ (by simp)]; exact heap_last w o
theorem heap_last2 (w : World) (o p : Obj) : ((w.alloc o).alloc p).heap[w.heap.size + 1]? = some p := by
  have := heap_last (w.alloc o) p
  simpa using this
set_option maxHeartbeats 400000 in
theorem at_any (s : ByteArray) (i : Nat) (w : World) (hs : s.size ≤ maxLen) (hi : 8 * i ≤ s.size) :
   Calls Tryd.prog 77 #[.string s, .int .i64 (i:Int)] w fun e w' => e = .returned (arr8 s.data.toList (8 * i)) ∧ Below w.heap.size w w' := by
  unfold maxLen at hs
  have e1 : IntKind.i64.wrap ((i : Int) * 8) = (i : Int) * 8 := IntWalk.i64_in _ (by omega)
  have e2 : 0 ≤ (i : Int) * 8 := by omega
  have e3 : (i : Int) * 8 ≤ s.size := by omega
  have e4 : ((i : Int) * 8).toNat = i * 8 := by omega
  go_enter Tryd.func77, Tryd.ntmps77
  go_wp2
  go_region_law (first | (refine step_copy_str rfl (.tmp 6) (.tmp 10) 58 91 rfl 5 Tryd.underlying58 (by kernel_rfl) (w.heap.size + 1) 0 8 8 (s.extract (i * 8) s.size) rfl rfl #[Value.int IntKind.u8 0, Value.int IntKind.u8 0, Value.int IntKind.u8 0, Value.int IntKind.u8 0, Value.int IntKind.u8 0, Value.int IntKind.u8 0, Value.int IntKind.u8 0, Value.int IntKind.u8 0] 95 ?h1 ?h2 (w.heap.size + 1) _ (Below.refl _ _) (Nat.le_refl _) ?_; (case h1 => exact heap_last2 w _ _); (case h2 => exact (by rw [Nat.zero_add]; exact Nat.min_le_right _ _)); intro w2 hg2 hb2))
  have hg3 : w2.heap[w.heap.size + 1]? = some (.cells (row8 s.data.toList (8 * i)) 95 (0, 0)) := by
    rw [← row8_eq s i hi]; exact hg2.out
  have hg4 : w2.heap[w.heap.size]? = some (.cells #[Value.int IntKind.u8 0, Value.int IntKind.u8 0, Value.int IntKind.u8 0, Value.int IntKind.u8 0, Value.int IntKind.u8 0, Value.int IntKind.u8 0, Value.int IntKind.u8 0, Value.int IntKind.u8 0] 95 (0, 0)) := (hb2.block _ (Nat.lt_succ_self _)).trans (heap_prev w _ _)
  have hsz := hb2.size
  have a0 := Lib.cell_of_heap hg3 0; have a1 := Lib.cell_of_heap hg3 1; have a2 := Lib.cell_of_heap hg3 2; have a3 := Lib.cell_of_heap hg3 3
  have a4 := Lib.cell_of_heap hg3 4; have a5 := Lib.cell_of_heap hg3 5; have a6 := Lib.cell_of_heap hg3 6; have a7 := Lib.cell_of_heap hg3 7
  have c0 := Lib.cell_of_heap hg4 0; have c1 := Lib.cell_of_heap hg4 1; have c2 := Lib.cell_of_heap hg4 2; have c3 := Lib.cell_of_heap hg4 3
  have c4 := Lib.cell_of_heap hg4 4; have c5 := Lib.cell_of_heap hg4 5; have c6 := Lib.cell_of_heap hg4 6; have c7 := Lib.cell_of_heap hg4 7
  have f0 := Lib.frozen_of_heap hg4 0; have f1 := Lib.frozen_of_heap hg4 1; have f2 := Lib.frozen_of_heap hg4 2; have f3 := Lib.frozen_of_heap hg4 3
  have f4 := Lib.frozen_of_heap hg4 4; have f5 := Lib.frozen_of_heap hg4 5; have f6 := Lib.frozen_of_heap hg4 6; have f7 := Lib.frozen_of_heap hg4 7
  simp [row8] at a0 a1 a2 a3 a4 a5 a6 a7 c0 c1 c2 c3 c4 c5 c6 c7
  clear hg2 hg3 hg4 e1 e2 e3 e4
  have hB : Below w.heap.size w w2 := ((((Below.refl _ _).alloc (Nat.le_refl _) _).alloc (by simp) _).drew).trans (hb2.mono (by omega))
  clear hb2
  go_wp2
  refine bodyPost_ret (v := arr8 s.data.toList (8 * i)) (by simp [results, Tryd.results77, go_sem, arr8, c0, c1, c2, c3, c4, c5, c6, c7]) rfl ⟨rfl, ?_⟩
  exact ((((((((hB.setCell (Nat.le_refl _) _).setCell (Nat.le_refl _) _).setCell (Nat.le_refl _) _).setCell (Nat.le_refl _) _).setCell (Nat.le_refl _) _).setCell (Nat.le_refl _) _).setCell (Nat.le_refl _) _).setCell (Nat.le_refl _) _)
end Go.Proofs.YtcdnddjoonecdaaDoor

/-
  The contract of hexadecimal: for every number below 2^64 its sixteen hexadecimal digits.
-/
set_option maxRecDepth 100000
namespace Go.Proofs.YtcdnddjoonecdaaDoor
open Go.RowKit
def hrow (k x : Nat) : List Value := List.replicate (16 - k) (.int .u8 0) ++ (Dig.hexK k x).map fun b => .int .u8 (b.toNat : Int)
def sh (k x : Nat) : Nat := x / 16 ^ k
def low (k x : Nat) : Nat := sh k x % 16
def dgn (k x : Nat) : Nat := (Dig.dg (low k x)).toNat
theorem low_lt (k x : Nat) : low k x < 16 := Nat.mod_lt _ (by omega)
theorem sh_lt (k x : Nat) (h : x < 18446744073709551616) : sh k x < 18446744073709551616 := Nat.lt_of_le_of_lt (Nat.div_le_self _ _) h
theorem sh_succ (k x : Nat) : (sh k x : Int) / 16 = (sh (k + 1) x : Nat) := by
  unfold sh; rw [Nat.pow_succ, ← Nat.div_div_eq_div_mul]; omega
theorem and_low (k x : Nat) (h : x < 18446744073709551616) : bits .and .u64 (sh k x : Int) 15 = (low k x : Nat) := by
  have := u64_and_nat (sh k x) 15 (sh_lt k x h) (by omega)
  rw [nat_mask4] at this
  exact this
theorem hexIndex (w : World) (k x : Nat) : (Instr.index 9 (.string ⟨#[48, 49, 50, 51, 52, 53, 54, 55, 56, 57, 97, 98, 99, 100, 101, 102]⟩) (.int .u64 (low k x : Nat))).run Tryd.prog w = .ok (.int .u8 (dgn k x : Nat)) w := by
  have h := low_lt k x
  unfold dgn
  generalize low k x = n at h
  match n, h with
  | 0, _ => rfl
  | 1, _ => rfl
  | 2, _ => rfl
  | 3, _ => rfl
  | 4, _ => rfl
  | 5, _ => rfl
  | 6, _ => rfl
  | 7, _ => rfl
  | 8, _ => rfl
  | 9, _ => rfl
  | 10, _ => rfl
  | 11, _ => rfl
  | 12, _ => rfl
  | 13, _ => rfl
  | 14, _ => rfl
  | 15, _ => rfl
  | n + 16, h => exact absurd h (by omega)
theorem hrow_get (k x j : Nat) (hj : j < 16 - k) : (hrow k x).toArray[j]? = some (.int .u8 0) := by
  simp [hrow, List.getElem?_append, hj]
theorem hrow_set (k x : Nat) (hk : k < 16) : (hrow k x).toArray.setIfInBounds (15 - k) (.int .u8 (dgn k x : Nat)) = (hrow (k + 1) x).toArray := by
  apply Array.ext'
  simp only [Array.toList_setIfInBounds]
  unfold hrow
  rw [Dig.hexK_front]
  rw [show 16 - k = (15 - k) + 1 by omega, List.replicate_succ', List.append_assoc, show 16 - (k + 1) = 15 - k by omega]
  rw [List.set_append_right _ _ (by simp)]
  simp [dgn, low, sh]
theorem foldl_push (l : List UInt8) (a : ByteArray) : (l.map fun b => (b.toNat : Int)).foldl (fun r n => r.push (UInt8.ofNat n.toNat)) a = ⟨a.data ++ l.toArray⟩ := by
  induction l generalizing a with
  | nil => simp
  | cons b l ih =>
    rw [List.map_cons, List.foldl_cons, ih]
    congr 1
    apply Array.ext'
    simp
theorem bytesConv (l : List UInt8) (b off : Nat) (cap : Nat) (w : World) (h : ∀ j (hj : j < l.length), w.cell? ⟨b, off + j, none⟩ = some (.int .u8 (l[j].toNat : Int))) :
    (convert 58 9 (.slice (some ⟨b, off, none⟩) l.length cap)).run Tryd.prog w = .ok (.string ⟨l.toArray⟩) w := by
  rw [run_convert_bytes_string w 58 9 5 _ _ _ Tryd.underlying58 Tryd.underlying5 Tryd.underlying9]
  have hl := run_loadCells_list (P := Tryd.prog) w ⟨b, off, none⟩ (l.map fun c => Value.int .u8 (c.toNat : Int)) (by
    intro j v hj
    rw [List.getElem?_map] at hj
    have hlt : j < l.length := by
      rcases Nat.lt_or_ge j l.length with h' | h'
      · exact h'
      · rw [List.getElem?_eq_none h'] at hj; simp at hj
    rw [List.getElem?_eq_getElem hlt] at hj
    simp only [Option.map_some, Option.some.injEq] at hj
    subst hj
    have := h j hlt
    rw [show (⟨b, off, none⟩ : Addr).add j = ⟨b, off + j, none⟩ from by unfold Addr.add; split <;> simp_all]; exact this)
  rw [List.length_map] at hl
  have hr := run_bytesToString (P := Tryd.prog) w ⟨b, off, none⟩ l.length cap (l.map fun c => (c.toNat : Int)) (by rw [hl, List.map_map]; rfl)
  rw [hr, foldl_push, show ByteArray.empty.data ++ l.toArray = l.toArray from by simp]
theorem hexConv (x b : Nat) (w : World) (hg : w.heap[b]? = some (.cells (hrow 16 x).toArray 111 (0, 0))) :
    (convert 58 9 (.slice (some ⟨b, 0, none⟩) 16 16)).run Tryd.prog w = .ok (.string ⟨(Dig.hexK 16 x).toArray⟩) w := by
  have hl : (Dig.hexK 16 x).length = 16 := Dig.hexK_length 16 x
  have h := bytesConv (Dig.hexK 16 x) b 0 16 w (by
    intro j hj
    rw [Lib.cell_of_heap hg]
    simp [hrow, hj])
  rw [hl] at h
  exact h
theorem hex_any (x : Nat) (hx : x < 18446744073709551616) (w : World) :
   Calls Tryd.prog 81 #[.int .u64 (x:Int)] w fun e w' => e = .returned (.string ⟨(Dig.hexK 16 x).toArray⟩) ∧ Below w.heap.size w w' := by
  go_enter Tryd.func81, Tryd.ntmps81
  go_wp2
  go_loopw [0, 5] (fun x0 i wr => ∃ k : Nat, k ≤ 16 ∧ i = .int .i64 k ∧ x0 = .int .u64 (sh k x : Int) ∧ Hid (wr.heap[w.heap.size]? = some (.cells (hrow k x).toArray 111 (0, 0))) ∧ Below w.heap.size w wr) (fun _ i _ => 16 - (intOf i).toNat)
  case atStart => exact ⟨0, by omega, rfl, by simp [sh], (show _ = _ from heap_last w _), (Below.refl _ _).alloc (Nat.le_refl _) _⟩
  case round =>
    obtain ⟨k, hk, rfl, rfl, hg, hB⟩ := hrel
    by_cases hlt : k < 16
    · have hand := and_low k x hx
      have hix := fun w => hexIndex w k x
      have c0 : wr.cell? ⟨w.heap.size, 15 - k, none⟩ = some (.int .u8 0) := by
        rw [Lib.cell_of_heap hg.out]; exact hrow_get k x _ (by omega)
      have f0 : wr.frozen? ⟨w.heap.size, 15 - k, none⟩ = false := Lib.frozen_of_heap hg.out _
      go_wp2
      go_roundw
      case rel =>
        refine ⟨k + 1, by omega, by go_num, ?_, ?_, hB.setCell (Nat.le_refl _) _⟩
        · rw [sh_succ]
        · show _ = _
          rw [setCell_eq_setRow _ _ _ _ _ _ _ hg.out, setRow_heap _ _ _ _ _ _ hg.out, hrow_set k x hlt]
      case measure => simp [intOf]; omega
    · obtain rfl : k = 16 := by omega
      have hconv : (convert 58 9 (.slice (some ⟨w.heap.size, 0, none⟩) 16 16)).run Tryd.prog wr = .ok (.string ⟨(Dig.hexK 16 x).toArray⟩) wr := hexConv x _ wr hg.out
      go_wp2
      go_ret
      exact ⟨rfl, hB⟩
end Go.Proofs.YtcdnddjoonecdaaDoor

/-
  The contract of digest.Sum: for every text its digest, as the plain function sumL gives it.
-/
set_option maxRecDepth 100000
namespace Go.Proofs.YtcdnddjoonecdaaDoor
open Go.RowKit
def sumB (s : ByteArray) : ByteArray := ⟨(Dig.sumL s.data.toList).toArray⟩
/-- the state after so many blocks -/
def stB (s : ByteArray) (k : Nat) : Nat := Dig.stN s.data.toList k
def blB (s : ByteArray) (k : Nat) : Nat := Dig.blkN s.data.toList (8 * k) 8
theorem len_lt (s : ByteArray) (hs : s.size ≤ maxLen) : s.data.toList.length < Dig.M := by
  have : s.data.toList.length = s.size := by simp
  unfold maxLen at hs
  rw [this]; unfold Dig.M; omega
theorem stB_lt (s : ByteArray) (hs : s.size ≤ maxLen) (k : Nat) : stB s k < 18446744073709551616 := Dig.stN_lt _ (len_lt s hs) k
theorem stB_zero (s : ByteArray) (hs : s.size ≤ maxLen) : bits .xor .u64 1442695040888963407 (s.size : Int) = (stB s 0 : Nat) := by
  have h : s.data.toList.length = s.size := by simp
  unfold maxLen at hs
  have := u64_xor_nat 1442695040888963407 s.size (by omega) (by omega)
  unfold stB Dig.stN Dig.SEED
  rw [h]
  exact this
theorem stB_step (s : ByteArray) (hs : s.size ≤ maxLen) (k : Nat) : bits .xor .u64 (stB s k : Nat) (Dig.blkN s.data.toList (8 * k) 8 : Nat) = (stB s k ^^^ blB s k : Nat) :=
  u64_xor_nat _ _ (stB_lt s hs k) (Dig.blk8_lt _ _)
theorem stB_succ (s : ByteArray) (k : Nat) : Dig.mixN (stB s k ^^^ blB s k) = stB s (k + 1) := rfl
theorem xor_lt (s : ByteArray) (hs : s.size ≤ maxLen) (k : Nat) : stB s k ^^^ blB s k < 18446744073709551616 := Dig.xor_lt_M (stB_lt s hs k) (Dig.blk8_lt _ _)
theorem sumB_eq (s : ByteArray) : (⟨(Dig.hexK 16 (stB s (s.size / 8 + 1))).toArray⟩ : ByteArray) = sumB s := by
  unfold sumB stB Dig.sumL
  rw [show s.data.toList.length = s.size by simp]
set_option maxHeartbeats 400000 in
theorem sum_any (s : ByteArray) (w : World) (hs : s.size ≤ maxLen) :
   Calls Tryd.prog 71 #[.string s] w fun e w' => e = .returned (.string (sumB s)) ∧ Below w.heap.size w w' := by
  have hs' := hs
  unfold maxLen at hs
  have hst0 := stB_zero s hs'
  go_enter Tryd.func71, Tryd.ntmps71
  go_wp2_with (go_at_call 78; refine (count_any s _ hs').mono ?_; rintro e w' ⟨rfl, rfl⟩)
  go_loopw [5, 16] (fun st i wr => ∃ k : Nat, k ≤ s.size / 8 + 1 ∧ i = .int .i64 k ∧ st = .int .u64 (stB s k : Nat) ∧ Below w.heap.size w wr) (fun _ i _ => s.size / 8 + 1 - (intOf i).toNat)
  case atStart => exact ⟨0, by omega, rfl, rfl, Below.refl _ _⟩
  case round =>
    obtain ⟨k, hk, rfl, rfl, hB⟩ := hrel
    clear hst0
    by_cases hlt : k < s.size / 8 + 1
    · have hmx := stB_step s hs' k
      go_wp2_with fail
      refine (at_any s k _ hs' (by omega)).mono ?_
      rintro e w1 ⟨rfl, hB1⟩
      go_wp2_with fail
      refine (number_any _ _ _).mono ?_
      rintro e w2 ⟨rfl, hB2⟩
      go_wp2_with fail
      refine (mix_any _ (xor_lt s hs' k) _).mono ?_
      rintro e w3 ⟨rfl, rfl⟩
      go_wp2_with fail
      go_roundw
      case rel => exact ⟨k + 1, by omega, by go_num, by rw [stB_succ], (hB.trans (hB1.mono hB.size)).trans (hB2.mono (Nat.le_trans hB.size hB1.size))⟩
      case measure => simp [intOf]; omega
    · obtain rfl : k = s.size / 8 + 1 := by omega
      go_wp2_with fail
      refine (hex_any _ (stB_lt s hs' _) _).mono ?_
      rintro e w1 ⟨rfl, hB1⟩
      go_wp2_with fail
      go_ret
      exact ⟨by rw [← sumB_eq s]; rfl, hB.trans (hB1.mono hB.size)⟩
theorem sumB_size (s : ByteArray) : (sumB s).size = 16 := by
  show (Dig.sumL s.data.toList).toArray.size = 16
  simp [Dig.sumL_length]
end Go.Proofs.YtcdnddjoonecdaaDoor

/-
  The contract of the reference Sum: for every text of at most 2^47 bytes the same digest.
-/
set_option maxRecDepth 100000
namespace Go.Proofs.YtcdnddjoonecdaaDoor
open Go.RowKit
def bkB (s : ByteArray) (k j : Nat) : Nat := Dig.blkN s.data.toList (8 * k) j
theorem bkB_lt (s : ByteArray) (k j : Nat) (h : j < 8) : bkB s k j < 72057594037927936 := by
  have h1 : bkB s k j < 256 ^ j := Dig.blkN_lt s.data.toList (8 * k) j
  have h2 : 256 ^ j ≤ 256 ^ 7 := Nat.pow_le_pow_right (n := 256) (Nat.le_of_ble_eq_true rfl) (Nat.le_of_lt_succ h)
  exact Nat.lt_of_lt_of_le h1 h2
theorem bkB_out (s : ByteArray) (k j : Nat) (h : s.size ≤ 8 * k + j) : bkB s k (j + 1) = bkB s k j * 256 := by
  unfold bkB
  rw [Dig.blkN, Dig.byteAt_out (by simpa using h), Nat.add_zero]
theorem bkB_in (s : ByteArray) (k j : Nat) (h : 8 * k + j < s.size) : bkB s k (j + 1) = bkB s k j * 256 + (s[8 * k + j]).toNat := by
  unfold bkB
  rw [Dig.blkN, Dig.byteAt_in (by simpa using h)]; rfl
theorem hexCut (w : World) (k x : Nat) : (Instr.slice 9 (.string ⟨#[48, 49, 50, 51, 52, 53, 54, 55, 56, 57, 97, 98, 99, 100, 101, 102]⟩) (some (.int .u64 (low k x : Nat))) (some (.int .u64 ((low k x : Nat) + 1))) none).run Tryd.prog w = .ok (.string ⟨#[Dig.dg (low k x)]⟩) w := by
  have h := low_lt k x
  generalize low k x = n at h
  match n, h with
  | 0, _ => rfl
  | 1, _ => rfl
  | 2, _ => rfl
  | 3, _ => rfl
  | 4, _ => rfl
  | 5, _ => rfl
  | 6, _ => rfl
  | 7, _ => rfl
  | 8, _ => rfl
  | 9, _ => rfl
  | 10, _ => rfl
  | 11, _ => rfl
  | 12, _ => rfl
  | 13, _ => rfl
  | 14, _ => rfl
  | 15, _ => rfl
  | n + 16, h => exact absurd h (by omega)
def hexB (k x : Nat) : ByteArray := ⟨(Dig.hexK k x).toArray⟩
theorem hexB_size (k x : Nat) : (hexB k x).size ≤ k := by
  have : (hexB k x).size = (Dig.hexK k x).length := by show (Dig.hexK k x).toArray.size = _; simp
  rw [this, Dig.hexK_length]; exact Nat.le_refl _
theorem hexB_succ (k x : Nat) : (⟨#[Dig.dg (low k x)]⟩ : ByteArray) ++ hexB k x = hexB (k + 1) x := by
  unfold hexB
  rw [Dig.hexK_front]
  apply ByteArray.ext
  simp [low, sh]
set_option maxRecDepth 100000 in
set_option maxHeartbeats 1000000 in
theorem refsum_any (s : ByteArray) (w : World) (hs : s.size ≤ 140737488355328) :
   Calls Tryd.prog 36 #[.string s] w fun e w' => e = .returned (.string (sumB s)) ∧ w = w' := by
  have hs' : s.size ≤ maxLen := by unfold maxLen; omega
  have hst0 := stB_zero s hs'
  go_enter Tryd.func36, Tryd.ntmps36
  go_wp2_with fail
  go_loop [3, 4] (fun st i => ∃ k : Nat, k ≤ s.size / 8 + 1 ∧ i = .int .i64 (8 * k : Int) ∧ st = .int .u64 (stB s k : Nat)) (fun _ i => s.size + 8 - (intOf i).toNat)
  case atStart => exact ⟨0, by omega, rfl, rfl⟩
  case round =>
    obtain ⟨k, hk, rfl, rfl⟩ := hrel
    clear hst0
    by_cases hlt : k < s.size / 8 + 1
    · have hmx := stB_step s hs' k
      go_wp2_with fail
      go_loop [5, 6] (fun bl i => ∃ j : Nat, j ≤ 8 ∧ i = .int .i64 (8 * k + j : Int) ∧ bl = .int .u64 (bkB s k j : Nat)) (fun _ i => 8 * k + 8 - (intOf i).toNat)
      case atStart => exact ⟨0, by omega, by simp, rfl⟩
      case round =>
        obtain ⟨j, hj, rfl, rfl⟩ := hrel
        by_cases hjlt : j < 8
        · have hlo := bkB_lt s k j hjlt
          by_cases hin : 8 * k + j < s.size
          · have hbyte := (s[8 * k + j]).toNat_lt
            have hb1 := bkB_in s k j hin
            have HB := Lib.hid hb1
            clear hb1
            go_wp2_with fail
            go_round
            case rel => exact ⟨j + 1, by omega, by go_num, by rw [HB.out]; go_num⟩
            case measure => simp [intOf]; omega
          · have hb1 := bkB_out s k j (by omega)
            have HB := Lib.hid hb1
            clear hb1
            go_wp2_with fail
            go_round
            case rel => exact ⟨j + 1, by omega, by go_num, by rw [HB.out]; go_num⟩
            case measure => simp [intOf]; omega
        · obtain rfl : j = 8 := by omega
          have hmx2 : bits .xor .u64 (stB s k : Nat) (bkB s k 8 : Nat) = (stB s k ^^^ blB s k : Nat) := hmx
          clear hmx
          go_wp2_with fail
          refine (refmix_any _ (xor_lt s hs' k) _).mono ?_
          rintro e w3 ⟨rfl, rfl⟩
          go_wp2_with fail
          go_round
          case rel => exact ⟨k + 1, by omega, by go_num, by rw [stB_succ]⟩
          case measure => simp [intOf]; omega
    · obtain rfl : k = s.size / 8 + 1 := by omega
      have hxl := stB_lt s hs' (s.size / 8 + 1)
      obtain ⟨x, hx⟩ : ∃ x, x = stB s (s.size / 8 + 1) := ⟨_, rfl⟩
      rw [← hx] at hxl ⊢
      have HX := Lib.hid hx
      clear hx
      go_wp2_with fail
      go_loop [3, 7, 8] (fun st t i => ∃ j : Nat, j ≤ 16 ∧ i = .int .i64 (j : Int) ∧ st = .int .u64 (sh j x : Nat) ∧ t = .string (hexB j x)) (fun _ _ i => 16 - (intOf i).toNat)
      case atStart => exact ⟨0, by omega, rfl, by simp [sh], rfl⟩
      case round =>
        obtain ⟨j, hj, rfl, rfl, rfl⟩ := hrel
        by_cases hjlt : j < 16
        · have e1 : ((sh j x : Nat) : Int) % 16 = (low j x : Nat) := rfl
          have e2 := low_lt j x
          have e3 := hexCut w j x
          have e4 := sh_lt j x hxl
          have e5 := hexB_size j x
          go_wp2_with fail
          go_round
          case rel => exact ⟨j + 1, by omega, by go_num, by rw [sh_succ], by rw [hexB_succ]⟩
          case measure => simp [intOf]; omega
        · obtain rfl : j = 16 := by omega
          go_wp2_with fail
          go_ret
          exact ⟨by rw [← sumB_eq s, HX.out]; rfl, rfl⟩
end Go.Proofs.YtcdnddjoonecdaaDoor
