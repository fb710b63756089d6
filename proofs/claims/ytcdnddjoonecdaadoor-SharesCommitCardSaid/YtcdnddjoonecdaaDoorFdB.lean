/-
  Lists of numbers in memory; the field's operations as functions (layer 6).
-/
import Derived.Test.YtcdnddjoonecdaaDoorFdA
import Derived.Test.YtcdnddjoonecdaaDoorProg
import Derived.WalkKit
import Derived.Below
import Derived.Lib.Walk
import Derived.Lib.Hide
import Derived.IntWalk
import Derived.WalkLawsBesides
import Derived.Lib.Builder
import Derived.Outline
import Derived.WalkSmall
import Derived.Deep.QuietTactic
import Derived.BigQuiet
set_option linter.unusedVariables false
set_option maxRecDepth 100000
namespace Go.Proofs.YtcdnddjoonecdaaDoor
open Go.RowKit
/-- a row of numbers in memory: n of them, from a on -/
structure IntsAt (w : World) (a : Option Addr) (n : Nat) (l : List Int) : Prop where
  len : n = l.length
  cells : 0 < n → ∃ b off, a = some ⟨b, off, none⟩ ∧ ∀ j (hj : j < l.length), w.cell? ⟨b, off + j, none⟩ = some (.int .i64 l[j])
theorem cell_ltF {w : World} {b o : Nat} {v : Value} (h : w.cell? ⟨b, o, none⟩ = some v) : b < w.heap.size := by
  rcases Nat.lt_or_ge b w.heap.size with h' | h'
  · exact h'
  · simp [World.cell?, Array.getElem?_eq_none h'] at h
theorem IntsAt.bel {w w' : World} {a : Option Addr} {n : Nat} {l : List Int} (h : IntsAt w a n l) (hb : Below w.heap.size w w') : IntsAt w' a n l :=
  ⟨h.len, fun h0 => by
    obtain ⟨b, off, e, hc⟩ := h.cells h0
    exact ⟨b, off, e, fun j hj => (hb.cell (p := ⟨b, off + j, none⟩) (cell_ltF (hc j hj))).trans (hc j hj)⟩⟩
theorem IntsAt.drewN {w : World} {a : Option Addr} {n : Nat} {l : List Int} (h : IntsAt w a n l) (k : Nat) : IntsAt (w.drewN k) a n l :=
  ⟨h.len, fun h0 => by
    obtain ⟨b, off, e, hc⟩ := h.cells h0
    exact ⟨b, off, e, fun j hj => hc j hj⟩⟩
/-- a row of points in memory -/
structure PtsAt (w : World) (a : Option Addr) (n : Nat) (l : List (Int × Int)) : Prop where
  len : n = l.length
  cells : 0 < n → ∃ b off, a = some ⟨b, off, none⟩ ∧ ∀ j (hj : j < l.length), w.cell? ⟨b, off + j * 2, none⟩ = some (.int .i64 l[j].1) ∧ w.cell? ⟨b, off + j * 2 + 1, none⟩ = some (.int .i64 l[j].2)
theorem PtsAt.bel {w w' : World} {a : Option Addr} {n : Nat} {l : List (Int × Int)} (h : PtsAt w a n l) (hb : Below w.heap.size w w') : PtsAt w' a n l :=
  ⟨h.len, fun h0 => by
    obtain ⟨b, off, e, hc⟩ := h.cells h0
    exact ⟨b, off, e, fun j hj => ⟨(hb.cell (p := ⟨b, off + j * 2, none⟩) (cell_ltF (hc j hj).1)).trans (hc j hj).1, (hb.cell (p := ⟨b, off + j * 2 + 1, none⟩) (cell_ltF (hc j hj).2)).trans (hc j hj).2⟩⟩⟩
theorem IntsAt.cell {w : World} {b off n : Nat} {l : List Int} (h : IntsAt w (some ⟨b, off, none⟩) n l) {j : Nat} (hj : j < l.length) : w.cell? ⟨b, off + j, none⟩ = some (.int .i64 l[j]) := by
  obtain ⟨b', off', e, hc⟩ := h.cells (by have := h.len; omega)
  cases e
  exact hc j hj
theorem PtsAt.cell {w : World} {b off n : Nat} {l : List (Int × Int)} (h : PtsAt w (some ⟨b, off, none⟩) n l) {j : Nat} (hj : j < l.length) : w.cell? ⟨b, off + j * 2, none⟩ = some (.int .i64 l[j].1) ∧ w.cell? ⟨b, off + j * 2 + 1, none⟩ = some (.int .i64 l[j].2) := by
  obtain ⟨b', off', e, hc⟩ := h.cells (by have := h.len; omega)
  cases e
  exact hc j hj
theorem heap_lastF (w : World) (o : Obj) : (w.alloc o).heap[w.heap.size]? = some o := by show (w.heap.push o)[w.heap.size]? = _; simp
theorem ints_one (w : World) (x : Int) {B : Nat} (hB : w.heap.size = B) : IntsAt (w.alloc (Obj.cells #[Value.int .i64 x] 3)) (some ⟨B, 0, none⟩) 1 [x] := by
  subst hB
  exact ⟨rfl, fun _ => ⟨_, _, rfl, fun j hj => by
    match j, hj with
    | 0, _ => rw [Lib.cell_of_heap (heap_lastF _ _)]; rfl⟩⟩
theorem ints_two (w : World) (x y : Int) {B : Nat} (hB : w.heap.size = B) : IntsAt (w.alloc (Obj.cells #[Value.int .i64 x, Value.int .i64 y] 3)) (some ⟨B, 0, none⟩) 2 [x, y] := by
  subst hB
  exact ⟨rfl, fun _ => ⟨_, _, rfl, fun j hj => by
    match j, hj with
    | 0, _ => rw [Lib.cell_of_heap (heap_lastF _ _)]; rfl
    | 1, _ => rw [Lib.cell_of_heap (heap_lastF _ _)]; rfl⟩⟩
theorem ints_three (w : World) (x y z : Int) {B : Nat} (hB : w.heap.size = B) : IntsAt (w.alloc (Obj.cells #[Value.int .i64 x, Value.int .i64 y, Value.int .i64 z] 3)) (some ⟨B, 0, none⟩) 3 [x, y, z] := by
  subst hB
  exact ⟨rfl, fun _ => ⟨_, _, rfl, fun j hj => by
    match j, hj with
    | 0, _ => rw [Lib.cell_of_heap (heap_lastF _ _)]; rfl
    | 1, _ => rw [Lib.cell_of_heap (heap_lastF _ _)]; rfl
    | 2, _ => rw [Lib.cell_of_heap (heap_lastF _ _)]; rfl⟩⟩
theorem ints_nil (w : World) : IntsAt w none 0 [] := ⟨rfl, fun h => absurd h (by decide)⟩
theorem pts_nil (w : World) : PtsAt w none 0 [] := ⟨rfl, fun h => absurd h (by decide)⟩
theorem pts_one (w : World) (a b : Int) {B : Nat} (hB : w.heap.size = B) : PtsAt (w.alloc (Obj.cells #[Value.int .i64 a, Value.int .i64 b] 66)) (some ⟨B, 0, none⟩) 1 [(a, b)] := by
  subst hB
  exact ⟨rfl, fun _ => ⟨_, _, rfl, fun j hj => by
    match j, hj with
    | 0, _ => exact ⟨by rw [Lib.cell_of_heap (heap_lastF _ _)]; rfl, by rw [Lib.cell_of_heap (heap_lastF _ _)]; rfl⟩⟩⟩
theorem pts_two (w : World) (a b c d : Int) {B : Nat} (hB : w.heap.size = B) : PtsAt (w.alloc (Obj.cells #[Value.int .i64 a, Value.int .i64 b, Value.int .i64 c, Value.int .i64 d] 66)) (some ⟨B, 0, none⟩) 2 [(a, b), (c, d)] := by
  subst hB
  exact ⟨rfl, fun _ => ⟨_, _, rfl, fun j hj => by
    match j, hj with
    | 0, _ => exact ⟨by rw [Lib.cell_of_heap (heap_lastF _ _)]; rfl, by rw [Lib.cell_of_heap (heap_lastF _ _)]; rfl⟩
    | 1, _ => exact ⟨by rw [Lib.cell_of_heap (heap_lastF _ _)]; rfl, by rw [Lib.cell_of_heap (heap_lastF _ _)]; rfl⟩⟩⟩
theorem pts_three (w : World) (a b c d e f : Int) {B : Nat} (hB : w.heap.size = B) : PtsAt (w.alloc (Obj.cells #[Value.int .i64 a, Value.int .i64 b, Value.int .i64 c, Value.int .i64 d, Value.int .i64 e, Value.int .i64 f] 66)) (some ⟨B, 0, none⟩) 3 [(a, b), (c, d), (e, f)] := by
  subst hB
  exact ⟨rfl, fun _ => ⟨_, _, rfl, fun j hj => by
    match j, hj with
    | 0, _ => exact ⟨by rw [Lib.cell_of_heap (heap_lastF _ _)]; rfl, by rw [Lib.cell_of_heap (heap_lastF _ _)]; rfl⟩
    | 1, _ => exact ⟨by rw [Lib.cell_of_heap (heap_lastF _ _)]; rfl, by rw [Lib.cell_of_heap (heap_lastF _ _)]; rfl⟩
    | 2, _ => exact ⟨by rw [Lib.cell_of_heap (heap_lastF _ _)]; rfl, by rw [Lib.cell_of_heap (heap_lastF _ _)]; rfl⟩⟩⟩
/-- the call answers with a number and an error -/
def GivesN (r : Int × Int) (w : World) (e : Ending) (w' : World) : Prop := e = .returned (.tuple #[.int .i64 r.1, .int .i64 r.2]) ∧ Below w.heap.size w w'
/-- is it an element? -/
def okE (a : Int) : Bool := decide (0 ≤ a ∧ a < 2147483647)
theorem okE_iff {a : Int} : okE a = true ↔ 0 ≤ a ∧ a < 2147483647 := by simp [okE]
theorem okE_no {a : Int} : okE a = false ↔ a < 0 ∨ 2147483647 ≤ a := by
  simp only [okE, decide_eq_false_iff_not]; omega
def allE (l : List Int) : Bool := l.all okE
theorem allE_iff {l : List Int} : allE l = true ↔ ∀ x ∈ l, 0 ≤ x ∧ x < 2147483647 := by
  simp only [allE, List.all_eq_true, okE_iff]
theorem allE_no {l : List Int} {k : Nat} (hk : k < l.length) (h : okE l[k] = false) : allE l = false := by
  unfold allE; rw [List.all_eq_false]; exact ⟨_, List.getElem_mem hk, by simp [h]⟩
theorem allE_upto {l : List Int} (h : ∀ j (hj : j < l.length), okE l[j] = true) : allE l = true := by
  unfold allE; rw [List.all_eq_true]; intro x hx; obtain ⟨j, hj, rfl⟩ := List.getElem_of_mem hx; exact h j hj
def sumF (a b : Int) : Int := (a + b) % 2147483647
def difF (a b : Int) : Int := (a - b + 2147483647) % 2147483647
def mulF (a b : Int) : Int := a * b % 2147483647
theorem sumF_range (a b : Int) : 0 ≤ sumF a b ∧ sumF a b < 2147483647 := by unfold sumF; omega
theorem difF_range (a b : Int) : 0 ≤ difF a b ∧ difF a b < 2147483647 := by unfold difF; omega
theorem mulF_range (a b : Int) : 0 ≤ mulF a b ∧ mulF a b < 2147483647 := by
  unfold mulF; obtain ⟨x, hx⟩ : ∃ x, x = a * b := ⟨_, rfl⟩; rw [← hx]; omega
theorem mul_small {a b : Int} (ha : 0 ≤ a ∧ a < 2147483647) (hb : 0 ≤ b ∧ b < 2147483647) : 0 ≤ a * b ∧ a * b ≤ 4611686009837453316 := by
  refine ⟨Int.mul_nonneg ha.1 hb.1, ?_⟩
  have h1 : a * b ≤ 2147483646 * b := Int.mul_le_mul_of_nonneg_right (by omega) hb.1
  omega
/-- the facts that a walk wants of a product -/
theorem mul_walk {a b : Int} (ha : 0 ≤ a ∧ a < 2147483647) (hb : 0 ≤ b ∧ b < 2147483647) :
    IntKind.i64.wrap (a * b) = a * b ∧ (a * b).tmod 2147483647 = mulF a b ∧ IntKind.i64.wrap (mulF a b) = mulF a b := by
  have h := mul_small ha hb
  have h2 := mulF_range a b
  refine ⟨IntWalk.i64_in _ (by omega), ?_, IntWalk.i64_in _ (by omega)⟩
  rw [Int.tmod_eq_emod_of_nonneg h.1]; rfl
end Go.Proofs.YtcdnddjoonecdaaDoor

/-
  The field's elements: sums, differences, products, and whether all of a list are elements (layer 6).
-/
set_option linter.unusedVariables false
set_option maxRecDepth 100000
namespace Go.Proofs.YtcdnddjoonecdaaDoor
open Go.RowKit
set_option maxHeartbeats 400000 in
theorem elements_any (a : Option Addr) (n cap : Nat) (l : List Int) (w : World) (h : IntsAt w a n l) (hn : n ≤ maxLen) :
    Calls Tryd.prog 57 #[.slice a n cap] w fun e w' => e = .returned (.bool (allE l)) ∧ w = w' := by
  unfold maxLen at hn
  have HH := Lib.hid h
  clear h
  go_enter Tryd.func57, Tryd.ntmps57
  go_wp2_with fail
  go_loop [7] (fun i => ∃ k : Nat, k ≤ n ∧ i = .int .i64 k ∧ Hid (∀ j (hj : j < l.length), j < k → okE l[j] = true)) (fun i => n - (intOf i).toNat)
  case atStart => exact ⟨0, by omega, rfl, (show _ from fun j _ h => absurd h (by omega))⟩
  case round =>
    obtain ⟨k, hk, rfl, hx⟩ := hrel
    by_cases hlt : k < n
    · obtain ⟨b, off, rfl, hc⟩ := HH.out.cells (by omega)
      have hkl : k < l.length := by rw [← HH.out.len]; exact hlt
      have hcell := hc k hkl
      clear hc
      obtain ⟨x, hxk⟩ : ∃ x, x = l[k] := ⟨_, rfl⟩
      rw [← hxk] at hcell
      have HX := Lib.hid hxk
      clear hxk
      by_cases h1 : x < 0
      · have hb : allE l = false := allE_no hkl (by rw [← HX.out]; exact okE_no.2 (.inl h1))
        have HB := Lib.hid hb
        clear hb
        go_wp2_with fail
        go_ret
        exact ⟨by rw [HB.out]; rfl, rfl⟩
      · by_cases h2 : 2147483647 ≤ x
        · have hb : allE l = false := allE_no hkl (by rw [← HX.out]; exact okE_no.2 (.inr h2))
          have HB := Lib.hid hb
          clear hb
          go_wp2_with fail
          go_ret
          exact ⟨by rw [HB.out]; rfl, rfl⟩
        · have h1' : 0 ≤ x := by omega
          have h2' : x < 2147483647 := by omega
          go_wp2_with fail
          go_round
          case rel =>
            refine ⟨k + 1, by omega, by go_num, (show _ from fun j hj h => ?_)⟩
            by_cases e : j = k
            · subst e; rw [← HX.out]; exact okE_iff.2 ⟨h1', h2'⟩
            · exact hx.out j hj (by omega)
          case measure => simp [intOf]; omega
    · obtain rfl : k = n := by omega
      have hb : allE l = true := allE_upto fun j hj => hx.out j hj (by rw [HH.out.len]; exact hj)
      have HB := Lib.hid hb
      clear hb
      go_wp2_with fail
      go_ret
      exact ⟨by rw [HB.out]; rfl, rfl⟩
theorem fsum_any (a b : Int) (w : World) (ha : 0 ≤ a ∧ a < 2147483647) (hb : 0 ≤ b ∧ b < 2147483647) :
    Calls Tryd.prog 58 #[.int .i64 a, .int .i64 b] w fun e w' => e = .returned (.int .i64 (sumF a b)) ∧ w = w' := by
  have h1 : IntKind.i64.wrap (a + b) = a + b := IntWalk.i64_in _ (by omega)
  have h2 : (a + b).tmod 2147483647 = sumF a b := by rw [Int.tmod_eq_emod_of_nonneg (by omega)]; rfl
  have h3 : IntKind.i64.wrap (sumF a b) = sumF a b := IntWalk.i64_in _ (by have := sumF_range a b; omega)
  clear ha hb
  go_enter Tryd.func58, Tryd.ntmps58
  go_wp2_with fail
  go_ret
  exact ⟨rfl, rfl⟩
theorem dif_any (a b : Int) (w : World) (ha : 0 ≤ a ∧ a < 2147483647) (hb : 0 ≤ b ∧ b < 2147483647) :
    Calls Tryd.prog 76 #[.int .i64 a, .int .i64 b] w fun e w' => e = .returned (.int .i64 (difF a b)) ∧ w = w' := by
  have h0 : IntKind.i64.wrap (a - b) = a - b := IntWalk.i64_in _ (by omega)
  have h1 : IntKind.i64.wrap (a - b + 2147483647) = a - b + 2147483647 := IntWalk.i64_in _ (by omega)
  have h2 : (a - b + 2147483647).tmod 2147483647 = difF a b := by rw [Int.tmod_eq_emod_of_nonneg (by omega)]; rfl
  have h3 : IntKind.i64.wrap (difF a b) = difF a b := IntWalk.i64_in _ (by have := difF_range a b; omega)
  clear ha hb
  go_enter Tryd.func76, Tryd.ntmps76
  go_wp2_with fail
  go_ret
  exact ⟨rfl, rfl⟩
theorem product_any (a b : Int) (w : World) (ha : 0 ≤ a ∧ a < 2147483647) (hb : 0 ≤ b ∧ b < 2147483647) :
    Calls Tryd.prog 59 #[.int .i64 a, .int .i64 b] w fun e w' => e = .returned (.int .i64 (mulF a b)) ∧ w = w' := by
  obtain ⟨h1, h2, h3⟩ := mul_walk ha hb
  clear ha hb
  go_enter Tryd.func59, Tryd.ntmps59
  go_wp2_with fail
  go_ret
  exact ⟨rfl, rfl⟩
end Go.Proofs.YtcdnddjoonecdaaDoor

/-
  The inverse, as a power by squaring: the program's and the document's (layer 6).
-/
set_option linter.unusedVariables false
set_option maxRecDepth 100000
namespace Go.Proofs.YtcdnddjoonecdaaDoor
open Go.RowKit
open Fdp
/-- a power of an element -/
def powF (a : Int) (n : Nat) : Int := (powM a.toNat n 2147483647 : Nat)
theorem powF_range (a : Int) (n : Nat) : 0 ≤ powF a n ∧ powF a n < 2147483647 := by
  have := powM_lt a.toNat n (show 0 < 2147483647 by decide)
  unfold powF; omega
theorem ivI_powF {a : Int} (ha : 0 ≤ a ∧ a < 2147483647) : ivI a = powF a 2147483645 := by
  unfold ivI powF; rw [Int.emod_eq_of_lt ha.1 ha.2]
/-- what is left to do: the result so far, times a power of what a has become -/
def Pw (p a : Int) (n : Nat) (r : Int) : Prop := E 2147483647 (p * a ^ n) r
theorem natMod (m : Nat) (n : Nat) : E 2147483647 ((powM m n 2147483647 : Nat) : Int) ((m : Int) ^ n) := by
  unfold powM
  rw [Int.natCast_emod, Int.natCast_pow]
  exact E.emod _
theorem powF_E {a : Int} (ha : 0 ≤ a) (n : Nat) : E 2147483647 (powF a n) (a ^ n) := by
  obtain ⟨m, rfl⟩ : ∃ m : Nat, a = m := ⟨a.toNat, by omega⟩
  unfold powF
  rw [Int.toNat_natCast]
  exact natMod m n
theorem Pw.start {a : Int} (ha : 0 ≤ a) (n : Nat) : Pw 1 a n (powF a n) := by
  unfold Pw; rw [Int.one_mul]; exact (powF_E ha n).symm
theorem Pw.E_left {P a b c : Int} (h : E P a b) : E P (a * c) (b * c) := h.mul (E.refl c)
theorem E.pow {P a b : Int} (h : E P a b) : ∀ n : Nat, E P (a ^ n) (b ^ n)
  | 0 => by rw [Int.pow_zero, Int.pow_zero]; exact E.refl 1
  | n + 1 => by rw [Int.pow_succ, Int.pow_succ]; exact (E.pow h n).mul h
theorem mulF_E (a b : Int) : E 2147483647 (mulF a b) (a * b) := E.emod _
theorem sumF_E (a b : Int) : E 2147483647 (sumF a b) (a + b) := E.emod _
theorem difF_E (a b : Int) : E 2147483647 (difF a b) (a - b) := (E.emod _).trans ⟨1, by omega⟩
theorem Pw.odd {p a r : Int} {n : Nat} (h : Pw p a n r) (hn : n % 2 = 1) : Pw (mulF p a) (mulF a a) (n / 2) r := by
  unfold Pw at h ⊢
  have h1 := (mulF_E p a).mul (E.pow (mulF_E a a) (n / 2))
  refine h1.trans ((E.of ?_).trans h)
  obtain ⟨k, hk⟩ : ∃ k, k = n / 2 := ⟨_, rfl⟩
  have e : n = 2 * k + 1 := by omega
  rw [← hk, e, Int.pow_succ, Int.pow_mul, Int.pow_succ, Int.pow_succ, Int.pow_zero, Int.one_mul]
  grind
theorem Pw.even {p a r : Int} {n : Nat} (h : Pw p a n r) (hn : n % 2 = 0) : Pw p (mulF a a) (n / 2) r := by
  unfold Pw at h ⊢
  have h1 := (E.refl p).mul (E.pow (mulF_E a a) (n / 2))
  refine h1.trans ((E.of ?_).trans h)
  obtain ⟨k, hk⟩ : ∃ k, k = n / 2 := ⟨_, rfl⟩
  have e : n = 2 * k := by omega
  rw [← hk, e, Int.pow_mul, Int.pow_succ, Int.pow_succ, Int.pow_zero, Int.one_mul]
theorem Pw.done {p a r : Int} (h : Pw p a 0 r) (hp : 0 ≤ p ∧ p < 2147483647) (hr : 0 ≤ r ∧ r < 2147483647) : p = r := by
  unfold Pw at h
  rw [Int.pow_zero, Int.mul_one] at h
  exact h.eq hp.1 hp.2 hr.1 hr.2
set_option maxHeartbeats 400000 in
theorem inverse_any (a : Int) (w : World) (ha : 0 ≤ a ∧ a < 2147483647) :
    Calls Tryd.prog 91 #[.int .i64 a] w fun e w' => e = .returned (.int .i64 (ivI a)) ∧ w = w' := by
  obtain ⟨r, hr⟩ : ∃ r, r = ivI a := ⟨_, rfl⟩
  rw [← hr]
  have hP : Hid (Pw 1 a 2147483645 r) := Lib.hid (by rw [hr, ivI_powF ha]; exact Pw.start ha.1 _)
  have hrr : Hid (0 ≤ r ∧ r < 2147483647) := Lib.hid (by rw [hr]; exact ivI_range a)
  clear hr
  go_enter Tryd.func91, Tryd.ntmps91
  go_wp2_with fail
  go_loop [0, 3, 4] (fun x p n => ∃ (X q : Int) (k : Nat), k ≤ 2147483645 ∧ x = .int .i64 X ∧ p = .int .i64 q ∧ n = .int .i64 (k : Int) ∧ Hid (0 ≤ X ∧ X < 2147483647) ∧ Hid (0 ≤ q ∧ q < 2147483647) ∧ Hid (Pw q X k r)) (fun _ _ n => (intOf n).toNat)
  case atStart => exact ⟨a, 1, 2147483645, by omega, rfl, rfl, rfl, Lib.hid ha, Lib.hid (by omega), hP⟩
  case round =>
    obtain ⟨X, q, k, hk, rfl, rfl, rfl, hX, hq, hP'⟩ := hrel
    by_cases h0 : 0 < k
    · obtain ⟨k2, hk2⟩ : ∃ k2, k2 = k / 2 := ⟨_, rfl⟩
      have hlt : k2 < k := by omega
      have e2 : (k : Int).tdiv 2 = (k2 : Int) := by rw [Int.tdiv_eq_ediv_of_nonneg (by omega)]; omega
      have e3 : IntKind.i64.wrap (k2 : Int) = (k2 : Int) := IntWalk.i64_in _ (by omega)
      by_cases h1 : k % 2 = 1
      · have e1 : (k : Int).tmod 2 = 1 := by rw [Int.tmod_eq_emod_of_nonneg (by omega)]; omega
        have hP2 : Hid (Pw (mulF q X) (mulF X X) k2 r) := Lib.hid (by rw [hk2]; exact hP'.out.odd h1)
        have HK := Lib.hid hk2
        clear hk2
        go_wp2_with (first | (go_at_call 59; refine (product_any _ _ _ (by first | exact hq.out | exact hX.out) hX.out).mono ?_; rintro e w' ⟨rfl, rfl⟩))
        go_round
        case rel => exact ⟨_, _, k2, by omega, rfl, rfl, rfl, Lib.hid (mulF_range _ _), Lib.hid (mulF_range _ _), hP2⟩
        case measure => simp [intOf]; omega
      · have e1 : (k : Int).tmod 2 = 0 := by rw [Int.tmod_eq_emod_of_nonneg (by omega)]; omega
        have hP2 : Hid (Pw q (mulF X X) k2 r) := Lib.hid (by rw [hk2]; exact hP'.out.even (by omega))
        have HK := Lib.hid hk2
        clear hk2 h1
        go_wp2_with (first | (go_at_call 59; refine (product_any _ _ _ hX.out hX.out).mono ?_; rintro e w' ⟨rfl, rfl⟩))
        go_round
        case rel => exact ⟨_, _, k2, by omega, rfl, rfl, rfl, Lib.hid (mulF_range _ _), hq, hP2⟩
        case measure => simp [intOf]; omega
    · obtain rfl : k = 0 := by omega
      have e : q = r := hP'.out.done hq.out hrr.out
      subst e
      go_wp2_with fail
      go_ret
      exact ⟨rfl, rfl⟩
end Go.Proofs.YtcdnddjoonecdaaDoor

/-
  The program's Add, Mul, Inverse (layer 6).
-/
set_option linter.unusedVariables false
set_option maxRecDepth 100000
namespace Go.Proofs.YtcdnddjoonecdaaDoor
open Go.RowKit
open Fdp
def addE (a b : Int) : Int × Int := if okE a && okE b then (sumF a b, 0) else (0, 1)
def mulE (a b : Int) : Int × Int := if okE a && okE b then (mulF a b, 0) else (0, 1)
def invE (a : Int) : Int × Int := if okE a then (if a = 0 then (0, 14) else (ivI a, 0)) else (0, 1)
theorem all_two (a b : Int) : allE [a, b] = (okE a && okE b) := by simp [allE]
theorem all_one (a : Int) : allE [a] = okE a := by simp [allE]
theorem elements_yes (a : Option Addr) (n cap : Nat) (l : List Int) (w : World) (h : IntsAt w a n l) (hn : n ≤ maxLen) (hb : allE l = true) :
    Calls Tryd.prog 57 #[.slice a n cap] w fun e w' => e = .returned (.bool true) ∧ w = w' := by
  rw [← hb]; exact elements_any a n cap l w h hn
theorem elements_no (a : Option Addr) (n cap : Nat) (l : List Int) (w : World) (h : IntsAt w a n l) (hn : n ≤ maxLen) (hb : allE l = false) :
    Calls Tryd.prog 57 #[.slice a n cap] w fun e w' => e = .returned (.bool false) ∧ w = w' := by
  rw [← hb]; exact elements_any a n cap l w h hn
theorem max_small {n : Nat} (h : n ≤ 100) : n ≤ maxLen := by unfold maxLen; omega
end Go.Proofs.YtcdnddjoonecdaaDoor

/-
  The program's Eval (layer 6).
-/
set_option linter.unusedVariables false
set_option maxRecDepth 100000
namespace Go.Proofs.YtcdnddjoonecdaaDoor
open Go.RowKit
open Fdp
/-- the value of a polynomial, as an element -/
def evF (x : Int) (l : List Int) : Int := ev x l % 2147483647
theorem evF_range (x : Int) (l : List Int) : 0 ≤ evF x l ∧ evF x l < 2147483647 := by
  unfold evF; generalize ev x l = y; omega
theorem evF_E (x : Int) (l : List Int) : E 2147483647 (evF x l) (ev x l) := E.emod _
def evalE (l : List Int) (x : Int) : Int × Int := if decide (l.length ≤ 16) && allE l && okE x then (evF x l, 0) else (0, 1)
theorem quiet_same {f : FuncId} {args : Array Value} {w : World} {n : Nat} {v : Value} (h : Calls Tryd.prog f args (w.drewN n) fun e w' => e = .returned v ∧ w.drewN n = w') :
    Calls Tryd.prog f args (w.drewN n) fun e w'' => e = .returned v ∧ ∃ m, w'' = w.drewN m := Calls.quiet_of_same (h.mono fun _ _ h => ⟨h.1, h.2.symm⟩)
theorem below_drewN {B : Nat} {a w : World} (h : Below B a w) (n : Nat) : Below B a (w.drewN n) := ⟨h.os, h.tape, h.output, h.size, h.block⟩
/-- Horner's rule, so far -/
def Horn (l : List Int) (x : Int) (k : Nat) (v : Int) : Prop := E 2147483647 v (ev x (l.drop (l.length - k)))
theorem Horn.start (l : List Int) (x : Int) : Horn l x 0 0 := by
  unfold Horn; rw [Nat.sub_zero, List.drop_length, ev_nil]; exact E.refl 0
theorem Horn.step {l : List Int} {x v : Int} {k j : Nat} (h : Horn l x k v) (hk : k < l.length) (hj : j = l.length - 1 - k) (hjl : j < l.length) : Horn l x (k + 1) (sumF (mulF v x) l[j]) := by
  unfold Horn at h ⊢
  have e : l.length - (k + 1) = j := by omega
  have e2 : l.length - k = j + 1 := by omega
  rw [e, List.drop_eq_getElem_cons hjl, ev_cons]
  rw [e2] at h
  refine (sumF_E _ _).trans ((((mulF_E v x).trans (h.mul (E.refl x))).add (E.refl _)).trans (E.of ?_))
  grind
theorem Horn.done {l : List Int} {x v : Int} (h : Horn l x l.length v) (hv : 0 ≤ v ∧ v < 2147483647) : v = evF x l := by
  unfold Horn at h
  rw [Nat.sub_self, List.drop_zero] at h
  exact (h.trans (evF_E x l).symm).eq hv.1 hv.2 (evF_range x l).1 (evF_range x l).2
set_option maxHeartbeats 1000000 in
theorem fEval_any (a : Option Addr) (n cap : Nat) (l : List Int) (x : Int) (w : World) (h : IntsAt w a n l) (hn : n ≤ maxLen) :
    Calls Tryd.prog 40 #[.slice a n cap, .int .i64 x] w (GivesN (evalE l x) w) := by
  unfold evalE
  have hn' : n ≤ 9223372036854775807 := by unfold maxLen at hn; omega
  have HN := Lib.hid hn
  have HH := Lib.hid h
  have hlen := h.len
  clear h hn
  by_cases h16 : n ≤ 16
  · have g16 : ¬ 16 < n := by omega
    by_cases hA : allE l = true
    · have HA := Lib.hid hA
      by_cases hX : okE x = true
      · rw [if_pos (by rw [hA, hX]; simp; omega)]
        have HAX : Hid (allE [x] = true) := Lib.hid (by rw [all_one]; exact hX)
        have HO := Lib.hid (okE_iff.1 hX)
        have HL := Lib.hid hlen
        clear hA hX hlen
        have D1 : Hid (Below w.heap.size w (w.alloc (Obj.cells #[Value.int .i64 x] 3))) := Lib.hid ((Below.refl _ _).alloc (Nat.le_refl _) _)
        go_enter Tryd.func40, Tryd.ntmps40
        go_wp2_with fail
        refine (elements_yes _ _ _ l _ HH.out HN.out HA.out).mono ?_
        rintro e w' ⟨rfl, rfl⟩
        go_wp2_with fail
        refine (elements_yes _ _ _ [x] _ (ints_one _ _ (by simp)) (max_small (by decide)) HAX.out).mono ?_
        rintro e w' ⟨rfl, rfl⟩
        go_wp2_with fail
        go_loopw [6, 24] (fun v i wr => ∃ (q : Int) (k : Nat), k ≤ n ∧ i = .int .i64 (k : Int) ∧ v = .int .i64 q ∧ Hid (0 ≤ q ∧ q < 2147483647) ∧ Hid (Horn l x k q) ∧ Hid (Below w.heap.size w wr)) (fun _ i _ => n - (intOf i).toNat)
        case atStart => exact ⟨0, 0, by omega, rfl, rfl, Lib.hid (by omega), Lib.hid (Horn.start l x), D1⟩
        case round =>
          obtain ⟨q, k, hk, rfl, rfl, hq, hh, hD⟩ := hrel
          by_cases hlt : k < n
          · obtain ⟨b, off, rfl, hc⟩ := (HH.out.bel hD.out).cells (by omega)
            obtain ⟨j, hj⟩ : ∃ j, j = n - 1 - k := ⟨_, rfl⟩
            have hjn : j < n := by omega
            have hjl : j < l.length := by have := HL.out; omega
            have hcell := hc j hjl
            clear hc
            obtain ⟨y, hy⟩ : ∃ y, y = l[j] := ⟨_, rfl⟩
            rw [← hy] at hcell
            have hy2 : Hid (0 ≤ y ∧ y < 2147483647) := Lib.hid (by rw [hy]; exact allE_iff.1 HA.out _ (List.getElem_mem hjl))
            have hh2 : Hid (Horn l x (k + 1) (sumF (mulF q x) y)) := Lib.hid (by rw [hy]; exact hh.out.step (by have := HL.out; omega) (by have := HL.out; omega) hjl)
            have HY := Lib.hid hy
            clear hy
            have e1 : IntKind.i64.wrap ((n : Int) - 1) = (n : Int) - 1 := IntWalk.i64_in _ (by omega)
            have e2 : IntKind.i64.wrap ((n : Int) - 1 - (k : Int)) = (j : Int) := by rw [IntWalk.i64_in _ (by omega)]; omega
            have HJ := Lib.hid hj
            clear hj
            go_wp2_with fail
            go_quiet ((first | (go_at_call 59; exact quiet_same (product_any _ _ _ hq.out HO.out)) | (go_at_call 58; exact quiet_same (fsum_any _ _ _ (mulF_range _ _) hy2.out))))
            go_wp2_with fail
            go_roundw
            case rel => exact ⟨_, k + 1, by omega, by go_num, rfl, Lib.hid (sumF_range _ _), hh2, Lib.hid (below_drewN hD.out _)⟩
            case measure => simp [intOf]; omega
          · obtain rfl : k = n := by omega
            have e : q = evF x l := (show Horn l x l.length q from by rw [← HL.out]; exact hh.out).done hq.out
            subst e
            go_wp2_with fail
            go_ret2
            exact ⟨rfl, hD.out⟩
      · rw [if_neg (by rw [Bool.not_eq_true] at hX; rw [hX]; simp)]
        have HAX : Hid (allE [x] = false) := Lib.hid (by rw [all_one]; simpa using hX)
        clear hA hX hlen
        go_enter Tryd.func40, Tryd.ntmps40
        go_wp2_with fail
        refine (elements_yes _ _ _ l _ HH.out HN.out HA.out).mono ?_
        rintro e w' ⟨rfl, rfl⟩
        go_wp2_with fail
        refine (elements_no _ _ _ [x] _ (ints_one _ _ (by simp)) (max_small (by decide)) HAX.out).mono ?_
        rintro e w' ⟨rfl, rfl⟩
        go_wp2_with fail
        go_ret2
        exact ⟨rfl, (Below.refl _ _).alloc (Nat.le_refl _) _⟩
    · rw [if_neg (by rw [Bool.not_eq_true] at hA; rw [hA]; simp)]
      have HA : Hid (allE l = false) := Lib.hid (by simpa using hA)
      clear hA hlen
      go_enter Tryd.func40, Tryd.ntmps40
      go_wp2_with (first | (go_at_call 57; refine (elements_no _ _ _ l _ HH.out HN.out HA.out).mono ?_; rintro e w' ⟨rfl, rfl⟩))
      go_ret2
      exact ⟨rfl, Below.refl _ _⟩
  · rw [if_neg (by rw [← hlen]; simp; omega)]
    have g16 : 16 < n := by omega
    clear h16 hlen
    go_enter Tryd.func40, Tryd.ntmps40
    go_wp2_with fail
    go_ret2
    exact ⟨rfl, Below.refl _ _⟩
end Go.Proofs.YtcdnddjoonecdaaDoor
