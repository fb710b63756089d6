/-
  The contract of hexadecimal: for every number below 2^64 its sixteen hexadecimal digits.
-/
import Derived.Test.YtbiekbppenccdaaDoorDigAt
import Derived.Lib.Builder
import Derived.Outline
import Derived.Handy
namespace Go.Proofs.YtbiekbppenccdaaDoor
open Go.RowKit
def hrow (k x : Nat) : List Value := List.replicate (16 - k) (.int .u8 0) ++ (Dig.hexK k x).map fun b => .int .u8 (b.toNat : Int)
def sh (k x : Nat) : Nat := x / 16 ^ k
def low (k x : Nat) : Nat := sh k x % 16
def dgn (k x : Nat) : Nat := (Dig.dg (low k x)).toNat
theorem low_lt (k x : Nat) : low k x < 16 := Nat.mod_lt _ (by omega)
theorem sh_lt (k x : Nat) (h : x < 18446744073709551616) : sh k x < 18446744073709551616 := Nat.lt_of_le_of_lt (Nat.div_le_self _ _) h
theorem sh_succ (k x : Nat) : (sh k x : Int) / 16 = (sh (k + 1) x : Nat) := by
  unfold sh; rw [Nat.pow_succ, ← Nat.div_div_eq_div_mul]; omega
theorem and_low (k x : Nat) (h : x < 18446744073709551616) : bits .and .u64 (sh k x : Int) 15 = (low k x : Nat) := by
  have := u64_and_nat (sh k x) 15 (sh_lt k x h) (by omega)
  rw [nat_mask4] at this
  exact this
theorem hexIndex (w : World) (k x : Nat) : (Instr.index 9 (.string ⟨#[48, 49, 50, 51, 52, 53, 54, 55, 56, 57, 97, 98, 99, 100, 101, 102]⟩) (.int .u64 (low k x : Nat))).run Tryd.prog w = .ok (.int .u8 (dgn k x : Nat)) w := by
  have h := low_lt k x
  unfold dgn
  generalize low k x = n at h
  match n, h with
  | 0, _ => rfl
  | 1, _ => rfl
  | 2, _ => rfl
  | 3, _ => rfl
  | 4, _ => rfl
  | 5, _ => rfl
  | 6, _ => rfl
  | 7, _ => rfl
  | 8, _ => rfl
  | 9, _ => rfl
  | 10, _ => rfl
  | 11, _ => rfl
  | 12, _ => rfl
  | 13, _ => rfl
  | 14, _ => rfl
  | 15, _ => rfl
  | n + 16, h => exact absurd h (by omega)
theorem hrow_get (k x j : Nat) (hj : j < 16 - k) : (hrow k x).toArray[j]? = some (.int .u8 0) := by
  simp [hrow, List.getElem?_append, hj]
theorem hrow_set (k x : Nat) (hk : k < 16) : (hrow k x).toArray.setIfInBounds (15 - k) (.int .u8 (dgn k x : Nat)) = (hrow (k + 1) x).toArray := by
  apply Array.ext'
  simp only [Array.toList_setIfInBounds]
  unfold hrow
  rw [Dig.hexK_front]
  rw [show 16 - k = (15 - k) + 1 by omega, List.replicate_succ', List.append_assoc, show 16 - (k + 1) = 15 - k by omega]
  rw [List.set_append_right _ _ (by simp)]
  simp [dgn, low, sh]
theorem foldl_push (l : List UInt8) (a : ByteArray) : (l.map fun b => (b.toNat : Int)).foldl (fun r n => r.push (UInt8.ofNat n.toNat)) a = ⟨a.data ++ l.toArray⟩ := by
  induction l generalizing a with
  | nil => simp
  | cons b l ih =>
    rw [List.map_cons, List.foldl_cons, ih]
    congr 1
    apply Array.ext'
    simp
theorem bytesConv (l : List UInt8) (b off : Nat) (cap : Nat) (w : World) (h : ∀ j (hj : j < l.length), w.cell? ⟨b, off + j, none⟩ = some (.int .u8 (l[j].toNat : Int))) :
    (convert 66 9 (.slice (some ⟨b, off, none⟩) l.length cap)).run Tryd.prog w = .ok (.string ⟨l.toArray⟩) w := by
  rw [run_convert_bytes_string w 66 9 5 _ _ _ Tryd.underlying66 Tryd.underlying5 Tryd.underlying9]
  have hl := run_loadCells_list (P := Tryd.prog) w ⟨b, off, none⟩ (l.map fun c => Value.int .u8 (c.toNat : Int)) (by
    intro j v hj
    rw [List.getElem?_map] at hj
    have hlt : j < l.length := by
      rcases Nat.lt_or_ge j l.length with h' | h'
      · exact h'
      · rw [List.getElem?_eq_none h'] at hj; simp at hj
    rw [List.getElem?_eq_getElem hlt] at hj
    simp only [Option.map_some, Option.some.injEq] at hj
    subst hj
    have := h j hlt
    rw [show (⟨b, off, none⟩ : Addr).add j = ⟨b, off + j, none⟩ from by unfold Addr.add; split <;> simp_all]; exact this)
  rw [List.length_map] at hl
  have hr := run_bytesToString (P := Tryd.prog) w ⟨b, off, none⟩ l.length cap (l.map fun c => (c.toNat : Int)) (by rw [hl, List.map_map]; rfl)
  rw [hr, foldl_push, show ByteArray.empty.data ++ l.toArray = l.toArray from by simp]
theorem hexConv (x b : Nat) (w : World) (hg : w.heap[b]? = some (.cells (hrow 16 x).toArray 84 (0, 0))) :
    (convert 66 9 (.slice (some ⟨b, 0, none⟩) 16 16)).run Tryd.prog w = .ok (.string ⟨(Dig.hexK 16 x).toArray⟩) w := by
  have hl : (Dig.hexK 16 x).length = 16 := Dig.hexK_length 16 x
  have h := bytesConv (Dig.hexK 16 x) b 0 16 w (by
    intro j hj
    rw [Lib.cell_of_heap hg]
    simp [hrow, hj])
  rw [hl] at h
  exact h
theorem hex_any (x : Nat) (hx : x < 18446744073709551616) (w : World) :
   Calls Tryd.prog 71 #[.int .u64 (x:Int)] w fun e w' => e = .returned (.string ⟨(Dig.hexK 16 x).toArray⟩) ∧ Below w.heap.size w w' := by
  go_enter Tryd.func71, Tryd.ntmps71
  go_wp2
  go_loopw [0, 5] (fun x0 i wr => ∃ k : Nat, k ≤ 16 ∧ i = .int .i64 k ∧ x0 = .int .u64 (sh k x : Int) ∧ Hid (wr.heap[w.heap.size]? = some (.cells (hrow k x).toArray 84 (0, 0))) ∧ Below w.heap.size w wr) (fun _ i _ => 16 - (intOf i).toNat)
  case atStart => exact ⟨0, by omega, rfl, by simp [sh], (show _ = _ from heap_last w _), (Below.refl _ _).alloc (Nat.le_refl _) _⟩
  case round =>
    obtain ⟨k, hk, rfl, rfl, hg, hB⟩ := hrel
    by_cases hlt : k < 16
    · have hand := and_low k x hx
      have hix := fun w => hexIndex w k x
      have c0 : wr.cell? ⟨w.heap.size, 15 - k, none⟩ = some (.int .u8 0) := by
        rw [Lib.cell_of_heap hg.out]; exact hrow_get k x _ (by omega)
      have f0 : wr.frozen? ⟨w.heap.size, 15 - k, none⟩ = false := Lib.frozen_of_heap hg.out _
      go_wp2
      go_roundw
      case rel =>
        refine ⟨k + 1, by omega, by go_num, ?_, ?_, hB.setCell (Nat.le_refl _) _⟩
        · rw [sh_succ]
        · show _ = _
          rw [setCell_eq_setRow _ _ _ _ _ _ _ hg.out, setRow_heap _ _ _ _ _ _ hg.out, hrow_set k x hlt]
      case measure => simp [intOf]; omega
    · obtain rfl : k = 16 := by omega
      have hconv : (convert 66 9 (.slice (some ⟨w.heap.size, 0, none⟩) 16 16)).run Tryd.prog wr = .ok (.string ⟨(Dig.hexK 16 x).toArray⟩) wr := hexConv x _ wr hg.out
      go_wp2
      go_ret
      exact ⟨rfl, hB⟩
end Go.Proofs.YtbiekbppenccdaaDoor
