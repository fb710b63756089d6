/-
  Commitments to shares (layer 7): each share of a list is accepted for its root and path; what else is accepted shows two different texts with one digest.
-/
import Derived.Test.YtcdnddjoonecdaaDoorShPCk
import Derived.Test.YtcdnddjoonecdaaDoorTmC
import Derived.Test.YtcdnddjoonecdaaDoorTmB
set_option linter.unusedVariables false
set_option maxRecDepth 100000
namespace Go.Proofs.YtcdnddjoonecdaaDoor
open Go.RowKit
open Fdp
/-- the string that is digested for a leaf -/
def leafTs (q : Int × Int) : ByteArray := joinB [kLeaf, textS q]
theorem leafTs_sum (q : Int × Int) : sumB (leafTs q) = leafB (textS q) := rfl
theorem textS_inj {x y z : Nat} (h : textS ((x : Int), (y : Int)) = textS ((x : Int), (z : Int))) : y = z := by
  unfold textS at h
  simp only [Int.toNat_natCast] at h
  have h2 := congrArg (fun b : ByteArray => b.data.toList) h
  simp only [ByteArray.data_append, Array.toList_append] at h2
  have h3 := List.append_cancel_left h2
  exact dec_inj (by simpa [decB] using h3)
theorem leaves_len (l : List (Int × Int)) : (leavesS l).length = l.length := by simp [leavesS]
theorem leaves_get {l : List (Int × Int)} {i : Nat} (h : i < l.length) : (leavesS l).getD i emptyB = leafB (textS l[i]) := by
  have : i < (leavesS l).length := by rw [leaves_len]; exact h
  simp [List.getD, leavesS, h]
theorem commit_ok {l : List (Int × Int)} {m k : Nat} (hm : m = l.length) (hm16 : m ≤ 16) (hk : k < m) (hx : (l[k]'(by omega)).1 = (k : Int) + 1) (hv : validS (l[k]'(by omega)) = true) :
    checkS (rootB (leavesS l)) m (l[k]'(by omega)) (pathB (leavesS l) k) = true := by
  have hkl : k < l.length := by omega
  have hl : (leavesS l).length = m := by rw [leaves_len]; omega
  rw [checkS_all (by omega) hv (by rw [hx]; omega), checkB_iff, hx, Int.add_sub_cancel, Int.toNat_natCast, Int.toNat_natCast]
  refine ⟨by omega, by omega, by omega, pathB_len _ _ _ hl, pathB_digs _ _ _ hl (digs_leaves l), isB_sum _, ?_⟩
  rw [← leaves_get hkl]
  exact upB_path m (leavesS l) k hl hk
theorem checkS_parts {root : ByteArray} {total : Int} {q : Int × Int} {p : List ByteArray} (h : checkS root total q p = true) : (1 ≤ total ∧ total ≤ 16) ∧ validS q = true ∧ q.1 ≤ total ∧ checkB root total (q.1 - 1) (leafB (textS q)) p = true := by
  unfold checkS at h
  simp only [Bool.and_eq_true, decide_eq_true_eq] at h
  exact ⟨h.1, h.2.1, h.2.2.1, h.2.2.2⟩
theorem commit_len {root : ByteArray} {m X : Nat} {y : Int} {p : List ByteArray} (h : checkS root m ((X : Int) + 1, y) p = true) : p.length = lenB m X := by
  obtain ⟨-, -, -, h4⟩ := checkS_parts h
  rw [checkB_iff] at h4
  simp only [Int.add_sub_cancel, Int.toNat_natCast] at h4
  exact h4.2.2.2.1
theorem commit_shown {l : List (Int × Int)} {m X Y : Nat} {p : List ByteArray} (hm : m = l.length) (hX : X < m) (hx : (l[X]'(by omega)).1 = (X : Int) + 1) (hy : 0 ≤ (l[X]'(by omega)).2)
    (hc : checkS (rootB (leavesS l)) m ((X : Int) + 1, (Y : Int)) p = true) (hn : ((X : Int) + 1, (Y : Int)) ≠ l[X]'(by omega)) :
    Shown (l.map leafTs ++ textsB (leavesS l) ++ [leafTs ((X : Int) + 1, (Y : Int))] ++ pathTextsB m X (leafB (textS ((X : Int) + 1, (Y : Int)))) p) := by
  have hXl : X < l.length := by omega
  have hl : (leavesS l).length = m := by rw [leaves_len]; omega
  obtain ⟨-, -, -, h4⟩ := checkS_parts hc
  rw [checkB_iff] at h4
  simp only [Int.add_sub_cancel, Int.toNat_natCast] at h4
  rcases path_binds m (leavesS l) X _ p hl hX h4.2.2.2.1 h4.2.2.2.2.2.2 with e | e
  · rw [leaves_get hXl] at e
    refine ⟨leafTs ((X : Int) + 1, (Y : Int)), by simp, leafTs l[X], ?_, e, ?_⟩
    · have : leafTs l[X] ∈ l.map leafTs := List.mem_map_of_mem (List.getElem_mem hXl)
      simp only [List.append_assoc, List.mem_append]
      exact .inl this
    · intro he
      have h5 := joinB_inj he
      have h6 : textS ((X : Int) + 1, (Y : Int)) = textS l[X] := by simpa using h5
      obtain ⟨Z, hZ⟩ : ∃ Z : Nat, (l[X]).2 = Z := ⟨(l[X]).2.toNat, by omega⟩
      have hlx : l[X] = (((X + 1 : Nat) : Int), (Z : Int)) := Prod.ext (by rw [hx]; simp) hZ
      rw [hlx, show (X : Int) + 1 = ((X + 1 : Nat) : Int) by simp] at h6
      have := textS_inj h6
      apply hn
      rw [hlx, this]; simp
  · refine e.mono fun x hx => ?_
    simp only [List.mem_append] at hx ⊢
    rcases hx with hx | hx
    · exact .inl (.inl (.inr hx))
    · exact .inr hx
theorem leafTs_size {x y : Nat} (hx : x ≤ 16) (hy : y < 2147483647) : (leafTs ((x : Int), (y : Int))).size ≤ 1099511627776 := joinB_small (by simp) (by
  intro s h
  simp only [List.mem_cons, List.not_mem_nil, or_false] at h
  rcases h with rfl | rfl
  · decide
  · have := textS_size hx hy; omega)
theorem leafTs_map_size {l : List (Int × Int)} (hv : validsS l = true) : ∀ s ∈ l.map leafTs, s.size ≤ 1099511627776 := by
  intro s hs
  obtain ⟨q, hq, rfl⟩ := List.mem_map.1 hs
  have h := validsS_iff.1 hv q hq
  obtain ⟨x, hx⟩ : ∃ x : Nat, q.1 = x := ⟨q.1.toNat, by omega⟩
  obtain ⟨y, hy⟩ : ∃ y : Nat, q.2 = y := ⟨q.2.toNat, by have := h.2.1; omega⟩
  rw [show q = ((x : Int), (y : Int)) from Prod.ext hx hy]
  exact leafTs_size (by omega) (by have := h.2.2; omega)
theorem ptexts_size : ∀ (n i : Nat) (d : ByteArray) (p : List ByteArray), p.length = lenB n i → d.size ≤ 2147483648 → Small p → ∀ s ∈ pathTextsB n i d p, s.size ≤ 1099511627776 := by
  intro n
  induction n using Nat.strongRecOn with
  | _ n ih =>
    intro i d p hp hd hS s hs
    by_cases h2 : 2 ≤ n
    · have k1 := half_pos h2
      have k2 := half_lt h2
      rw [lenB_big h2] at hp
      obtain ⟨q, x, rfl⟩ := snoc_of (p := p) (by intro e; subst e; simp at hp; split at hp <;> omega)
      simp only [List.length_append, List.length_singleton] at hp
      have hSq : Small q := fun s hs => hS s (by simp [hs])
      have hx := hS x (by simp)
      by_cases hlt : i < half n
      · rw [if_pos hlt] at hp
        rw [pathTextsB_lo h2 i hlt] at hs
        rcases List.mem_append.1 hs with hs | hs
        · exact ih (half n) k2 i d q (by omega) hd hSq s hs
        · simp only [List.mem_singleton] at hs
          subst hs
          exact nodeT_small (upB_size hd) hx
      · rw [if_neg hlt] at hp
        rw [pathTextsB_hi h2 i hlt] at hs
        rcases List.mem_append.1 hs with hs | hs
        · exact ih (n - half n) (by omega) (i - half n) d q (by omega) hd hSq s hs
        · simp only [List.mem_singleton] at hs
          subst hs
          exact nodeT_small hx (upB_size hd)
    · rw [pathTextsB_small h2] at hs; cases hs
theorem texts_all_size {l : List (Int × Int)} {m X Y : Nat} {p : List ByteArray} (hv : validsS l = true) (hX : X + 1 ≤ 16) (hY : Y < 2147483647) (hp : p.length = lenB m X) (hS : Small p) :
    ∀ s ∈ l.map leafTs ++ textsB (leavesS l) ++ [leafTs ((X : Int) + 1, (Y : Int))] ++ pathTextsB m X (leafB (textS ((X : Int) + 1, (Y : Int)))) p, s.size ≤ 1099511627776 := by
  intro s hs
  simp only [List.mem_append, List.mem_singleton] at hs
  rcases hs with ((hs | hs) | hs) | hs
  · exact leafTs_map_size hv s hs
  · exact textsB_size _ _ rfl (digsB_small (digs_leaves l)) s hs
  · subst hs
    have := leafTs_size (x := X + 1) (y := Y) hX hY
    simpa using this
  · exact ptexts_size m X _ p hp (by rw [show (leafB (textS ((X : Int) + 1, (Y : Int)))).size = 16 from sumB_size _]; omega) hS s hs
theorem texts_all_len {l : List (Int × Int)} {m X : Nat} {d : ByteArray} {t : ByteArray} {p : List ByteArray} (hm : m = l.length) (h8 : m ≤ 16) :
    (l.map leafTs ++ textsB (leavesS l) ++ [t] ++ pathTextsB m X d p).length ≤ 549755813888 := by
  have h1 := (textsB_len _ (leavesS l) rfl).1
  rw [leaves_len] at h1
  have h2 := pathTextsB_len m X d p
  simp only [List.length_append, List.length_map, List.length_singleton]
  omega
/-- the strings that are digested for the leaves of the first k -/
def lfsK (l : List (Int × Int)) (k : Nat) : List ByteArray := (l.take k).map leafTs
theorem lfsK_len (l : List (Int × Int)) (k : Nat) : (lfsK l k).length ≤ k := by unfold lfsK; rw [List.length_map, List.length_take]; omega
theorem lfsK_next {l : List (Int × Int)} {k : Nat} (h : k < l.length) : lfsK l (k + 1) = lfsK l k ++ [leafTs l[k]] := by
  unfold lfsK; rw [List.take_succ_eq_append_getElem h, List.map_append]; rfl
theorem lfsK_all {l : List (Int × Int)} {m : Nat} (h : m = l.length) : lfsK l m = l.map leafTs := by unfold lfsK; rw [List.take_of_length_le (by omega)]
/-- a share in a box -/
structure BoxAt (w : World) (B : Nat) (x y : Int) : Prop where
  c0 : w.cell? ⟨B, 0, none⟩ = some (.int .i64 x)
  c1 : w.cell? ⟨B, 1, none⟩ = some (.int .i64 y)
theorem BoxAt.bel {w w' : World} {B : Nat} {x y : Int} (h : BoxAt w B x y) (hb : Below w.heap.size w w') : BoxAt w' B x y :=
  ⟨(hb.cell (p := ⟨B, 0, none⟩) (cell_ltF h.c0)).trans h.c0, (hb.cell (p := ⟨B, 1, none⟩) (cell_ltF h.c1)).trans h.c1⟩
theorem box_new (w : World) (x y : Int) : BoxAt (w.alloc (Obj.cells #[Value.int .i64 x, Value.int .i64 y] 24)) w.heap.size x y :=
  ⟨by rw [Lib.cell_of_heap (heap_lastF _ _)]; rfl, by rw [Lib.cell_of_heap (heap_lastF _ _)]; rfl⟩
end Go.Proofs.YtcdnddjoonecdaaDoor
