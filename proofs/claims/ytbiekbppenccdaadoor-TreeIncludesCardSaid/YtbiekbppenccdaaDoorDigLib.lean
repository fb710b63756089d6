/-
  What the laws of layer 1 and of later layers share: equality of texts and digests, joined texts tell lists apart, bounds of lists that pass Few, and how facts on lists and tables outlive calls.
-/
import Derived.Test.YtbiekbppenccdaaDoorDigRjoin
import Derived.WalkSmall
set_option linter.unusedVariables false
namespace Go.Proofs.YtbiekbppenccdaaDoor
open Go.RowKit
theorem bytes_ext {s t : ByteArray} (h : s.data.toList = t.data.toList) : s = t := ByteArray.ext (Array.ext' h)
theorem sumB_inj {s t : ByteArray} (h : sumB s = sumB t) : Dig.sumL s.data.toList = Dig.sumL t.data.toList := by
  have := congrArg (fun b : ByteArray => b.data.toList) h
  simpa [sumB] using this
theorem sumB_short {s t : ByteArray} (hs : s.size ≤ 7) (ht : t.size ≤ 7) : sumB s = sumB t ↔ s = t := by
  constructor
  · intro h
    exact bytes_ext ((Dig.short_iff (by simpa using hs) (by simpa using ht)).1 (sumB_inj h))
  · intro h; rw [h]
theorem str_self (a : ByteArray) : (a.toList == a.toList) = true := by rw [str_beq]; simp
theorem i64_bounds {n : Int} (h : (Lit.int .i64 n).wf = true) : -9223372036854775808 ≤ n ∧ n ≤ 9223372036854775807 := by
  have := h
  simp [Lit.wf, IntKind.min, IntKind.max, IntKind.bits, IntKind.signed] at this
  omega
theorem u8_bounds {n : Int} (h : (Lit.int .u8 n).wf = true) : 0 ≤ n ∧ n ≤ 255 := by
  have := h
  simp [Lit.wf, IntKind.min, IntKind.max, IntKind.bits, IntKind.signed] at this
  omega
theorem hexTo_sum (x : ByteArray) (l : List UInt8) (hl : l.length = 16) (hx : x.data.toList = l) (hd : ∀ b ∈ l, isHex b.toNat = true) : isB x = true := by
  have hs : x.size = 16 := by
    have : x.data.toList.length = x.size := by simp
    rw [← this, hx, hl]
  have key : ∀ k, k ≤ 16 → hexTo x k = true := by
    intro k
    induction k with
    | zero => intro _; rfl
    | succ k ih =>
      intro hk
      simp only [hexTo, ih (by omega), Bool.true_and]
      rw [hx, Dig.byteAt_in (by omega)]
      exact hd _ (List.getElem_mem _)
  simp [isB, hs, key 16 (Nat.le_refl _)]
theorem hexK_hex (k x : Nat) : ∀ b ∈ Dig.hexK k x, isHex b.toNat = true := by
  induction k generalizing x with
  | zero => intro b hb; simp [Dig.hexK] at hb
  | succ k ih =>
    intro b hb
    simp only [Dig.hexK, List.mem_append, List.mem_singleton] at hb
    rcases hb with hb | rfl
    · exact ih _ b hb
    · have h := Nat.mod_lt x (show 0 < 16 by omega)
      generalize x % 16 = n at h
      unfold Dig.dg isHex
      split
      · simp [UInt8.toNat_ofNat']; omega
      · simp [UInt8.toNat_ofNat']; omega
theorem isB_sum (s : ByteArray) : isB (sumB s) = true :=
  hexTo_sum (sumB s) (Dig.sumL s.data.toList) (Dig.sumL_length _) (by simp [sumB]) (hexK_hex 16 _)
theorem isSum_any (s : ByteArray) (w : World) : Calls Tryd.prog 41 #[.string (sumB s)] w fun e w' => e = .returned (.bool true) ∧ w = w' := by
  refine (is_any (sumB s) w (by rw [sumB_size]; unfold maxLen; omega)).mono ?_
  rintro e w' ⟨rfl, rfl⟩
  exact ⟨by rw [isB_sum], rfl⟩
/-- what passes Few -/
theorem few_bounds {ss : List ByteArray} (h : fewB ss 200 = true) : ss.length ≤ 30 ∧ ∀ s ∈ ss, s.size ≤ 200 := by
  simp only [fewB, Bool.and_eq_true, List.all_eq_true, decide_eq_true_eq] at h
  exact ⟨h.2, fun s hs => by have := h.1 s hs; omega⟩
theorem join_bound {ss : List ByteArray} (h : ∀ s ∈ ss, s.size ≤ 200) : (joinL ss).length ≤ 221 * ss.length := by
  induction ss with
  | nil => simp [joinL]
  | cons s r ih =>
    have h1 := h s (List.mem_cons_self ..)
    have h2 := ih (fun x hx => h x (List.mem_cons_of_mem _ hx))
    have h3 : (decB s.size).size ≤ 20 := decB_size _ (by omega)
    have h4 : (decB s.size).size = (Lib.decDigits s.size).length := by show (Lib.decDigits s.size).toArray.size = _; simp
    have h5 : s.data.toList.length = s.size := by simp
    simp only [joinL, oneL, List.length_append, List.length_cons]
    omega
theorem cap_bound {ss : List ByteArray} (h : ∀ s ∈ ss, s.size ≤ 200) : capN ss ≤ 221 * ss.length := by
  induction ss with
  | nil => simp [capN]
  | cons s r ih =>
    have h1 := h s (List.mem_cons_self ..)
    have h2 := ih (fun x hx => h x (List.mem_cons_of_mem _ hx))
    simp only [capN, List.length_cons]
    omega
theorem byteAt_append (l m : List UInt8) (i : Nat) : Dig.byteAt (l ++ m) i = if i < l.length then Dig.byteAt l i else Dig.byteAt m (i - l.length) := by
  unfold Dig.byteAt
  split
  · rename_i h; rw [List.getElem?_append_left h]
  · rename_i h; rw [List.getElem?_append_right (by omega)]
theorem cat_list (x y : ByteArray) : (x ++ y).data.toList = x.data.toList ++ y.data.toList := by simp
theorem run_cat (x y : ByteArray) (w : World) (h : x.size + y.size ≤ 9223372036854775807) : Sem.run Tryd.prog (binOp .add 9 (.string x) (.string y)) w = .ok (.string (x ++ y)) w := by
  have := run_string_add_sum (P := Tryd.prog) w x y h
  simpa [binOp] using this
/-- the number of a row of digits -/
def valD (l : List UInt8) : Nat := l.foldl (fun n b => n * 10 + (b.toNat - 48)) 0
theorem valD_snoc (l : List UInt8) (b : UInt8) : valD (l ++ [b]) = valD l * 10 + (b.toNat - 48) := by simp [valD]
theorem dig_toNat (d : Nat) (h : d < 10) : (UInt8.ofNat (48 + d)).toNat = 48 + d := by
  rw [UInt8.toNat_ofNat']; omega
theorem valD_dec (n : Nat) : valD (Lib.decDigits n) = n := by
  induction n using Nat.strongRecOn with
  | _ n ih =>
    rw [Lib.decDigits]
    by_cases h : n < 10
    · rw [dif_pos h]
      show valD ([] ++ [_]) = n
      rw [valD_snoc, dig_toNat _ h]; simp [valD]
    · rw [dif_neg h, valD_snoc, ih _ (by omega), dig_toNat _ (Nat.mod_lt _ (by omega))]; omega
theorem dec_inj {a b : Nat} (h : Lib.decDigits a = Lib.decDigits b) : a = b := by rw [← valD_dec a, ← valD_dec b, h]
theorem dec_no58 (n : Nat) : ∀ b ∈ Lib.decDigits n, b ≠ 58 := by
  induction n using Nat.strongRecOn with
  | _ n ih =>
    intro b hb
    rw [Lib.decDigits] at hb
    have key : ∀ d, d < 10 → UInt8.ofNat (48 + d) ≠ 58 := by
      intro d hd e
      have := congrArg UInt8.toNat e
      rw [dig_toNat d hd] at this
      have h58 : (58 : UInt8).toNat = 58 := rfl
      omega
    by_cases h : n < 10
    · rw [dif_pos h] at hb
      simp only [List.mem_singleton] at hb
      subst hb; exact key n h
    · rw [dif_neg h] at hb
      rcases List.mem_append.1 hb with hb | hb
      · exact ih _ (by omega) b hb
      · simp only [List.mem_singleton] at hb
        subst hb; exact key _ (Nat.mod_lt _ (by omega))
theorem split58 {x y r q : List UInt8} (hx : ∀ b ∈ x, b ≠ 58) (hy : ∀ b ∈ y, b ≠ 58) (h : x ++ 58 :: r = y ++ 58 :: q) : x = y ∧ r = q := by
  induction x generalizing y with
  | nil =>
    cases y with
    | nil => simp at h; exact ⟨rfl, h⟩
    | cons c y => simp at h; exact absurd h.1.symm (hy c (List.mem_cons_self ..))
  | cons c x ih =>
    cases y with
    | nil => simp at h; exact absurd h.1 (hx c (List.mem_cons_self ..))
    | cons d y =>
      simp only [List.cons_append, List.cons.injEq] at h
      obtain ⟨rfl, h⟩ := h
      obtain ⟨h1, h2⟩ := ih (fun b hb => hx b (List.mem_cons_of_mem _ hb)) (fun b hb => hy b (List.mem_cons_of_mem _ hb)) h
      exact ⟨by rw [h1], h2⟩
theorem joinL_ne_nil (s : ByteArray) (r : List ByteArray) : joinL (s :: r) ≠ [] := by simp [joinL, oneL]
theorem joinL_inj : ∀ {l m : List ByteArray}, joinL l = joinL m → l = m
  | [], [], _ => rfl
  | [], t :: m, h => absurd h.symm (joinL_ne_nil t m)
  | s :: l, [], h => absurd h (joinL_ne_nil s l)
  | s :: l, t :: m, h => by
    simp only [joinL, oneL, List.append_assoc, List.cons_append] at h
    obtain ⟨h1, h2⟩ := split58 (dec_no58 _) (dec_no58 _) h
    have h3 := dec_inj h1
    have sz : ∀ x : ByteArray, x.data.toList.length = x.size := fun x => by simp
    obtain ⟨h4, h5⟩ := List.append_inj h2 (by rw [sz, sz, h3])
    rw [bytes_ext h4, joinL_inj h5]
theorem joinB_eq (l m : List ByteArray) : ((joinB l).toList == (joinB m).toList) = sameB l m := by
  rw [str_beq]
  unfold sameB
  by_cases h : l = m
  · subst h; simp
  · have : joinB l ≠ joinB m := fun e => h (joinL_inj (by
      have := congrArg (fun b : ByteArray => b.data.toList) e
      simpa [joinB] using this))
    simp [h, this]
/-- what the first statements of the law want of a list that passes Few -/
structure ListOk (ss : List ByteArray) : Prop where
  j : (joinL ss).length ≤ 1099511627776
  c : capN ss ≤ 140737488355328
theorem ListOk.of {ss : List ByteArray} (h : fewB ss 200 = true) : ListOk ss := by
  obtain ⟨f1, f2⟩ := few_bounds h
  have j1 := join_bound f2
  have j3 := cap_bound f2
  exact ⟨by omega, by omega⟩
theorem StrsOk.kept {w w' : World} {v : Value} {ss : List ByteArray} (h : Hid (StrsOk w v ss)) (hb : Below w.heap.size w w') : Hid (StrsOk w' v ss) := h.out.below hb
theorem TabOk.kept {w w' : World} (h : Hid (TabOk w)) (hb : Below w.heap.size w w') : Hid (TabOk w') := TabOk.below h.out hb
theorem below_dn (w : World) (n : Nat) : Below w.heap.size w (w.drewN n) := below_drewN (Below.refl _ _) n
theorem one_at (w : World) (A : ByteArray) : StrsAt (w.alloc (Obj.cells #[Value.string A] 9)) (.slice (some ⟨w.heap.size, 0, none⟩) 1 1) [A] := by
  refine .inr ⟨by simp, w.heap.size, 0, 1, rfl, fun j hj => ?_⟩
  rw [Lib.cell_of_heap (heap_last w _)]
  match j, hj with
  | 0, _ => rfl
theorem one_at' (w : World) (k : Nat) (A : ByteArray) : StrsAt ((w.drewN k).alloc (Obj.cells #[Value.string A] 9)) (.slice (some ⟨w.heap.size, 0, none⟩) 1 1) [A] := one_at (w.drewN k) A
theorem run_cut (A : ByteArray) (K : Int) (w : World) (h0 : 0 ≤ K) (h1 : K ≤ A.size) : Sem.run Tryd.prog (Instr.slice 9 (.string A) none (some (.int .i64 K)) none) w = .ok (.string (A.extract 0 K.toNat)) w :=
  run_slice_string_h (P := Tryd.prog) w 9 A Tryd.underlying9 .i64 K h0 h1
theorem run_cut2 (A : ByteArray) (K L : Int) (w : World) (h0 : 0 ≤ K) (h1 : K ≤ L) (h2 : L ≤ A.size) : Sem.run Tryd.prog (Instr.slice 9 (.string A) (some (.int .i64 K)) (some (.int .i64 L)) none) w = .ok (.string (A.extract K.toNat L.toNat)) w := by
  rw [run_slice_string_if (P := Tryd.prog) w 9 A .i64 .i64 K L Tryd.underlying9]
  rw [if_pos ⟨by omega, h2⟩, if_pos ⟨h0, h1⟩]
theorem quiet_kept {w0 w : World} (n : Nat) (hB : Below w0.heap.size w0 w) (ht : Hid (TabOk w)) : Below w0.heap.size w0 (w.drewN n) ∧ Hid (TabOk (w.drewN n)) :=
  ⟨hB.trans ((below_dn w n).mono hB.size), TabOk.kept ht (below_dn w n)⟩
theorem TabOk.drew {w : World} (h : TabOk w) : TabOk w.drew := h
end Go.Proofs.YtbiekbppenccdaaDoor
