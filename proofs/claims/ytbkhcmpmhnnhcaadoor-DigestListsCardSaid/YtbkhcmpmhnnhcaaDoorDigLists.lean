/-
  The walk of the law DigestLists: it returns true for every input.
-/
import Derived.Test.YtbkhcmpmhnnhcaaDoorDigJpure
import Derived.WalkLawsBesides
import Derived.WalkSmall
import Derived.Deep.RegionHeld3
import Derived.Deep.QuietTactic
import Derived.BigQuiet
set_option linter.unusedVariables false
namespace Go.Proofs.YtbkhcmpmhnnhcaaDoor
open Go.RowKit
/-- what the first statements of the law want of a list that passes Few -/
structure ListOk (ss : List ByteArray) : Prop where
  j : (joinL ss).length ≤ 1099511627776
  c : capN ss ≤ 140737488355328
theorem ListOk.of {ss : List ByteArray} (h : fewB ss 200 = true) : ListOk ss := by
  obtain ⟨f1, f2⟩ := few_bounds h
  have j1 := join_bound f2
  have j3 := cap_bound f2
  exact ⟨by omega, by omega⟩
theorem StrsOk.kept {w w' : World} {v : Value} {ss : List ByteArray} (h : Hid (StrsOk w v ss)) (hb : Below w.heap.size w w') : Hid (StrsOk w' v ss) := h.out.below hb
theorem TabOk.kept {w w' : World} (h : Hid (TabOk w)) (hb : Below w.heap.size w w') : Hid (TabOk w') := TabOk.below h.out hb
theorem below_dn (w : World) (n : Nat) : Below w.heap.size w (w.drewN n) := below_drewN (Below.refl _ _) n
theorem bool_neq_self (b : Bool) : (!(b == b)) = false := by cases b <;> rfl
theorem tail_key (A t A6 T6 : ByteArray) (m k : Nat) (hA : A.size = m) (hm : m ≤ 9) (ht : m ≤ t.size) (hk : k = min m 6) (h1 : A6 = A.extract 0 k) (h2 : T6 = t.extract k m) :
    (((sumB (joinB [A])).toList == (sumB (joinB [A6 ++ T6])).toList) == (A.toList == (A6 ++ T6).toList)) = true ∧ (A6 ++ T6).size = m ∧ A6.size ≤ 9 ∧ T6.size ≤ 9 := by
  have s1 : A6.size = k := by rw [h1]; simp; omega
  have s2 : T6.size = m - k := by rw [h2]; simp; omega
  have s3 : (A6 ++ T6).size = m := by rw [ByteArray.size_append]; omega
  refine ⟨list_one A (A6 ++ T6) (by rw [hA, s3]) (by omega) (fun i hi => ?_), s3, by omega, by omega⟩
  have sz : ∀ x : ByteArray, x.data.toList.length = x.size := fun x => by simp
  rw [cat_list, byteAt_append, sz, s1]
  split
  · rename_i hik
    unfold Dig.byteAt
    have : A6.data.toList[i]? = A.data.toList[i]? := by
      rw [h1]
      simp only [ByteArray.data_extract, Array.toList_extract, List.extract_eq_take_drop, List.drop_zero, Nat.sub_zero]
      rw [List.getElem?_take, if_pos hik]
    rw [this]
  · rename_i hik
    rw [Dig.byteAt_out (by rw [sz]; omega), Dig.byteAt_out (by rw [sz]; omega)]
theorem one_at (w : World) (A : ByteArray) : StrsAt (w.alloc (Obj.cells #[Value.string A] 9)) (.slice (some ⟨w.heap.size, 0, none⟩) 1 1) [A] := by
  refine .inr ⟨by simp, w.heap.size, 0, 1, rfl, fun j hj => ?_⟩
  rw [Lib.cell_of_heap (heap_last w _)]
  match j, hj with
  | 0, _ => rfl
theorem one_at' (w : World) (k : Nat) (A : ByteArray) : StrsAt ((w.drewN k).alloc (Obj.cells #[Value.string A] 9)) (.slice (some ⟨w.heap.size, 0, none⟩) 1 1) [A] := one_at (w.drewN k) A
theorem one_join (A : ByteArray) (h : A.size ≤ 9) : (joinL [A]).length ≤ 1099511627776 := by
  have h1 := join_one A h
  have h2 : (joinL [A]).length = (joinB [A]).data.toList.length := by simp [joinB]
  have sz : A.data.toList.length = A.size := by simp
  rw [h2, h1, List.length_append, sz]
  simp; omega
theorem run_cut (A : ByteArray) (K : Int) (w : World) (h0 : 0 ≤ K) (h1 : K ≤ A.size) : Sem.run Tryd.prog (Instr.slice 9 (.string A) none (some (.int .i64 K)) none) w = .ok (.string (A.extract 0 K.toNat)) w :=
  run_slice_string_h (P := Tryd.prog) w 9 A Tryd.underlying9 .i64 K h0 h1
theorem run_cut2 (A : ByteArray) (K L : Int) (w : World) (h0 : 0 ≤ K) (h1 : K ≤ L) (h2 : L ≤ A.size) : Sem.run Tryd.prog (Instr.slice 9 (.string A) (some (.int .i64 K)) (some (.int .i64 L)) none) w = .ok (.string (A.extract K.toNat L.toNat)) w := by
  rw [run_slice_string_if (P := Tryd.prog) w 9 A .i64 .i64 K L Tryd.underlying9]
  rw [if_pos ⟨by omega, h2⟩, if_pos ⟨h0, h1⟩]
theorem quiet_kept {w0 w : World} (n : Nat) (hB : Below w0.heap.size w0 w) (ht : Hid (TabOk w)) : Below w0.heap.size w0 (w.drewN n) ∧ Hid (TabOk (w.drewN n)) :=
  ⟨hB.trans ((below_dn w n).mono hB.size), TabOk.kept ht (below_dn w n)⟩
theorem TabOk.drew {w : World} (h : TabOk w) : TabOk w.drew := h
set_option maxHeartbeats 2000000 in
theorem walkLists1 (v : Value) (ss : List ByteArray) (u : Value) (tt : List ByteArray) (s t : ByteArray) (w : World) (hv : Hid (StrsOk w v ss)) (hu : Hid (StrsOk w u tt)) (hs : s.size ≤ 9223372036854775807) (hs2 : t.size ≤ 9223372036854775807) (ht : Hid (TabOk w)) (f1 : fewB ss 200 = true) (f2 : fewB tt 200 = true) (c1 : t.size < s.size) (c2 : 9 < t.size) :
    Calls Tryd.prog 9 #[v, u, .string s, .string t] w fun e w' => e = .returned (.bool true) ∧ Below w.heap.size w w' := by
  have hL := Lib.hid (ListOk.of f1)
  have hM := Lib.hid (ListOk.of f2)
  obtain ⟨A, hA0⟩ : ∃ x, x = s.extract 0 9 := ⟨_, rfl⟩
  have hA : A.size = 9 := by rw [hA0]; simp; omega
  obtain ⟨k1, k2, k3, k4⟩ := tail_key A t (A.extract 0 (min (9 : Int) 6).toNat) (t.extract (min (9 : Int) 6).toNat 9) 9 (min (9 : Int) 6).toNat hA (by omega) (by omega) (by omega) rfl rfl
  have i1 : (0 : Int) ≤ (min (9 : Int) 6) := by omega
  have i2 : (min (9 : Int) 6) ≤ (A.size : Int) := by omega
  have i3 : (min (9 : Int) 6) ≤ (9 : Int) := by omega
  have i4 : (9 : Int) ≤ (t.size : Int) := by omega
  have n1 : ¬ (9223372036854775807 < (A.extract 0 (min (9 : Int) 6).toNat).size + (t.extract (min (9 : Int) 6).toNat 9).size) := by omega
  have k5 : ((A.extract 0 (min (9 : Int) 6).toNat) ++ (t.extract (min (9 : Int) 6).toNat 9)).size ≤ 9 := by omega
  have k6 : A.size ≤ 9 := by omega
  have hK := Lib.hid k1
  have hK5 := Lib.hid k5
  have hK6 := Lib.hid k6
  clear k1 k2 k3 k4 k5 k6
  have HA := Lib.hid hA0
  clear hA hA0
  by_cases d1 : (joinB ss).size ≤ 7
  · by_cases d2 : (joinB tt).size ≤ 7
    · go_enter Tryd.func9, Tryd.ntmps9
      go_wp2_with fail
      refine (head_any _ ht.out).mono ?_
      rintro e w1 ⟨rfl, hb1⟩
      have hv1 := StrsOk.kept hv hb1
      have hu1 := StrsOk.kept hu hb1
      have ht1 := TabOk.kept ht hb1
      go_wp2_with fail
      refine (few_any _ _ 200 _ hv1.out.at_ hv1.out.len hv1.out.sizes).mono ?_
      rintro e w2 ⟨rfl, rfl⟩
      go_wp2_with fail
      refine (few_any _ _ 200 _ hu1.out.at_ hu1.out.len hu1.out.sizes).mono ?_
      rintro e w2 ⟨rfl, rfl⟩
      go_wp2_with fail
      refine (refjoined_any _ _ _ hv1.out.at_ hv1.out.len hL.out.j hL.out.c).mono ?_
      rintro e w2 ⟨rfl, hb2⟩
      have hB2 := hb1.trans (hb2.mono hb1.size)
      have hv2 := StrsOk.kept hv1 hb2
      have hu2 := StrsOk.kept hu1 hb2
      have ht2 := TabOk.kept ht1 hb2
      clear hb1 hb2 hv1 hu1 ht1 hv hu ht
      go_wp2_with fail
      refine (refjoined_any _ _ _ hu2.out.at_ hu2.out.len hM.out.j hM.out.c).mono ?_
      rintro e w3 ⟨rfl, hb3⟩
      have hB3 := hB2.trans (hb3.mono hB2.size)
      have hv3 := StrsOk.kept hv2 hb3
      have hu3 := StrsOk.kept hu2 hb3
      have ht3 := TabOk.kept ht2 hb3
      clear hB2 hb3 hv2 hu2 ht2
      go_wp2_with fail
      refine (list_any _ _ _ hv3.out.at_ hv3.out.len hL.out.j ht3.out).mono ?_
      rintro e w4 ⟨rfl, hb4⟩
      have hB4 := hB3.trans (hb4.mono hB3.size)
      have hv4 := StrsOk.kept hv3 hb4
      have hu4 := StrsOk.kept hu3 hb4
      have ht4 := TabOk.kept ht3 hb4
      clear hB3 hb4 hv3 hu3 ht3
      go_wp2_with fail
      refine (sum_any _ _ (by have := hL.out.j; rw [joinB_size]; unfold maxLen; omega)).mono ?_
      rintro e w5 ⟨rfl, hb5⟩
      have hB5 := hB4.trans (hb5.mono hB4.size)
      have hv5 := StrsOk.kept hv4 hb5
      have hu5 := StrsOk.kept hu4 hb5
      have ht5 := TabOk.kept ht4 hb5
      clear hB4 hb5 hv4 hu4 ht4
      go_wp2_with fail
      refine (same_any _ _ _ _ _ hv5.out.at_ hu5.out.at_ hv5.out.len hu5.out.len).mono ?_
      rintro e w6 ⟨rfl, n6, rfl⟩
      have hB6 := hB5.trans ((below_dn w5 n6).mono hB5.size)
      have hv6 := StrsOk.kept hv5 (below_dn w5 n6)
      have hu6 := StrsOk.kept hu5 (below_dn w5 n6)
      have ht6 := TabOk.kept ht5 (below_dn w5 n6)
      clear hB5 hv5 hu5 ht5
      have q1 := joinB_eq ss tt
      have q2 := Lib.hid (list_short ss tt d1 d2)
      go_wp2_with fail
      refine (list_any _ _ _ hv6.out.at_ hv6.out.len hL.out.j ht6.out).mono ?_
      rintro e w7 ⟨rfl, hb7⟩
      have hB7 := hB6.trans (hb7.mono hB6.size)
      have hv7 := StrsOk.kept hv6 hb7
      have hu7 := StrsOk.kept hu6 hb7
      have ht7 := TabOk.kept ht6 hb7
      clear hB6 hb7 hv6 hu6 ht6
      go_wp2_with fail
      refine (list_any _ _ _ hu7.out.at_ hu7.out.len hM.out.j ht7.out).mono ?_
      rintro e w8 ⟨rfl, hb8⟩
      have hB8 := hB7.trans (hb8.mono hB7.size)
      have hv8 := StrsOk.kept hv7 hb8
      have hu8 := StrsOk.kept hu7 hb8
      have ht8 := TabOk.kept ht7 hb8
      clear hB7 hb8 hv7 hu7 ht7
      go_wp2_with fail
      refine (same_any _ _ _ _ _ hv8.out.at_ hu8.out.at_ hv8.out.len hu8.out.len).mono ?_
      rintro e w9 ⟨rfl, n9, rfl⟩
      have hBa := hB8.trans ((below_dn w8 n9).mono hB8.size)
      have hva := StrsOk.kept hv8 (below_dn w8 n9)
      have hua := StrsOk.kept hu8 (below_dn w8 n9)
      have hta := TabOk.kept ht8 (below_dn w8 n9)
      clear hB8 hv8 hu8 ht8
      have q2 := q2.out
      go_wp2_with fail
      rw [← HA.out]
      clear HA
      go_quiet (fail)
      obtain ⟨hB8, ht8⟩ := quiet_kept nq hBa hta
      rw [World.drewN_drewN] at hB8 ht8
      clear hBa hta hva hua
      go_wp2_with fail
      refine (list_any _ _ _ (one_at' _ _ _) (by unfold maxLen; simp) (one_join _ hK6.out) (TabOk.kept ht8 (Below.alloc (Below.refl _ _) (Nat.le_refl _) _)).out).mono ?_
      rintro e w9 ⟨rfl, hb9⟩
      have hB9 := (hB8.alloc hB8.size _).trans (hb9.mono (Nat.le_trans hB8.size (by simp)))
      have ht9 := TabOk.kept (TabOk.kept ht8 (Below.alloc (Below.refl _ _) (Nat.le_refl _) _)) hb9
      clear hb9 ht8 hB8
      go_wp2_with fail
      refine (list_any _ _ _ (one_at _ _) (by unfold maxLen; simp) (one_join _ hK5.out) (TabOk.kept ht9 (Below.alloc (Below.refl _ _) (Nat.le_refl _) _)).out).mono ?_
      rintro e w10 ⟨rfl, hb10⟩
      have hB10 := (hB9.alloc hB9.size _).trans (hb10.mono (Nat.le_trans hB9.size (by simp)))
      clear hb10 ht9 hB9
      have hq := hK.out
      go_wp2_with fail
      go_ret
      exact ⟨by rw [← hq]; rfl, hB10⟩
    · go_enter Tryd.func9, Tryd.ntmps9
      go_wp2_with fail
      refine (head_any _ ht.out).mono ?_
      rintro e w1 ⟨rfl, hb1⟩
      have hv1 := StrsOk.kept hv hb1
      have hu1 := StrsOk.kept hu hb1
      have ht1 := TabOk.kept ht hb1
      go_wp2_with fail
      refine (few_any _ _ 200 _ hv1.out.at_ hv1.out.len hv1.out.sizes).mono ?_
      rintro e w2 ⟨rfl, rfl⟩
      go_wp2_with fail
      refine (few_any _ _ 200 _ hu1.out.at_ hu1.out.len hu1.out.sizes).mono ?_
      rintro e w2 ⟨rfl, rfl⟩
      go_wp2_with fail
      refine (refjoined_any _ _ _ hv1.out.at_ hv1.out.len hL.out.j hL.out.c).mono ?_
      rintro e w2 ⟨rfl, hb2⟩
      have hB2 := hb1.trans (hb2.mono hb1.size)
      have hv2 := StrsOk.kept hv1 hb2
      have hu2 := StrsOk.kept hu1 hb2
      have ht2 := TabOk.kept ht1 hb2
      clear hb1 hb2 hv1 hu1 ht1 hv hu ht
      go_wp2_with fail
      refine (refjoined_any _ _ _ hu2.out.at_ hu2.out.len hM.out.j hM.out.c).mono ?_
      rintro e w3 ⟨rfl, hb3⟩
      have hB3 := hB2.trans (hb3.mono hB2.size)
      have hv3 := StrsOk.kept hv2 hb3
      have hu3 := StrsOk.kept hu2 hb3
      have ht3 := TabOk.kept ht2 hb3
      clear hB2 hb3 hv2 hu2 ht2
      go_wp2_with fail
      refine (list_any _ _ _ hv3.out.at_ hv3.out.len hL.out.j ht3.out).mono ?_
      rintro e w4 ⟨rfl, hb4⟩
      have hB4 := hB3.trans (hb4.mono hB3.size)
      have hv4 := StrsOk.kept hv3 hb4
      have hu4 := StrsOk.kept hu3 hb4
      have ht4 := TabOk.kept ht3 hb4
      clear hB3 hb4 hv3 hu3 ht3
      go_wp2_with fail
      refine (sum_any _ _ (by have := hL.out.j; rw [joinB_size]; unfold maxLen; omega)).mono ?_
      rintro e w5 ⟨rfl, hb5⟩
      have hB5 := hB4.trans (hb5.mono hB4.size)
      have hv5 := StrsOk.kept hv4 hb5
      have hu5 := StrsOk.kept hu4 hb5
      have ht5 := TabOk.kept ht4 hb5
      clear hB4 hb5 hv4 hu4 ht4
      go_wp2_with fail
      refine (same_any _ _ _ _ _ hv5.out.at_ hu5.out.at_ hv5.out.len hu5.out.len).mono ?_
      rintro e w6 ⟨rfl, n6, rfl⟩
      have hB6 := hB5.trans ((below_dn w5 n6).mono hB5.size)
      have hv6 := StrsOk.kept hv5 (below_dn w5 n6)
      have hu6 := StrsOk.kept hu5 (below_dn w5 n6)
      have ht6 := TabOk.kept ht5 (below_dn w5 n6)
      clear hB5 hv5 hu5 ht5
      have q1 := joinB_eq ss tt
      go_wp2_with fail
      rw [← HA.out]
      clear HA
      go_quiet (fail)
      obtain ⟨hB8, ht8⟩ := quiet_kept nq hB6 ht6
      rw [World.drewN_drewN] at hB8 ht8
      clear hB6 ht6 hv6 hu6
      go_wp2_with fail
      refine (list_any _ _ _ (one_at' _ _ _) (by unfold maxLen; simp) (one_join _ hK6.out) (TabOk.kept ht8 (Below.alloc (Below.refl _ _) (Nat.le_refl _) _)).out).mono ?_
      rintro e w9 ⟨rfl, hb9⟩
      have hB9 := (hB8.alloc hB8.size _).trans (hb9.mono (Nat.le_trans hB8.size (by simp)))
      have ht9 := TabOk.kept (TabOk.kept ht8 (Below.alloc (Below.refl _ _) (Nat.le_refl _) _)) hb9
      clear hb9 ht8 hB8
      go_wp2_with fail
      refine (list_any _ _ _ (one_at _ _) (by unfold maxLen; simp) (one_join _ hK5.out) (TabOk.kept ht9 (Below.alloc (Below.refl _ _) (Nat.le_refl _) _)).out).mono ?_
      rintro e w10 ⟨rfl, hb10⟩
      have hB10 := (hB9.alloc hB9.size _).trans (hb10.mono (Nat.le_trans hB9.size (by simp)))
      clear hb10 ht9 hB9
      have hq := hK.out
      go_wp2_with fail
      go_ret
      exact ⟨by rw [← hq]; rfl, hB10⟩
  · go_enter Tryd.func9, Tryd.ntmps9
    go_wp2_with fail
    refine (head_any _ ht.out).mono ?_
    rintro e w1 ⟨rfl, hb1⟩
    have hv1 := StrsOk.kept hv hb1
    have hu1 := StrsOk.kept hu hb1
    have ht1 := TabOk.kept ht hb1
    go_wp2_with fail
    refine (few_any _ _ 200 _ hv1.out.at_ hv1.out.len hv1.out.sizes).mono ?_
    rintro e w2 ⟨rfl, rfl⟩
    go_wp2_with fail
    refine (few_any _ _ 200 _ hu1.out.at_ hu1.out.len hu1.out.sizes).mono ?_
    rintro e w2 ⟨rfl, rfl⟩
    go_wp2_with fail
    refine (refjoined_any _ _ _ hv1.out.at_ hv1.out.len hL.out.j hL.out.c).mono ?_
    rintro e w2 ⟨rfl, hb2⟩
    have hB2 := hb1.trans (hb2.mono hb1.size)
    have hv2 := StrsOk.kept hv1 hb2
    have hu2 := StrsOk.kept hu1 hb2
    have ht2 := TabOk.kept ht1 hb2
    clear hb1 hb2 hv1 hu1 ht1 hv hu ht
    go_wp2_with fail
    refine (refjoined_any _ _ _ hu2.out.at_ hu2.out.len hM.out.j hM.out.c).mono ?_
    rintro e w3 ⟨rfl, hb3⟩
    have hB3 := hB2.trans (hb3.mono hB2.size)
    have hv3 := StrsOk.kept hv2 hb3
    have hu3 := StrsOk.kept hu2 hb3
    have ht3 := TabOk.kept ht2 hb3
    clear hB2 hb3 hv2 hu2 ht2
    go_wp2_with fail
    refine (list_any _ _ _ hv3.out.at_ hv3.out.len hL.out.j ht3.out).mono ?_
    rintro e w4 ⟨rfl, hb4⟩
    have hB4 := hB3.trans (hb4.mono hB3.size)
    have hv4 := StrsOk.kept hv3 hb4
    have hu4 := StrsOk.kept hu3 hb4
    have ht4 := TabOk.kept ht3 hb4
    clear hB3 hb4 hv3 hu3 ht3
    go_wp2_with fail
    refine (sum_any _ _ (by have := hL.out.j; rw [joinB_size]; unfold maxLen; omega)).mono ?_
    rintro e w5 ⟨rfl, hb5⟩
    have hB5 := hB4.trans (hb5.mono hB4.size)
    have hv5 := StrsOk.kept hv4 hb5
    have hu5 := StrsOk.kept hu4 hb5
    have ht5 := TabOk.kept ht4 hb5
    clear hB4 hb5 hv4 hu4 ht4
    go_wp2_with fail
    refine (same_any _ _ _ _ _ hv5.out.at_ hu5.out.at_ hv5.out.len hu5.out.len).mono ?_
    rintro e w6 ⟨rfl, n6, rfl⟩
    have hB6 := hB5.trans ((below_dn w5 n6).mono hB5.size)
    have hv6 := StrsOk.kept hv5 (below_dn w5 n6)
    have hu6 := StrsOk.kept hu5 (below_dn w5 n6)
    have ht6 := TabOk.kept ht5 (below_dn w5 n6)
    clear hB5 hv5 hu5 ht5
    have q1 := joinB_eq ss tt
    go_wp2_with fail
    rw [← HA.out]
    clear HA
    go_quiet (fail)
    obtain ⟨hB8, ht8⟩ := quiet_kept nq hB6 ht6
    rw [World.drewN_drewN] at hB8 ht8
    clear hB6 ht6 hv6 hu6
    go_wp2_with fail
    refine (list_any _ _ _ (one_at' _ _ _) (by unfold maxLen; simp) (one_join _ hK6.out) (TabOk.kept ht8 (Below.alloc (Below.refl _ _) (Nat.le_refl _) _)).out).mono ?_
    rintro e w9 ⟨rfl, hb9⟩
    have hB9 := (hB8.alloc hB8.size _).trans (hb9.mono (Nat.le_trans hB8.size (by simp)))
    have ht9 := TabOk.kept (TabOk.kept ht8 (Below.alloc (Below.refl _ _) (Nat.le_refl _) _)) hb9
    clear hb9 ht8 hB8
    go_wp2_with fail
    refine (list_any _ _ _ (one_at _ _) (by unfold maxLen; simp) (one_join _ hK5.out) (TabOk.kept ht9 (Below.alloc (Below.refl _ _) (Nat.le_refl _) _)).out).mono ?_
    rintro e w10 ⟨rfl, hb10⟩
    have hB10 := (hB9.alloc hB9.size _).trans (hb10.mono (Nat.le_trans hB9.size (by simp)))
    clear hb10 ht9 hB9
    have hq := hK.out
    go_wp2_with fail
    go_ret
    exact ⟨by rw [← hq]; rfl, hB10⟩
set_option maxHeartbeats 2000000 in
theorem walkLists2 (v : Value) (ss : List ByteArray) (u : Value) (tt : List ByteArray) (s t : ByteArray) (w : World) (hv : Hid (StrsOk w v ss)) (hu : Hid (StrsOk w u tt)) (hs : s.size ≤ 9223372036854775807) (hs2 : t.size ≤ 9223372036854775807) (ht : Hid (TabOk w)) (f1 : fewB ss 200 = true) (f2 : fewB tt 200 = true) (c1 : t.size < s.size) (c2 : ¬ 9 < t.size) :
    Calls Tryd.prog 9 #[v, u, .string s, .string t] w fun e w' => e = .returned (.bool true) ∧ Below w.heap.size w w' := by
  have hL := Lib.hid (ListOk.of f1)
  have hM := Lib.hid (ListOk.of f2)
  obtain ⟨A, hA0⟩ : ∃ x, x = s.extract 0 t.size := ⟨_, rfl⟩
  have hA : A.size = t.size := by rw [hA0]; simp; omega
  obtain ⟨k1, k2, k3, k4⟩ := tail_key A t (A.extract 0 (min (t.size : Int) 6).toNat) (t.extract (min (t.size : Int) 6).toNat t.size) t.size (min (t.size : Int) 6).toNat hA (by omega) (by omega) (by omega) rfl rfl
  have i1 : (0 : Int) ≤ (min (t.size : Int) 6) := by omega
  have i2 : (min (t.size : Int) 6) ≤ (A.size : Int) := by omega
  have i3 : (min (t.size : Int) 6) ≤ (t.size : Int) := by omega
  have i4 : (t.size : Int) ≤ (t.size : Int) := by omega
  have n1 : ¬ (9223372036854775807 < (A.extract 0 (min (t.size : Int) 6).toNat).size + (t.extract (min (t.size : Int) 6).toNat t.size).size) := by omega
  have k5 : ((A.extract 0 (min (t.size : Int) 6).toNat) ++ (t.extract (min (t.size : Int) 6).toNat t.size)).size ≤ 9 := by omega
  have k6 : A.size ≤ 9 := by omega
  have hK := Lib.hid k1
  have hK5 := Lib.hid k5
  have hK6 := Lib.hid k6
  clear k1 k2 k3 k4 k5 k6
  have HA := Lib.hid hA0
  clear hA hA0
  by_cases d1 : (joinB ss).size ≤ 7
  · by_cases d2 : (joinB tt).size ≤ 7
    · go_enter Tryd.func9, Tryd.ntmps9
      go_wp2_with fail
      refine (head_any _ ht.out).mono ?_
      rintro e w1 ⟨rfl, hb1⟩
      have hv1 := StrsOk.kept hv hb1
      have hu1 := StrsOk.kept hu hb1
      have ht1 := TabOk.kept ht hb1
      go_wp2_with fail
      refine (few_any _ _ 200 _ hv1.out.at_ hv1.out.len hv1.out.sizes).mono ?_
      rintro e w2 ⟨rfl, rfl⟩
      go_wp2_with fail
      refine (few_any _ _ 200 _ hu1.out.at_ hu1.out.len hu1.out.sizes).mono ?_
      rintro e w2 ⟨rfl, rfl⟩
      go_wp2_with fail
      refine (refjoined_any _ _ _ hv1.out.at_ hv1.out.len hL.out.j hL.out.c).mono ?_
      rintro e w2 ⟨rfl, hb2⟩
      have hB2 := hb1.trans (hb2.mono hb1.size)
      have hv2 := StrsOk.kept hv1 hb2
      have hu2 := StrsOk.kept hu1 hb2
      have ht2 := TabOk.kept ht1 hb2
      clear hb1 hb2 hv1 hu1 ht1 hv hu ht
      go_wp2_with fail
      refine (refjoined_any _ _ _ hu2.out.at_ hu2.out.len hM.out.j hM.out.c).mono ?_
      rintro e w3 ⟨rfl, hb3⟩
      have hB3 := hB2.trans (hb3.mono hB2.size)
      have hv3 := StrsOk.kept hv2 hb3
      have hu3 := StrsOk.kept hu2 hb3
      have ht3 := TabOk.kept ht2 hb3
      clear hB2 hb3 hv2 hu2 ht2
      go_wp2_with fail
      refine (list_any _ _ _ hv3.out.at_ hv3.out.len hL.out.j ht3.out).mono ?_
      rintro e w4 ⟨rfl, hb4⟩
      have hB4 := hB3.trans (hb4.mono hB3.size)
      have hv4 := StrsOk.kept hv3 hb4
      have hu4 := StrsOk.kept hu3 hb4
      have ht4 := TabOk.kept ht3 hb4
      clear hB3 hb4 hv3 hu3 ht3
      go_wp2_with fail
      refine (sum_any _ _ (by have := hL.out.j; rw [joinB_size]; unfold maxLen; omega)).mono ?_
      rintro e w5 ⟨rfl, hb5⟩
      have hB5 := hB4.trans (hb5.mono hB4.size)
      have hv5 := StrsOk.kept hv4 hb5
      have hu5 := StrsOk.kept hu4 hb5
      have ht5 := TabOk.kept ht4 hb5
      clear hB4 hb5 hv4 hu4 ht4
      go_wp2_with fail
      refine (same_any _ _ _ _ _ hv5.out.at_ hu5.out.at_ hv5.out.len hu5.out.len).mono ?_
      rintro e w6 ⟨rfl, n6, rfl⟩
      have hB6 := hB5.trans ((below_dn w5 n6).mono hB5.size)
      have hv6 := StrsOk.kept hv5 (below_dn w5 n6)
      have hu6 := StrsOk.kept hu5 (below_dn w5 n6)
      have ht6 := TabOk.kept ht5 (below_dn w5 n6)
      clear hB5 hv5 hu5 ht5
      have q1 := joinB_eq ss tt
      have q2 := Lib.hid (list_short ss tt d1 d2)
      go_wp2_with fail
      refine (list_any _ _ _ hv6.out.at_ hv6.out.len hL.out.j ht6.out).mono ?_
      rintro e w7 ⟨rfl, hb7⟩
      have hB7 := hB6.trans (hb7.mono hB6.size)
      have hv7 := StrsOk.kept hv6 hb7
      have hu7 := StrsOk.kept hu6 hb7
      have ht7 := TabOk.kept ht6 hb7
      clear hB6 hb7 hv6 hu6 ht6
      go_wp2_with fail
      refine (list_any _ _ _ hu7.out.at_ hu7.out.len hM.out.j ht7.out).mono ?_
      rintro e w8 ⟨rfl, hb8⟩
      have hB8 := hB7.trans (hb8.mono hB7.size)
      have hv8 := StrsOk.kept hv7 hb8
      have hu8 := StrsOk.kept hu7 hb8
      have ht8 := TabOk.kept ht7 hb8
      clear hB7 hb8 hv7 hu7 ht7
      go_wp2_with fail
      refine (same_any _ _ _ _ _ hv8.out.at_ hu8.out.at_ hv8.out.len hu8.out.len).mono ?_
      rintro e w9 ⟨rfl, n9, rfl⟩
      have hBa := hB8.trans ((below_dn w8 n9).mono hB8.size)
      have hva := StrsOk.kept hv8 (below_dn w8 n9)
      have hua := StrsOk.kept hu8 (below_dn w8 n9)
      have hta := TabOk.kept ht8 (below_dn w8 n9)
      clear hB8 hv8 hu8 ht8
      have q2 := q2.out
      go_wp2_with fail
      rw [← HA.out]
      clear HA
      go_quiet (fail)
      obtain ⟨hB8, ht8⟩ := quiet_kept nq hBa hta
      rw [World.drewN_drewN] at hB8 ht8
      clear hBa hta hva hua
      go_wp2_with fail
      refine (list_any _ _ _ (one_at' _ _ _) (by unfold maxLen; simp) (one_join _ hK6.out) (TabOk.kept ht8 (Below.alloc (Below.refl _ _) (Nat.le_refl _) _)).out).mono ?_
      rintro e w9 ⟨rfl, hb9⟩
      have hB9 := (hB8.alloc hB8.size _).trans (hb9.mono (Nat.le_trans hB8.size (by simp)))
      have ht9 := TabOk.kept (TabOk.kept ht8 (Below.alloc (Below.refl _ _) (Nat.le_refl _) _)) hb9
      clear hb9 ht8 hB8
      go_wp2_with fail
      refine (list_any _ _ _ (one_at _ _) (by unfold maxLen; simp) (one_join _ hK5.out) (TabOk.kept ht9 (Below.alloc (Below.refl _ _) (Nat.le_refl _) _)).out).mono ?_
      rintro e w10 ⟨rfl, hb10⟩
      have hB10 := (hB9.alloc hB9.size _).trans (hb10.mono (Nat.le_trans hB9.size (by simp)))
      clear hb10 ht9 hB9
      have hq := hK.out
      go_wp2_with fail
      go_ret
      exact ⟨by rw [← hq]; rfl, hB10⟩
    · go_enter Tryd.func9, Tryd.ntmps9
      go_wp2_with fail
      refine (head_any _ ht.out).mono ?_
      rintro e w1 ⟨rfl, hb1⟩
      have hv1 := StrsOk.kept hv hb1
      have hu1 := StrsOk.kept hu hb1
      have ht1 := TabOk.kept ht hb1
      go_wp2_with fail
      refine (few_any _ _ 200 _ hv1.out.at_ hv1.out.len hv1.out.sizes).mono ?_
      rintro e w2 ⟨rfl, rfl⟩
      go_wp2_with fail
      refine (few_any _ _ 200 _ hu1.out.at_ hu1.out.len hu1.out.sizes).mono ?_
      rintro e w2 ⟨rfl, rfl⟩
      go_wp2_with fail
      refine (refjoined_any _ _ _ hv1.out.at_ hv1.out.len hL.out.j hL.out.c).mono ?_
      rintro e w2 ⟨rfl, hb2⟩
      have hB2 := hb1.trans (hb2.mono hb1.size)
      have hv2 := StrsOk.kept hv1 hb2
      have hu2 := StrsOk.kept hu1 hb2
      have ht2 := TabOk.kept ht1 hb2
      clear hb1 hb2 hv1 hu1 ht1 hv hu ht
      go_wp2_with fail
      refine (refjoined_any _ _ _ hu2.out.at_ hu2.out.len hM.out.j hM.out.c).mono ?_
      rintro e w3 ⟨rfl, hb3⟩
      have hB3 := hB2.trans (hb3.mono hB2.size)
      have hv3 := StrsOk.kept hv2 hb3
      have hu3 := StrsOk.kept hu2 hb3
      have ht3 := TabOk.kept ht2 hb3
      clear hB2 hb3 hv2 hu2 ht2
      go_wp2_with fail
      refine (list_any _ _ _ hv3.out.at_ hv3.out.len hL.out.j ht3.out).mono ?_
      rintro e w4 ⟨rfl, hb4⟩
      have hB4 := hB3.trans (hb4.mono hB3.size)
      have hv4 := StrsOk.kept hv3 hb4
      have hu4 := StrsOk.kept hu3 hb4
      have ht4 := TabOk.kept ht3 hb4
      clear hB3 hb4 hv3 hu3 ht3
      go_wp2_with fail
      refine (sum_any _ _ (by have := hL.out.j; rw [joinB_size]; unfold maxLen; omega)).mono ?_
      rintro e w5 ⟨rfl, hb5⟩
      have hB5 := hB4.trans (hb5.mono hB4.size)
      have hv5 := StrsOk.kept hv4 hb5
      have hu5 := StrsOk.kept hu4 hb5
      have ht5 := TabOk.kept ht4 hb5
      clear hB4 hb5 hv4 hu4 ht4
      go_wp2_with fail
      refine (same_any _ _ _ _ _ hv5.out.at_ hu5.out.at_ hv5.out.len hu5.out.len).mono ?_
      rintro e w6 ⟨rfl, n6, rfl⟩
      have hB6 := hB5.trans ((below_dn w5 n6).mono hB5.size)
      have hv6 := StrsOk.kept hv5 (below_dn w5 n6)
      have hu6 := StrsOk.kept hu5 (below_dn w5 n6)
      have ht6 := TabOk.kept ht5 (below_dn w5 n6)
      clear hB5 hv5 hu5 ht5
      have q1 := joinB_eq ss tt
      go_wp2_with fail
      rw [← HA.out]
      clear HA
      go_quiet (fail)
      obtain ⟨hB8, ht8⟩ := quiet_kept nq hB6 ht6
      rw [World.drewN_drewN] at hB8 ht8
      clear hB6 ht6 hv6 hu6
      go_wp2_with fail
      refine (list_any _ _ _ (one_at' _ _ _) (by unfold maxLen; simp) (one_join _ hK6.out) (TabOk.kept ht8 (Below.alloc (Below.refl _ _) (Nat.le_refl _) _)).out).mono ?_
      rintro e w9 ⟨rfl, hb9⟩
      have hB9 := (hB8.alloc hB8.size _).trans (hb9.mono (Nat.le_trans hB8.size (by simp)))
      have ht9 := TabOk.kept (TabOk.kept ht8 (Below.alloc (Below.refl _ _) (Nat.le_refl _) _)) hb9
      clear hb9 ht8 hB8
      go_wp2_with fail
      refine (list_any _ _ _ (one_at _ _) (by unfold maxLen; simp) (one_join _ hK5.out) (TabOk.kept ht9 (Below.alloc (Below.refl _ _) (Nat.le_refl _) _)).out).mono ?_
      rintro e w10 ⟨rfl, hb10⟩
      have hB10 := (hB9.alloc hB9.size _).trans (hb10.mono (Nat.le_trans hB9.size (by simp)))
      clear hb10 ht9 hB9
      have hq := hK.out
      go_wp2_with fail
      go_ret
      exact ⟨by rw [← hq]; rfl, hB10⟩
  · go_enter Tryd.func9, Tryd.ntmps9
    go_wp2_with fail
    refine (head_any _ ht.out).mono ?_
    rintro e w1 ⟨rfl, hb1⟩
    have hv1 := StrsOk.kept hv hb1
    have hu1 := StrsOk.kept hu hb1
    have ht1 := TabOk.kept ht hb1
    go_wp2_with fail
    refine (few_any _ _ 200 _ hv1.out.at_ hv1.out.len hv1.out.sizes).mono ?_
    rintro e w2 ⟨rfl, rfl⟩
    go_wp2_with fail
    refine (few_any _ _ 200 _ hu1.out.at_ hu1.out.len hu1.out.sizes).mono ?_
    rintro e w2 ⟨rfl, rfl⟩
    go_wp2_with fail
    refine (refjoined_any _ _ _ hv1.out.at_ hv1.out.len hL.out.j hL.out.c).mono ?_
    rintro e w2 ⟨rfl, hb2⟩
    have hB2 := hb1.trans (hb2.mono hb1.size)
    have hv2 := StrsOk.kept hv1 hb2
    have hu2 := StrsOk.kept hu1 hb2
    have ht2 := TabOk.kept ht1 hb2
    clear hb1 hb2 hv1 hu1 ht1 hv hu ht
    go_wp2_with fail
    refine (refjoined_any _ _ _ hu2.out.at_ hu2.out.len hM.out.j hM.out.c).mono ?_
    rintro e w3 ⟨rfl, hb3⟩
    have hB3 := hB2.trans (hb3.mono hB2.size)
    have hv3 := StrsOk.kept hv2 hb3
    have hu3 := StrsOk.kept hu2 hb3
    have ht3 := TabOk.kept ht2 hb3
    clear hB2 hb3 hv2 hu2 ht2
    go_wp2_with fail
    refine (list_any _ _ _ hv3.out.at_ hv3.out.len hL.out.j ht3.out).mono ?_
    rintro e w4 ⟨rfl, hb4⟩
    have hB4 := hB3.trans (hb4.mono hB3.size)
    have hv4 := StrsOk.kept hv3 hb4
    have hu4 := StrsOk.kept hu3 hb4
    have ht4 := TabOk.kept ht3 hb4
    clear hB3 hb4 hv3 hu3 ht3
    go_wp2_with fail
    refine (sum_any _ _ (by have := hL.out.j; rw [joinB_size]; unfold maxLen; omega)).mono ?_
    rintro e w5 ⟨rfl, hb5⟩
    have hB5 := hB4.trans (hb5.mono hB4.size)
    have hv5 := StrsOk.kept hv4 hb5
    have hu5 := StrsOk.kept hu4 hb5
    have ht5 := TabOk.kept ht4 hb5
    clear hB4 hb5 hv4 hu4 ht4
    go_wp2_with fail
    refine (same_any _ _ _ _ _ hv5.out.at_ hu5.out.at_ hv5.out.len hu5.out.len).mono ?_
    rintro e w6 ⟨rfl, n6, rfl⟩
    have hB6 := hB5.trans ((below_dn w5 n6).mono hB5.size)
    have hv6 := StrsOk.kept hv5 (below_dn w5 n6)
    have hu6 := StrsOk.kept hu5 (below_dn w5 n6)
    have ht6 := TabOk.kept ht5 (below_dn w5 n6)
    clear hB5 hv5 hu5 ht5
    have q1 := joinB_eq ss tt
    go_wp2_with fail
    rw [← HA.out]
    clear HA
    go_quiet (fail)
    obtain ⟨hB8, ht8⟩ := quiet_kept nq hB6 ht6
    rw [World.drewN_drewN] at hB8 ht8
    clear hB6 ht6 hv6 hu6
    go_wp2_with fail
    refine (list_any _ _ _ (one_at' _ _ _) (by unfold maxLen; simp) (one_join _ hK6.out) (TabOk.kept ht8 (Below.alloc (Below.refl _ _) (Nat.le_refl _) _)).out).mono ?_
    rintro e w9 ⟨rfl, hb9⟩
    have hB9 := (hB8.alloc hB8.size _).trans (hb9.mono (Nat.le_trans hB8.size (by simp)))
    have ht9 := TabOk.kept (TabOk.kept ht8 (Below.alloc (Below.refl _ _) (Nat.le_refl _) _)) hb9
    clear hb9 ht8 hB8
    go_wp2_with fail
    refine (list_any _ _ _ (one_at _ _) (by unfold maxLen; simp) (one_join _ hK5.out) (TabOk.kept ht9 (Below.alloc (Below.refl _ _) (Nat.le_refl _) _)).out).mono ?_
    rintro e w10 ⟨rfl, hb10⟩
    have hB10 := (hB9.alloc hB9.size _).trans (hb10.mono (Nat.le_trans hB9.size (by simp)))
    clear hb10 ht9 hB9
    have hq := hK.out
    go_wp2_with fail
    go_ret
    exact ⟨by rw [← hq]; rfl, hB10⟩
set_option maxHeartbeats 2000000 in
theorem walkLists3 (v : Value) (ss : List ByteArray) (u : Value) (tt : List ByteArray) (s t : ByteArray) (w : World) (hv : Hid (StrsOk w v ss)) (hu : Hid (StrsOk w u tt)) (hs : s.size ≤ 9223372036854775807) (hs2 : t.size ≤ 9223372036854775807) (ht : Hid (TabOk w)) (f1 : fewB ss 200 = true) (f2 : fewB tt 200 = true) (c1 : ¬ t.size < s.size) (c2 : 9 < s.size) :
    Calls Tryd.prog 9 #[v, u, .string s, .string t] w fun e w' => e = .returned (.bool true) ∧ Below w.heap.size w w' := by
  have hL := Lib.hid (ListOk.of f1)
  have hM := Lib.hid (ListOk.of f2)
  obtain ⟨A, hA0⟩ : ∃ x, x = s.extract 0 9 := ⟨_, rfl⟩
  have hA : A.size = 9 := by rw [hA0]; simp; omega
  obtain ⟨k1, k2, k3, k4⟩ := tail_key A t (A.extract 0 (min (9 : Int) 6).toNat) (t.extract (min (9 : Int) 6).toNat 9) 9 (min (9 : Int) 6).toNat hA (by omega) (by omega) (by omega) rfl rfl
  have i1 : (0 : Int) ≤ (min (9 : Int) 6) := by omega
  have i2 : (min (9 : Int) 6) ≤ (A.size : Int) := by omega
  have i3 : (min (9 : Int) 6) ≤ (9 : Int) := by omega
  have i4 : (9 : Int) ≤ (t.size : Int) := by omega
  have n1 : ¬ (9223372036854775807 < (A.extract 0 (min (9 : Int) 6).toNat).size + (t.extract (min (9 : Int) 6).toNat 9).size) := by omega
  have k5 : ((A.extract 0 (min (9 : Int) 6).toNat) ++ (t.extract (min (9 : Int) 6).toNat 9)).size ≤ 9 := by omega
  have k6 : A.size ≤ 9 := by omega
  have hK := Lib.hid k1
  have hK5 := Lib.hid k5
  have hK6 := Lib.hid k6
  clear k1 k2 k3 k4 k5 k6
  have HA := Lib.hid hA0
  clear hA hA0
  by_cases d1 : (joinB ss).size ≤ 7
  · by_cases d2 : (joinB tt).size ≤ 7
    · go_enter Tryd.func9, Tryd.ntmps9
      go_wp2_with fail
      refine (head_any _ ht.out).mono ?_
      rintro e w1 ⟨rfl, hb1⟩
      have hv1 := StrsOk.kept hv hb1
      have hu1 := StrsOk.kept hu hb1
      have ht1 := TabOk.kept ht hb1
      go_wp2_with fail
      refine (few_any _ _ 200 _ hv1.out.at_ hv1.out.len hv1.out.sizes).mono ?_
      rintro e w2 ⟨rfl, rfl⟩
      go_wp2_with fail
      refine (few_any _ _ 200 _ hu1.out.at_ hu1.out.len hu1.out.sizes).mono ?_
      rintro e w2 ⟨rfl, rfl⟩
      go_wp2_with fail
      refine (refjoined_any _ _ _ hv1.out.at_ hv1.out.len hL.out.j hL.out.c).mono ?_
      rintro e w2 ⟨rfl, hb2⟩
      have hB2 := hb1.trans (hb2.mono hb1.size)
      have hv2 := StrsOk.kept hv1 hb2
      have hu2 := StrsOk.kept hu1 hb2
      have ht2 := TabOk.kept ht1 hb2
      clear hb1 hb2 hv1 hu1 ht1 hv hu ht
      go_wp2_with fail
      refine (refjoined_any _ _ _ hu2.out.at_ hu2.out.len hM.out.j hM.out.c).mono ?_
      rintro e w3 ⟨rfl, hb3⟩
      have hB3 := hB2.trans (hb3.mono hB2.size)
      have hv3 := StrsOk.kept hv2 hb3
      have hu3 := StrsOk.kept hu2 hb3
      have ht3 := TabOk.kept ht2 hb3
      clear hB2 hb3 hv2 hu2 ht2
      go_wp2_with fail
      refine (list_any _ _ _ hv3.out.at_ hv3.out.len hL.out.j ht3.out).mono ?_
      rintro e w4 ⟨rfl, hb4⟩
      have hB4 := hB3.trans (hb4.mono hB3.size)
      have hv4 := StrsOk.kept hv3 hb4
      have hu4 := StrsOk.kept hu3 hb4
      have ht4 := TabOk.kept ht3 hb4
      clear hB3 hb4 hv3 hu3 ht3
      go_wp2_with fail
      refine (sum_any _ _ (by have := hL.out.j; rw [joinB_size]; unfold maxLen; omega)).mono ?_
      rintro e w5 ⟨rfl, hb5⟩
      have hB5 := hB4.trans (hb5.mono hB4.size)
      have hv5 := StrsOk.kept hv4 hb5
      have hu5 := StrsOk.kept hu4 hb5
      have ht5 := TabOk.kept ht4 hb5
      clear hB4 hb5 hv4 hu4 ht4
      go_wp2_with fail
      refine (same_any _ _ _ _ _ hv5.out.at_ hu5.out.at_ hv5.out.len hu5.out.len).mono ?_
      rintro e w6 ⟨rfl, n6, rfl⟩
      have hB6 := hB5.trans ((below_dn w5 n6).mono hB5.size)
      have hv6 := StrsOk.kept hv5 (below_dn w5 n6)
      have hu6 := StrsOk.kept hu5 (below_dn w5 n6)
      have ht6 := TabOk.kept ht5 (below_dn w5 n6)
      clear hB5 hv5 hu5 ht5
      have q1 := joinB_eq ss tt
      have q2 := Lib.hid (list_short ss tt d1 d2)
      go_wp2_with fail
      refine (list_any _ _ _ hv6.out.at_ hv6.out.len hL.out.j ht6.out).mono ?_
      rintro e w7 ⟨rfl, hb7⟩
      have hB7 := hB6.trans (hb7.mono hB6.size)
      have hv7 := StrsOk.kept hv6 hb7
      have hu7 := StrsOk.kept hu6 hb7
      have ht7 := TabOk.kept ht6 hb7
      clear hB6 hb7 hv6 hu6 ht6
      go_wp2_with fail
      refine (list_any _ _ _ hu7.out.at_ hu7.out.len hM.out.j ht7.out).mono ?_
      rintro e w8 ⟨rfl, hb8⟩
      have hB8 := hB7.trans (hb8.mono hB7.size)
      have hv8 := StrsOk.kept hv7 hb8
      have hu8 := StrsOk.kept hu7 hb8
      have ht8 := TabOk.kept ht7 hb8
      clear hB7 hb8 hv7 hu7 ht7
      go_wp2_with fail
      refine (same_any _ _ _ _ _ hv8.out.at_ hu8.out.at_ hv8.out.len hu8.out.len).mono ?_
      rintro e w9 ⟨rfl, n9, rfl⟩
      have hBa := hB8.trans ((below_dn w8 n9).mono hB8.size)
      have hva := StrsOk.kept hv8 (below_dn w8 n9)
      have hua := StrsOk.kept hu8 (below_dn w8 n9)
      have hta := TabOk.kept ht8 (below_dn w8 n9)
      clear hB8 hv8 hu8 ht8
      have q2 := q2.out
      go_wp2_with fail
      rw [← HA.out]
      clear HA
      go_quiet (fail)
      obtain ⟨hB8, ht8⟩ := quiet_kept nq hBa hta
      rw [World.drewN_drewN] at hB8 ht8
      clear hBa hta hva hua
      go_wp2_with fail
      refine (list_any _ _ _ (one_at' _ _ _) (by unfold maxLen; simp) (one_join _ hK6.out) (TabOk.kept ht8 (Below.alloc (Below.refl _ _) (Nat.le_refl _) _)).out).mono ?_
      rintro e w9 ⟨rfl, hb9⟩
      have hB9 := (hB8.alloc hB8.size _).trans (hb9.mono (Nat.le_trans hB8.size (by simp)))
      have ht9 := TabOk.kept (TabOk.kept ht8 (Below.alloc (Below.refl _ _) (Nat.le_refl _) _)) hb9
      clear hb9 ht8 hB8
      go_wp2_with fail
      refine (list_any _ _ _ (one_at _ _) (by unfold maxLen; simp) (one_join _ hK5.out) (TabOk.kept ht9 (Below.alloc (Below.refl _ _) (Nat.le_refl _) _)).out).mono ?_
      rintro e w10 ⟨rfl, hb10⟩
      have hB10 := (hB9.alloc hB9.size _).trans (hb10.mono (Nat.le_trans hB9.size (by simp)))
      clear hb10 ht9 hB9
      have hq := hK.out
      go_wp2_with fail
      go_ret
      exact ⟨by rw [← hq]; rfl, hB10⟩
    · go_enter Tryd.func9, Tryd.ntmps9
      go_wp2_with fail
      refine (head_any _ ht.out).mono ?_
      rintro e w1 ⟨rfl, hb1⟩
      have hv1 := StrsOk.kept hv hb1
      have hu1 := StrsOk.kept hu hb1
      have ht1 := TabOk.kept ht hb1
      go_wp2_with fail
      refine (few_any _ _ 200 _ hv1.out.at_ hv1.out.len hv1.out.sizes).mono ?_
      rintro e w2 ⟨rfl, rfl⟩
      go_wp2_with fail
      refine (few_any _ _ 200 _ hu1.out.at_ hu1.out.len hu1.out.sizes).mono ?_
      rintro e w2 ⟨rfl, rfl⟩
      go_wp2_with fail
      refine (refjoined_any _ _ _ hv1.out.at_ hv1.out.len hL.out.j hL.out.c).mono ?_
      rintro e w2 ⟨rfl, hb2⟩
      have hB2 := hb1.trans (hb2.mono hb1.size)
      have hv2 := StrsOk.kept hv1 hb2
      have hu2 := StrsOk.kept hu1 hb2
      have ht2 := TabOk.kept ht1 hb2
      clear hb1 hb2 hv1 hu1 ht1 hv hu ht
      go_wp2_with fail
      refine (refjoined_any _ _ _ hu2.out.at_ hu2.out.len hM.out.j hM.out.c).mono ?_
      rintro e w3 ⟨rfl, hb3⟩
      have hB3 := hB2.trans (hb3.mono hB2.size)
      have hv3 := StrsOk.kept hv2 hb3
      have hu3 := StrsOk.kept hu2 hb3
      have ht3 := TabOk.kept ht2 hb3
      clear hB2 hb3 hv2 hu2 ht2
      go_wp2_with fail
      refine (list_any _ _ _ hv3.out.at_ hv3.out.len hL.out.j ht3.out).mono ?_
      rintro e w4 ⟨rfl, hb4⟩
      have hB4 := hB3.trans (hb4.mono hB3.size)
      have hv4 := StrsOk.kept hv3 hb4
      have hu4 := StrsOk.kept hu3 hb4
      have ht4 := TabOk.kept ht3 hb4
      clear hB3 hb4 hv3 hu3 ht3
      go_wp2_with fail
      refine (sum_any _ _ (by have := hL.out.j; rw [joinB_size]; unfold maxLen; omega)).mono ?_
      rintro e w5 ⟨rfl, hb5⟩
      have hB5 := hB4.trans (hb5.mono hB4.size)
      have hv5 := StrsOk.kept hv4 hb5
      have hu5 := StrsOk.kept hu4 hb5
      have ht5 := TabOk.kept ht4 hb5
      clear hB4 hb5 hv4 hu4 ht4
      go_wp2_with fail
      refine (same_any _ _ _ _ _ hv5.out.at_ hu5.out.at_ hv5.out.len hu5.out.len).mono ?_
      rintro e w6 ⟨rfl, n6, rfl⟩
      have hB6 := hB5.trans ((below_dn w5 n6).mono hB5.size)
      have hv6 := StrsOk.kept hv5 (below_dn w5 n6)
      have hu6 := StrsOk.kept hu5 (below_dn w5 n6)
      have ht6 := TabOk.kept ht5 (below_dn w5 n6)
      clear hB5 hv5 hu5 ht5
      have q1 := joinB_eq ss tt
      go_wp2_with fail
      rw [← HA.out]
      clear HA
      go_quiet (fail)
      obtain ⟨hB8, ht8⟩ := quiet_kept nq hB6 ht6
      rw [World.drewN_drewN] at hB8 ht8
      clear hB6 ht6 hv6 hu6
      go_wp2_with fail
      refine (list_any _ _ _ (one_at' _ _ _) (by unfold maxLen; simp) (one_join _ hK6.out) (TabOk.kept ht8 (Below.alloc (Below.refl _ _) (Nat.le_refl _) _)).out).mono ?_
      rintro e w9 ⟨rfl, hb9⟩
      have hB9 := (hB8.alloc hB8.size _).trans (hb9.mono (Nat.le_trans hB8.size (by simp)))
      have ht9 := TabOk.kept (TabOk.kept ht8 (Below.alloc (Below.refl _ _) (Nat.le_refl _) _)) hb9
      clear hb9 ht8 hB8
      go_wp2_with fail
      refine (list_any _ _ _ (one_at _ _) (by unfold maxLen; simp) (one_join _ hK5.out) (TabOk.kept ht9 (Below.alloc (Below.refl _ _) (Nat.le_refl _) _)).out).mono ?_
      rintro e w10 ⟨rfl, hb10⟩
      have hB10 := (hB9.alloc hB9.size _).trans (hb10.mono (Nat.le_trans hB9.size (by simp)))
      clear hb10 ht9 hB9
      have hq := hK.out
      go_wp2_with fail
      go_ret
      exact ⟨by rw [← hq]; rfl, hB10⟩
  · go_enter Tryd.func9, Tryd.ntmps9
    go_wp2_with fail
    refine (head_any _ ht.out).mono ?_
    rintro e w1 ⟨rfl, hb1⟩
    have hv1 := StrsOk.kept hv hb1
    have hu1 := StrsOk.kept hu hb1
    have ht1 := TabOk.kept ht hb1
    go_wp2_with fail
    refine (few_any _ _ 200 _ hv1.out.at_ hv1.out.len hv1.out.sizes).mono ?_
    rintro e w2 ⟨rfl, rfl⟩
    go_wp2_with fail
    refine (few_any _ _ 200 _ hu1.out.at_ hu1.out.len hu1.out.sizes).mono ?_
    rintro e w2 ⟨rfl, rfl⟩
    go_wp2_with fail
    refine (refjoined_any _ _ _ hv1.out.at_ hv1.out.len hL.out.j hL.out.c).mono ?_
    rintro e w2 ⟨rfl, hb2⟩
    have hB2 := hb1.trans (hb2.mono hb1.size)
    have hv2 := StrsOk.kept hv1 hb2
    have hu2 := StrsOk.kept hu1 hb2
    have ht2 := TabOk.kept ht1 hb2
    clear hb1 hb2 hv1 hu1 ht1 hv hu ht
    go_wp2_with fail
    refine (refjoined_any _ _ _ hu2.out.at_ hu2.out.len hM.out.j hM.out.c).mono ?_
    rintro e w3 ⟨rfl, hb3⟩
    have hB3 := hB2.trans (hb3.mono hB2.size)
    have hv3 := StrsOk.kept hv2 hb3
    have hu3 := StrsOk.kept hu2 hb3
    have ht3 := TabOk.kept ht2 hb3
    clear hB2 hb3 hv2 hu2 ht2
    go_wp2_with fail
    refine (list_any _ _ _ hv3.out.at_ hv3.out.len hL.out.j ht3.out).mono ?_
    rintro e w4 ⟨rfl, hb4⟩
    have hB4 := hB3.trans (hb4.mono hB3.size)
    have hv4 := StrsOk.kept hv3 hb4
    have hu4 := StrsOk.kept hu3 hb4
    have ht4 := TabOk.kept ht3 hb4
    clear hB3 hb4 hv3 hu3 ht3
    go_wp2_with fail
    refine (sum_any _ _ (by have := hL.out.j; rw [joinB_size]; unfold maxLen; omega)).mono ?_
    rintro e w5 ⟨rfl, hb5⟩
    have hB5 := hB4.trans (hb5.mono hB4.size)
    have hv5 := StrsOk.kept hv4 hb5
    have hu5 := StrsOk.kept hu4 hb5
    have ht5 := TabOk.kept ht4 hb5
    clear hB4 hb5 hv4 hu4 ht4
    go_wp2_with fail
    refine (same_any _ _ _ _ _ hv5.out.at_ hu5.out.at_ hv5.out.len hu5.out.len).mono ?_
    rintro e w6 ⟨rfl, n6, rfl⟩
    have hB6 := hB5.trans ((below_dn w5 n6).mono hB5.size)
    have hv6 := StrsOk.kept hv5 (below_dn w5 n6)
    have hu6 := StrsOk.kept hu5 (below_dn w5 n6)
    have ht6 := TabOk.kept ht5 (below_dn w5 n6)
    clear hB5 hv5 hu5 ht5
    have q1 := joinB_eq ss tt
    go_wp2_with fail
    rw [← HA.out]
    clear HA
    go_quiet (fail)
    obtain ⟨hB8, ht8⟩ := quiet_kept nq hB6 ht6
    rw [World.drewN_drewN] at hB8 ht8
    clear hB6 ht6 hv6 hu6
    go_wp2_with fail
    refine (list_any _ _ _ (one_at' _ _ _) (by unfold maxLen; simp) (one_join _ hK6.out) (TabOk.kept ht8 (Below.alloc (Below.refl _ _) (Nat.le_refl _) _)).out).mono ?_
    rintro e w9 ⟨rfl, hb9⟩
    have hB9 := (hB8.alloc hB8.size _).trans (hb9.mono (Nat.le_trans hB8.size (by simp)))
    have ht9 := TabOk.kept (TabOk.kept ht8 (Below.alloc (Below.refl _ _) (Nat.le_refl _) _)) hb9
    clear hb9 ht8 hB8
    go_wp2_with fail
    refine (list_any _ _ _ (one_at _ _) (by unfold maxLen; simp) (one_join _ hK5.out) (TabOk.kept ht9 (Below.alloc (Below.refl _ _) (Nat.le_refl _) _)).out).mono ?_
    rintro e w10 ⟨rfl, hb10⟩
    have hB10 := (hB9.alloc hB9.size _).trans (hb10.mono (Nat.le_trans hB9.size (by simp)))
    clear hb10 ht9 hB9
    have hq := hK.out
    go_wp2_with fail
    go_ret
    exact ⟨by rw [← hq]; rfl, hB10⟩
set_option maxHeartbeats 2000000 in
theorem walkLists4 (v : Value) (ss : List ByteArray) (u : Value) (tt : List ByteArray) (s t : ByteArray) (w : World) (hv : Hid (StrsOk w v ss)) (hu : Hid (StrsOk w u tt)) (hs : s.size ≤ 9223372036854775807) (hs2 : t.size ≤ 9223372036854775807) (ht : Hid (TabOk w)) (f1 : fewB ss 200 = true) (f2 : fewB tt 200 = true) (c1 : ¬ t.size < s.size) (c2 : ¬ 9 < s.size) :
    Calls Tryd.prog 9 #[v, u, .string s, .string t] w fun e w' => e = .returned (.bool true) ∧ Below w.heap.size w w' := by
  have hL := Lib.hid (ListOk.of f1)
  have hM := Lib.hid (ListOk.of f2)
  obtain ⟨k1, k2, k3, k4⟩ := tail_key s t (s.extract 0 (min (s.size : Int) 6).toNat) (t.extract (min (s.size : Int) 6).toNat s.size) s.size (min (s.size : Int) 6).toNat rfl (by omega) (by omega) (by omega) rfl rfl
  have i1 : (0 : Int) ≤ (min (s.size : Int) 6) := by omega
  have i2 : (min (s.size : Int) 6) ≤ (s.size : Int) := by omega
  have i3 : (min (s.size : Int) 6) ≤ (s.size : Int) := by omega
  have i4 : (s.size : Int) ≤ (t.size : Int) := by omega
  have n1 : ¬ (9223372036854775807 < (s.extract 0 (min (s.size : Int) 6).toNat).size + (t.extract (min (s.size : Int) 6).toNat s.size).size) := by omega
  have k5 : ((s.extract 0 (min (s.size : Int) 6).toNat) ++ (t.extract (min (s.size : Int) 6).toNat s.size)).size ≤ 9 := by omega
  have k6 : s.size ≤ 9 := by omega
  have hK := Lib.hid k1
  have hK5 := Lib.hid k5
  have hK6 := Lib.hid k6
  clear k1 k2 k3 k4 k5 k6
  by_cases d1 : (joinB ss).size ≤ 7
  · by_cases d2 : (joinB tt).size ≤ 7
    · go_enter Tryd.func9, Tryd.ntmps9
      go_wp2_with fail
      refine (head_any _ ht.out).mono ?_
      rintro e w1 ⟨rfl, hb1⟩
      have hv1 := StrsOk.kept hv hb1
      have hu1 := StrsOk.kept hu hb1
      have ht1 := TabOk.kept ht hb1
      go_wp2_with fail
      refine (few_any _ _ 200 _ hv1.out.at_ hv1.out.len hv1.out.sizes).mono ?_
      rintro e w2 ⟨rfl, rfl⟩
      go_wp2_with fail
      refine (few_any _ _ 200 _ hu1.out.at_ hu1.out.len hu1.out.sizes).mono ?_
      rintro e w2 ⟨rfl, rfl⟩
      go_wp2_with fail
      refine (refjoined_any _ _ _ hv1.out.at_ hv1.out.len hL.out.j hL.out.c).mono ?_
      rintro e w2 ⟨rfl, hb2⟩
      have hB2 := hb1.trans (hb2.mono hb1.size)
      have hv2 := StrsOk.kept hv1 hb2
      have hu2 := StrsOk.kept hu1 hb2
      have ht2 := TabOk.kept ht1 hb2
      clear hb1 hb2 hv1 hu1 ht1 hv hu ht
      go_wp2_with fail
      refine (refjoined_any _ _ _ hu2.out.at_ hu2.out.len hM.out.j hM.out.c).mono ?_
      rintro e w3 ⟨rfl, hb3⟩
      have hB3 := hB2.trans (hb3.mono hB2.size)
      have hv3 := StrsOk.kept hv2 hb3
      have hu3 := StrsOk.kept hu2 hb3
      have ht3 := TabOk.kept ht2 hb3
      clear hB2 hb3 hv2 hu2 ht2
      go_wp2_with fail
      refine (list_any _ _ _ hv3.out.at_ hv3.out.len hL.out.j ht3.out).mono ?_
      rintro e w4 ⟨rfl, hb4⟩
      have hB4 := hB3.trans (hb4.mono hB3.size)
      have hv4 := StrsOk.kept hv3 hb4
      have hu4 := StrsOk.kept hu3 hb4
      have ht4 := TabOk.kept ht3 hb4
      clear hB3 hb4 hv3 hu3 ht3
      go_wp2_with fail
      refine (sum_any _ _ (by have := hL.out.j; rw [joinB_size]; unfold maxLen; omega)).mono ?_
      rintro e w5 ⟨rfl, hb5⟩
      have hB5 := hB4.trans (hb5.mono hB4.size)
      have hv5 := StrsOk.kept hv4 hb5
      have hu5 := StrsOk.kept hu4 hb5
      have ht5 := TabOk.kept ht4 hb5
      clear hB4 hb5 hv4 hu4 ht4
      go_wp2_with fail
      refine (same_any _ _ _ _ _ hv5.out.at_ hu5.out.at_ hv5.out.len hu5.out.len).mono ?_
      rintro e w6 ⟨rfl, n6, rfl⟩
      have hB6 := hB5.trans ((below_dn w5 n6).mono hB5.size)
      have hv6 := StrsOk.kept hv5 (below_dn w5 n6)
      have hu6 := StrsOk.kept hu5 (below_dn w5 n6)
      have ht6 := TabOk.kept ht5 (below_dn w5 n6)
      clear hB5 hv5 hu5 ht5
      have q1 := joinB_eq ss tt
      have q2 := Lib.hid (list_short ss tt d1 d2)
      go_wp2_with fail
      refine (list_any _ _ _ hv6.out.at_ hv6.out.len hL.out.j ht6.out).mono ?_
      rintro e w7 ⟨rfl, hb7⟩
      have hB7 := hB6.trans (hb7.mono hB6.size)
      have hv7 := StrsOk.kept hv6 hb7
      have hu7 := StrsOk.kept hu6 hb7
      have ht7 := TabOk.kept ht6 hb7
      clear hB6 hb7 hv6 hu6 ht6
      go_wp2_with fail
      refine (list_any _ _ _ hu7.out.at_ hu7.out.len hM.out.j ht7.out).mono ?_
      rintro e w8 ⟨rfl, hb8⟩
      have hB8 := hB7.trans (hb8.mono hB7.size)
      have hv8 := StrsOk.kept hv7 hb8
      have hu8 := StrsOk.kept hu7 hb8
      have ht8 := TabOk.kept ht7 hb8
      clear hB7 hb8 hv7 hu7 ht7
      go_wp2_with fail
      refine (same_any _ _ _ _ _ hv8.out.at_ hu8.out.at_ hv8.out.len hu8.out.len).mono ?_
      rintro e w9 ⟨rfl, n9, rfl⟩
      have hBa := hB8.trans ((below_dn w8 n9).mono hB8.size)
      have hva := StrsOk.kept hv8 (below_dn w8 n9)
      have hua := StrsOk.kept hu8 (below_dn w8 n9)
      have hta := TabOk.kept ht8 (below_dn w8 n9)
      clear hB8 hv8 hu8 ht8
      have q2 := q2.out
      go_wp2_with fail
      go_quiet (fail)
      obtain ⟨hB8, ht8⟩ := quiet_kept nq hBa hta
      rw [World.drewN_drewN] at hB8 ht8
      clear hBa hta hva hua
      go_wp2_with fail
      refine (list_any _ _ _ (one_at' _ _ _) (by unfold maxLen; simp) (one_join _ hK6.out) (TabOk.kept ht8 (Below.alloc (Below.refl _ _) (Nat.le_refl _) _)).out).mono ?_
      rintro e w9 ⟨rfl, hb9⟩
      have hB9 := (hB8.alloc hB8.size _).trans (hb9.mono (Nat.le_trans hB8.size (by simp)))
      have ht9 := TabOk.kept (TabOk.kept ht8 (Below.alloc (Below.refl _ _) (Nat.le_refl _) _)) hb9
      clear hb9 ht8 hB8
      go_wp2_with fail
      refine (list_any _ _ _ (one_at _ _) (by unfold maxLen; simp) (one_join _ hK5.out) (TabOk.kept ht9 (Below.alloc (Below.refl _ _) (Nat.le_refl _) _)).out).mono ?_
      rintro e w10 ⟨rfl, hb10⟩
      have hB10 := (hB9.alloc hB9.size _).trans (hb10.mono (Nat.le_trans hB9.size (by simp)))
      clear hb10 ht9 hB9
      have hq := hK.out
      go_wp2_with fail
      go_ret
      exact ⟨by rw [← hq]; rfl, hB10⟩
    · go_enter Tryd.func9, Tryd.ntmps9
      go_wp2_with fail
      refine (head_any _ ht.out).mono ?_
      rintro e w1 ⟨rfl, hb1⟩
      have hv1 := StrsOk.kept hv hb1
      have hu1 := StrsOk.kept hu hb1
      have ht1 := TabOk.kept ht hb1
      go_wp2_with fail
      refine (few_any _ _ 200 _ hv1.out.at_ hv1.out.len hv1.out.sizes).mono ?_
      rintro e w2 ⟨rfl, rfl⟩
      go_wp2_with fail
      refine (few_any _ _ 200 _ hu1.out.at_ hu1.out.len hu1.out.sizes).mono ?_
      rintro e w2 ⟨rfl, rfl⟩
      go_wp2_with fail
      refine (refjoined_any _ _ _ hv1.out.at_ hv1.out.len hL.out.j hL.out.c).mono ?_
      rintro e w2 ⟨rfl, hb2⟩
      have hB2 := hb1.trans (hb2.mono hb1.size)
      have hv2 := StrsOk.kept hv1 hb2
      have hu2 := StrsOk.kept hu1 hb2
      have ht2 := TabOk.kept ht1 hb2
      clear hb1 hb2 hv1 hu1 ht1 hv hu ht
      go_wp2_with fail
      refine (refjoined_any _ _ _ hu2.out.at_ hu2.out.len hM.out.j hM.out.c).mono ?_
      rintro e w3 ⟨rfl, hb3⟩
      have hB3 := hB2.trans (hb3.mono hB2.size)
      have hv3 := StrsOk.kept hv2 hb3
      have hu3 := StrsOk.kept hu2 hb3
      have ht3 := TabOk.kept ht2 hb3
      clear hB2 hb3 hv2 hu2 ht2
      go_wp2_with fail
      refine (list_any _ _ _ hv3.out.at_ hv3.out.len hL.out.j ht3.out).mono ?_
      rintro e w4 ⟨rfl, hb4⟩
      have hB4 := hB3.trans (hb4.mono hB3.size)
      have hv4 := StrsOk.kept hv3 hb4
      have hu4 := StrsOk.kept hu3 hb4
      have ht4 := TabOk.kept ht3 hb4
      clear hB3 hb4 hv3 hu3 ht3
      go_wp2_with fail
      refine (sum_any _ _ (by have := hL.out.j; rw [joinB_size]; unfold maxLen; omega)).mono ?_
      rintro e w5 ⟨rfl, hb5⟩
      have hB5 := hB4.trans (hb5.mono hB4.size)
      have hv5 := StrsOk.kept hv4 hb5
      have hu5 := StrsOk.kept hu4 hb5
      have ht5 := TabOk.kept ht4 hb5
      clear hB4 hb5 hv4 hu4 ht4
      go_wp2_with fail
      refine (same_any _ _ _ _ _ hv5.out.at_ hu5.out.at_ hv5.out.len hu5.out.len).mono ?_
      rintro e w6 ⟨rfl, n6, rfl⟩
      have hB6 := hB5.trans ((below_dn w5 n6).mono hB5.size)
      have hv6 := StrsOk.kept hv5 (below_dn w5 n6)
      have hu6 := StrsOk.kept hu5 (below_dn w5 n6)
      have ht6 := TabOk.kept ht5 (below_dn w5 n6)
      clear hB5 hv5 hu5 ht5
      have q1 := joinB_eq ss tt
      go_wp2_with fail
      go_quiet (fail)
      obtain ⟨hB8, ht8⟩ := quiet_kept nq hB6 ht6
      rw [World.drewN_drewN] at hB8 ht8
      clear hB6 ht6 hv6 hu6
      go_wp2_with fail
      refine (list_any _ _ _ (one_at' _ _ _) (by unfold maxLen; simp) (one_join _ hK6.out) (TabOk.kept ht8 (Below.alloc (Below.refl _ _) (Nat.le_refl _) _)).out).mono ?_
      rintro e w9 ⟨rfl, hb9⟩
      have hB9 := (hB8.alloc hB8.size _).trans (hb9.mono (Nat.le_trans hB8.size (by simp)))
      have ht9 := TabOk.kept (TabOk.kept ht8 (Below.alloc (Below.refl _ _) (Nat.le_refl _) _)) hb9
      clear hb9 ht8 hB8
      go_wp2_with fail
      refine (list_any _ _ _ (one_at _ _) (by unfold maxLen; simp) (one_join _ hK5.out) (TabOk.kept ht9 (Below.alloc (Below.refl _ _) (Nat.le_refl _) _)).out).mono ?_
      rintro e w10 ⟨rfl, hb10⟩
      have hB10 := (hB9.alloc hB9.size _).trans (hb10.mono (Nat.le_trans hB9.size (by simp)))
      clear hb10 ht9 hB9
      have hq := hK.out
      go_wp2_with fail
      go_ret
      exact ⟨by rw [← hq]; rfl, hB10⟩
  · go_enter Tryd.func9, Tryd.ntmps9
    go_wp2_with fail
    refine (head_any _ ht.out).mono ?_
    rintro e w1 ⟨rfl, hb1⟩
    have hv1 := StrsOk.kept hv hb1
    have hu1 := StrsOk.kept hu hb1
    have ht1 := TabOk.kept ht hb1
    go_wp2_with fail
    refine (few_any _ _ 200 _ hv1.out.at_ hv1.out.len hv1.out.sizes).mono ?_
    rintro e w2 ⟨rfl, rfl⟩
    go_wp2_with fail
    refine (few_any _ _ 200 _ hu1.out.at_ hu1.out.len hu1.out.sizes).mono ?_
    rintro e w2 ⟨rfl, rfl⟩
    go_wp2_with fail
    refine (refjoined_any _ _ _ hv1.out.at_ hv1.out.len hL.out.j hL.out.c).mono ?_
    rintro e w2 ⟨rfl, hb2⟩
    have hB2 := hb1.trans (hb2.mono hb1.size)
    have hv2 := StrsOk.kept hv1 hb2
    have hu2 := StrsOk.kept hu1 hb2
    have ht2 := TabOk.kept ht1 hb2
    clear hb1 hb2 hv1 hu1 ht1 hv hu ht
    go_wp2_with fail
    refine (refjoined_any _ _ _ hu2.out.at_ hu2.out.len hM.out.j hM.out.c).mono ?_
    rintro e w3 ⟨rfl, hb3⟩
    have hB3 := hB2.trans (hb3.mono hB2.size)
    have hv3 := StrsOk.kept hv2 hb3
    have hu3 := StrsOk.kept hu2 hb3
    have ht3 := TabOk.kept ht2 hb3
    clear hB2 hb3 hv2 hu2 ht2
    go_wp2_with fail
    refine (list_any _ _ _ hv3.out.at_ hv3.out.len hL.out.j ht3.out).mono ?_
    rintro e w4 ⟨rfl, hb4⟩
    have hB4 := hB3.trans (hb4.mono hB3.size)
    have hv4 := StrsOk.kept hv3 hb4
    have hu4 := StrsOk.kept hu3 hb4
    have ht4 := TabOk.kept ht3 hb4
    clear hB3 hb4 hv3 hu3 ht3
    go_wp2_with fail
    refine (sum_any _ _ (by have := hL.out.j; rw [joinB_size]; unfold maxLen; omega)).mono ?_
    rintro e w5 ⟨rfl, hb5⟩
    have hB5 := hB4.trans (hb5.mono hB4.size)
    have hv5 := StrsOk.kept hv4 hb5
    have hu5 := StrsOk.kept hu4 hb5
    have ht5 := TabOk.kept ht4 hb5
    clear hB4 hb5 hv4 hu4 ht4
    go_wp2_with fail
    refine (same_any _ _ _ _ _ hv5.out.at_ hu5.out.at_ hv5.out.len hu5.out.len).mono ?_
    rintro e w6 ⟨rfl, n6, rfl⟩
    have hB6 := hB5.trans ((below_dn w5 n6).mono hB5.size)
    have hv6 := StrsOk.kept hv5 (below_dn w5 n6)
    have hu6 := StrsOk.kept hu5 (below_dn w5 n6)
    have ht6 := TabOk.kept ht5 (below_dn w5 n6)
    clear hB5 hv5 hu5 ht5
    have q1 := joinB_eq ss tt
    go_wp2_with fail
    go_quiet (fail)
    obtain ⟨hB8, ht8⟩ := quiet_kept nq hB6 ht6
    rw [World.drewN_drewN] at hB8 ht8
    clear hB6 ht6 hv6 hu6
    go_wp2_with fail
    refine (list_any _ _ _ (one_at' _ _ _) (by unfold maxLen; simp) (one_join _ hK6.out) (TabOk.kept ht8 (Below.alloc (Below.refl _ _) (Nat.le_refl _) _)).out).mono ?_
    rintro e w9 ⟨rfl, hb9⟩
    have hB9 := (hB8.alloc hB8.size _).trans (hb9.mono (Nat.le_trans hB8.size (by simp)))
    have ht9 := TabOk.kept (TabOk.kept ht8 (Below.alloc (Below.refl _ _) (Nat.le_refl _) _)) hb9
    clear hb9 ht8 hB8
    go_wp2_with fail
    refine (list_any _ _ _ (one_at _ _) (by unfold maxLen; simp) (one_join _ hK5.out) (TabOk.kept ht9 (Below.alloc (Below.refl _ _) (Nat.le_refl _) _)).out).mono ?_
    rintro e w10 ⟨rfl, hb10⟩
    have hB10 := (hB9.alloc hB9.size _).trans (hb10.mono (Nat.le_trans hB9.size (by simp)))
    clear hb10 ht9 hB9
    have hq := hK.out
    go_wp2_with fail
    go_ret
    exact ⟨by rw [← hq]; rfl, hB10⟩
set_option maxHeartbeats 1000000 in
theorem walkDigestLists (v : Value) (ss : List ByteArray) (u : Value) (tt : List ByteArray) (s t : ByteArray) (w : World) (hv' : StrsOk w v ss) (hu' : StrsOk w u tt) (hs : s.size ≤ maxLen) (hs2 : t.size ≤ maxLen) (ht' : TabOk w) :
    Calls Tryd.prog 9 #[v, u, .string s, .string t] w fun e w' => e = .returned (.bool true) ∧ Below w.heap.size w w' := by
  have ht := Lib.hid ht'
  have hv := Lib.hid hv'
  have hu := Lib.hid hu'
  clear ht' hv' hu'
  unfold maxLen at hs hs2
  by_cases f1 : fewB ss 200 = true
  · by_cases f2 : fewB tt 200 = true
    · by_cases c1 : t.size < s.size
      · by_cases c2 : 9 < t.size
        · exact walkLists1 v ss u tt s t w hv hu hs hs2 ht f1 f2 c1 c2
        · exact walkLists2 v ss u tt s t w hv hu hs hs2 ht f1 f2 c1 c2
      · by_cases c2 : 9 < s.size
        · exact walkLists3 v ss u tt s t w hv hu hs hs2 ht f1 f2 c1 c2
        · exact walkLists4 v ss u tt s t w hv hu hs hs2 ht f1 f2 c1 c2
    · have f2' : fewB tt 200 = false := by simpa using f2
      clear f2
      go_enter Tryd.func9, Tryd.ntmps9
      go_wp2_with fail
      refine (head_any _ ht.out).mono ?_
      rintro e w1 ⟨rfl, hb1⟩
      have hv1 := StrsOk.kept hv hb1
      have hu1 := StrsOk.kept hu hb1
      have ht1 := TabOk.kept ht hb1
      go_wp2_with fail
      refine (few_any _ _ 200 _ hv1.out.at_ hv1.out.len hv1.out.sizes).mono ?_
      rintro e w2 ⟨rfl, rfl⟩
      go_wp2_with fail
      refine (few_any _ _ 200 _ hu1.out.at_ hu1.out.len hu1.out.sizes).mono ?_
      rintro e w2 ⟨rfl, rfl⟩
      go_wp2_with fail
      go_ret
      exact ⟨rfl, hb1⟩
  · have f1' : fewB ss 200 = false := by simpa using f1
    clear f1
    go_enter Tryd.func9, Tryd.ntmps9
    go_wp2_with fail
    refine (head_any _ ht.out).mono ?_
    rintro e w1 ⟨rfl, hb1⟩
    have hv1 := StrsOk.kept hv hb1
    have hu1 := StrsOk.kept hu hb1
    have ht1 := TabOk.kept ht hb1
    go_wp2_with fail
    refine (few_any _ _ 200 _ hv1.out.at_ hv1.out.len hv1.out.sizes).mono ?_
    rintro e w2 ⟨rfl, rfl⟩
    go_wp2_with fail
    go_ret
    exact ⟨rfl, hb1⟩

end Go.Proofs.YtbkhcmpmhnnhcaaDoor
