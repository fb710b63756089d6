/-
  The program's rational package: Make, and Of by the library's contracts of strconv.Itoa and strings.TrimPrefix.
-/
import Derived.Test.YtbcoblpnihdhgaaDoorRmF
import Derived.Test.YtbcoblpnihdhgaaDoorShelf
set_option linter.unusedVariables false
set_option maxRecDepth 100000
namespace Go.Proofs.YtbcoblpnihdhgaaDoor
open Go.RowKit
open Rt
theorem make_of (w : World) : Below w.heap.size w ((w.alloc ratZ).alloc (Obj.cells #[Value.int .i64 0] 56)) ∧ RatAt w.heap.size noRaw ((w.alloc ratZ).alloc (Obj.cells #[Value.int .i64 0] 56)) ∧ CompAt (w.heap.size + 1) 0 ((w.alloc ratZ).alloc (Obj.cells #[Value.int .i64 0] 56)) := by
  have h0 := heap_lastM w ratZ
  have h1 := heap_lastM (w.alloc ratZ) (Obj.cells #[Value.int .i64 0] 56)
  have hs : (w.alloc ratZ).heap.size = w.heap.size + 1 := by simp
  rw [hs] at h1
  refine ⟨((Below.refl _ _).alloc (Nat.le_refl _) _).alloc (by simp) _, ⟨?_⟩, ⟨h1⟩⟩
  rw [Lib.alloc_old _ _ _ (by rw [hs]; omega)]; exact h0
set_option maxHeartbeats 4000000 in
theorem pmake_any (neg : Bool) (num den : ByteArray) (w : World) : Calls Tryd.prog 47 #[.bool neg, .string num, .string den] w (GivesR (makeE neg num den) w) := by
  obtain ⟨t, ht⟩ : ∃ t, t = makeE neg num den := ⟨_, rfl⟩
  rw [← ht]
  have HTT := Lib.hid (ht.trans (make_is neg num den).symm)
  clear ht
  obtain ⟨hT, hZ, hC⟩ := make_of w
  have HT := Lib.hid hT
  have HZ := Lib.hid hZ
  have HC := Lib.hid hC
  have z0 := z_str den
  have hva : Hid (∀ w, Calls Tryd.prog 56 #[.string num] w fun e w' => e = .returned (.bool (validB num)) ∧ w = w') := Lib.hid (fun w => pValid_same num w)
  have hvb : Hid (∀ w, Calls Tryd.prog 56 #[.string den] w fun e w' => e = .returned (.bool (validB den)) ∧ w = w') := Lib.hid (fun w => pValid_same den w)
  clear hT hZ hC
  generalize validB num = v1 at *
  generalize validB den = v2 at *
  generalize isZ den = zd at *
  cases v1
  · go_enter Tryd.func47, Tryd.ntmps47
    go_wp2_with fail
    refine (hva.out _).mono ?_
    rintro en w9 ⟨rfl, rfl⟩
    go_wp2_with fail
    refine (prequire_any (w.heap.size + 1) 0 false 1 _ HC.out).mono ?_
    rintro en w5 ⟨rfl, hc5, hb5⟩
    have HZ5 := Lib.hid (HZ.out.bes hb5 (by omega))
    have HB5 := Lib.hid hb5
    have HC5 := Lib.hid hc5
    clear hc5 hb5
    go_wp2_with fail
    refine (prequire_any (w.heap.size + 1) _ (!zd) 14 w5 HC5.out).mono ?_
    rintro en w6 ⟨rfl, hc6, hb6⟩
    have HZ6 := Lib.hid (HZ5.out.bes hb6 (by omega))
    have HB6 := Lib.hid (HB5.out.trans hb6)
    have HC6 := Lib.hid hc6
    clear hc6 hb6
    go_wp2_with fail
    refine (preduced_any (w.heap.size + 1) _ neg num den w6 HC6.out).mono ?_
    rintro en w7 ⟨rfl, hc7, hb7⟩
    have HZ7 := Lib.hid (HZ6.out.bes hb7 (by omega))
    have HB7 := Lib.hid (HB6.out.trans hb7)
    obtain ⟨q, hq⟩ : ∃ q, q = redR (reqR (reqR 0 false 1) (!zd) 14) neg num den := ⟨_, rfl⟩
    rw [← hq] at hc7
    rw [← hq]
    have HC7 := Lib.hid hc7
    have HQ := Lib.hid hq
    clear hc7 hb7 hq
    go_wp2_with fail
    refine (presult_any (w.heap.size + 1) q.2 q.1 w7 HC7.out).mono ?_
    rintro en w8 ⟨rfl, hb8⟩
    have htt : resR (q.1, q.2) = t := by rw [HTT.out, HQ.out]; rfl
    rw [htt]
    have hz8 := HZ7.out.bel hb8
    have r0 := hz8.c0
    have r1 := hz8.c1
    have r2 := hz8.c2
    have k0 := hz8.fz 0
    have k1 := hz8.fz 1
    have k2 := hz8.fz 2
    have HZ8 := Lib.hid hz8
    have HW8 : Hid (Below w.heap.size w w8) := Lib.hid (HT.out.trans ((HB7.out.trans (Bes.of hb8)).low (by omega) HT.out.size))
    clear hz8 hb8 htt
    go_wp2_with fail
    (try simp only [Exit.inBlock, Exit.then])
    refine bodyPost_ret (results_rat rfl _ _ w.heap.size ⟨_, _, _⟩ _ rfl rfl (HZ8.out.set ⟨_, _, _⟩)) rfl ?_
    exact ⟨rfl, ((HW8.out.setCell (p := ⟨w.heap.size, 0, none⟩) (Nat.le_refl _) _).setCell (p := ⟨w.heap.size, 1, none⟩) (Nat.le_refl _) _).setCell (p := ⟨w.heap.size, 2, none⟩) (Nat.le_refl _) _⟩
  · go_enter Tryd.func47, Tryd.ntmps47
    go_wp2_with fail
    refine (hva.out _).mono ?_
    rintro en w9 ⟨rfl, rfl⟩
    go_wp2_with fail
    refine (hvb.out _).mono ?_
    rintro en w9 ⟨rfl, rfl⟩
    go_wp2_with fail
    refine (prequire_any (w.heap.size + 1) 0 v2 1 _ HC.out).mono ?_
    rintro en w5 ⟨rfl, hc5, hb5⟩
    have HZ5 := Lib.hid (HZ.out.bes hb5 (by omega))
    have HB5 := Lib.hid hb5
    have HC5 := Lib.hid hc5
    clear hc5 hb5
    go_wp2_with fail
    refine (prequire_any (w.heap.size + 1) _ (!zd) 14 w5 HC5.out).mono ?_
    rintro en w6 ⟨rfl, hc6, hb6⟩
    have HZ6 := Lib.hid (HZ5.out.bes hb6 (by omega))
    have HB6 := Lib.hid (HB5.out.trans hb6)
    have HC6 := Lib.hid hc6
    clear hc6 hb6
    go_wp2_with fail
    refine (preduced_any (w.heap.size + 1) _ neg num den w6 HC6.out).mono ?_
    rintro en w7 ⟨rfl, hc7, hb7⟩
    have HZ7 := Lib.hid (HZ6.out.bes hb7 (by omega))
    have HB7 := Lib.hid (HB6.out.trans hb7)
    obtain ⟨q, hq⟩ : ∃ q, q = redR (reqR (reqR 0 v2 1) (!zd) 14) neg num den := ⟨_, rfl⟩
    rw [← hq] at hc7
    rw [← hq]
    have HC7 := Lib.hid hc7
    have HQ := Lib.hid hq
    clear hc7 hb7 hq
    go_wp2_with fail
    refine (presult_any (w.heap.size + 1) q.2 q.1 w7 HC7.out).mono ?_
    rintro en w8 ⟨rfl, hb8⟩
    have htt : resR (q.1, q.2) = t := by rw [HTT.out, HQ.out]; rfl
    rw [htt]
    have hz8 := HZ7.out.bel hb8
    have r0 := hz8.c0
    have r1 := hz8.c1
    have r2 := hz8.c2
    have k0 := hz8.fz 0
    have k1 := hz8.fz 1
    have k2 := hz8.fz 2
    have HZ8 := Lib.hid hz8
    have HW8 : Hid (Below w.heap.size w w8) := Lib.hid (HT.out.trans ((HB7.out.trans (Bes.of hb8)).low (by omega) HT.out.size))
    clear hz8 hb8 htt
    go_wp2_with fail
    (try simp only [Exit.inBlock, Exit.then])
    refine bodyPost_ret (results_rat rfl _ _ w.heap.size ⟨_, _, _⟩ _ rfl rfl (HZ8.out.set ⟨_, _, _⟩)) rfl ?_
    exact ⟨rfl, ((HW8.out.setCell (p := ⟨w.heap.size, 0, none⟩) (Nat.le_refl _) _).setCell (p := ⟨w.heap.size, 1, none⟩) (Nat.le_refl _) _).setCell (p := ⟨w.heap.size, 2, none⟩) (Nat.le_refl _) _⟩
abbrev TabOk (w : World) : Prop := Lib.TabIs Tryd.prog w "internal/strconv.uint64pow10" .u64 Lib.pow10Tab
theorem TabOk.below {w w' : World} (h : TabOk w) (hb : Below w.heap.size w w') : TabOk w' := by
  have hg : Tryd.prog.globalNamed "internal/strconv.uint64pow10" = some 0 := by kernel_rfl
  have hlt : 0 < w.heap.size := by
    have h' := h
    unfold TabOk Lib.TabIs World.var? at h'
    rw [hg] at h'
    simp only [Option.bind_some] at h'
    rcases Nat.lt_or_ge 0 w.heap.size with h2 | h2
    · exact h2
    · rw [Array.getElem?_eq_none h2] at h'; simp at h'
  exact var?_below hb hg hlt h
theorem grow_below (w : World) (k : Nat) (os : Array Obj) : Below w.heap.size w (Sort.grow (w.drewN k) os) := by
  refine ⟨rfl, rfl, rfl, by simp [Sort.grow], fun j hj => ?_⟩
  simp only [Sort.grow, World.heap_drewN]
  rw [Array.getElem?_append_left hj]
theorem abs_text (n : Int) : (⟨(Lib.trimPrefix (⟨(Lib.itoa n).toArray⟩ : ByteArray).data.toList (⟨#[45]⟩ : ByteArray).data.toList).toArray⟩ : ByteArray) = nS n.natAbs := by
  unfold nS bx
  congr 1
  congr 1
  show Lib.trimPrefix (Lib.itoa n) [45] = Dec.digs n.natAbs
  unfold Lib.trimPrefix Lib.itoa Lib.hasPrefix
  by_cases h : n < 0
  · rw [if_pos h]
    simp [List.isPrefixOf, Dec.digs]
  · rw [if_neg h, show n.toNat = n.natAbs by omega]
    have hne := Dec.digs_ne n.natAbs
    cases hd : Dec.digs n.natAbs with
    | nil => exact absurd hd hne
    | cons c l =>
      have hc := (digs_no (n := n.natAbs) (c := c) (by rw [hd]; simp)).1
      have hd' : Lib.decDigits n.natAbs = c :: l := hd
      rw [hd', if_neg]
      simp [List.isPrefixOf]
      exact fun e => hc e.symm
set_option maxHeartbeats 1000000 in
theorem pabsolute_any (n : Int) (w : World) (h1 : -9223372036854775808 ≤ n) (h2 : n ≤ 9223372036854775807) (ht : TabOk w) :
    Calls Tryd.prog 48 #[.int .i64 n] w fun e w' => e = .returned (.string (nS n.natAbs)) ∧ Below w.heap.size w w' := by
  have HT := Lib.hid ht
  clear ht
  go_enter Tryd.func48, Tryd.ntmps48
  go_wp2_with fail
  refine (Tryd.strconv_Itoa n (by omega) h2 _ HT.out).mono ?_
  rintro e w1 ⟨rfl, k, os, hw⟩
  have HB : Hid (Below w.heap.size w w1) := Lib.hid (by rw [hw]; exact grow_below w k os)
  clear hw
  have habs := abs_text n
  generalize (⟨(Lib.itoa n).toArray⟩ : ByteArray) = s at *
  have HABS := Lib.hid habs
  clear habs
  go_wp2_with fail
  refine (Tryd.strings_TrimPrefix s ⟨#[45]⟩ _).mono ?_
  rintro e w2 ⟨rfl, rfl⟩
  rw [HABS.out]
  go_wp2_with fail
  go_ret
  exact ⟨rfl, HB.out⟩
theorem of_make (n d : Int) (h1 : n.natAbs ≤ 9223372036854775808) (h2 : d.natAbs ≤ 9223372036854775808) : makeE (decide (n < 0) != decide (d < 0)) (nS n.natAbs) (nS d.natAbs) = ofE n d := by
  have sm : ∀ m : Nat, m ≤ 9223372036854775808 → validB (nS m) = true := fun m hm => vN (Nat.le_trans ((nS_size (k := 20) (by omega)).2 (Nat.lt_of_le_of_lt hm (by decide))) (by omega))
  unfold makeE ofE
  rw [sm _ h1, sm _ h2]
  have e1 : nv (nS n.natAbs) = n.natAbs := val_nS _
  have e2 : nv (nS d.natAbs) = d.natAbs := val_nS _
  rw [e1, e2]
  simp only [Bool.and_self, if_true]
  by_cases h : d = 0
  · rw [if_pos h, if_pos (by omega)]
  · rw [if_neg h, if_neg (by omega)]; rfl
set_option maxHeartbeats 2000000 in
theorem pof_any (n d : Int) (w : World) (h1 : -9223372036854775808 ≤ n) (h2 : n ≤ 9223372036854775807) (h3 : -9223372036854775808 ≤ d) (h4 : d ≤ 9223372036854775807) (ht : TabOk w) :
    Calls Tryd.prog 34 #[.int .i64 n, .int .i64 d] w (GivesR (ofE n d) w) := by
  have HT := Lib.hid ht
  have H1 : Hid (-9223372036854775808 ≤ n ∧ n ≤ 9223372036854775807 ∧ -9223372036854775808 ≤ d ∧ d ≤ 9223372036854775807) := Lib.hid ⟨h1, h2, h3, h4⟩
  obtain ⟨t, hti⟩ : ∃ t, t = ofE n d := ⟨_, rfl⟩
  rw [← hti]
  have HTT := Lib.hid (hti.trans (of_make n d (by omega) (by omega)).symm)
  have hbW : Below w.heap.size w (w.alloc ratZ) := (Below.refl _ _).alloc (Nat.le_refl _) _
  have HBW := Lib.hid hbW
  have HZ := Lib.hid (RatAt.mk (r := noRaw) (heap_lastM w ratZ))
  clear ht h1 h2 h3 h4 hti hbW
  go_enter Tryd.func34, Tryd.ntmps34
  go_wp2_with fail
  refine (pabsolute_any n _ H1.out.1 H1.out.2.1 (HT.out.below HBW.out)).mono ?_
  rintro en w1 ⟨rfl, hb1⟩
  have HB1 := Lib.hid (HBW.out.trans (hb1.mono HBW.out.size))
  have HZ1 := Lib.hid (HZ.out.bel hb1)
  clear hb1
  go_wp2_with fail
  refine (pabsolute_any d _ H1.out.2.2.1 H1.out.2.2.2 (HT.out.below HB1.out)).mono ?_
  rintro en w2 ⟨rfl, hb2⟩
  have HB2 := Lib.hid (HB1.out.trans (hb2.mono HB1.out.size))
  have HZ2 := Lib.hid (HZ1.out.bel hb2)
  clear hb2
  go_wp2_with fail
  refine (pmake_any (decide (n < 0) != decide (d < 0)) (nS n.natAbs) (nS d.natAbs) _).mono ?_
  rintro en w8 ⟨rfl, hb8⟩
  rw [← HTT.out]
  have hz8 := HZ2.out.bel hb8
  have r0 := hz8.c0
  have r1 := hz8.c1
  have r2 := hz8.c2
  have k0 := hz8.fz 0
  have k1 := hz8.fz 1
  have k2 := hz8.fz 2
  have HZ8 := Lib.hid hz8
  have HW8 := Lib.hid (HB2.out.trans (hb8.mono HB2.out.size))
  clear hz8 hb8
  go_wp2_with fail
  (try simp only [Exit.inBlock, Exit.then])
  refine bodyPost_ret (results_rat rfl _ _ w.heap.size ⟨_, _, _⟩ _ rfl rfl (HZ8.out.set ⟨_, _, _⟩)) rfl ?_
  exact ⟨rfl, ((HW8.out.setCell (p := ⟨w.heap.size, 0, none⟩) (Nat.le_refl _) _).setCell (p := ⟨w.heap.size, 1, none⟩) (Nat.le_refl _) _).setCell (p := ⟨w.heap.size, 2, none⟩) (Nat.le_refl _) _⟩
end Go.Proofs.YtbcoblpnihdhgaaDoor
