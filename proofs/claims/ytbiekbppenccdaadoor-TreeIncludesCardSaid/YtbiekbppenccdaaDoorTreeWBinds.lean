/-
  The walk of the statement that a path binds the digest at its place, or two different texts have one digest.
-/
import Derived.Test.YtbiekbppenccdaaDoorTreeWRoots
set_option linter.unusedVariables false
namespace Go.Proofs.YtbiekbppenccdaaDoor
open Go.RowKit
theorem pathTextsB_size : ∀ (n i : Nat) (d : ByteArray) (p : List ByteArray), p.length = lenB n i → d.size ≤ 2147483648 → Small p → ∀ s ∈ pathTextsB n i d p, s.size ≤ 1099511627776 := by
  intro n
  induction n using Nat.strongRecOn with
  | _ n ih =>
    intro i d p hp hd hS s hs
    by_cases h2 : 2 ≤ n
    · have k1 := half_pos h2
      have k2 := half_lt h2
      rw [lenB_big h2] at hp
      obtain ⟨q, x, rfl⟩ := snoc_of (p := p) (by intro e; subst e; simp at hp; split at hp <;> omega)
      simp only [List.length_append, List.length_singleton] at hp
      have hSq : Small q := fun s hs => hS s (by simp [hs])
      have hx := hS x (by simp)
      by_cases hlt : i < half n
      · rw [if_pos hlt] at hp
        rw [pathTextsB_lo h2 i hlt] at hs
        rcases List.mem_append.1 hs with hs | hs
        · exact ih (half n) k2 i d q (by omega) hd hSq s hs
        · simp only [List.mem_singleton] at hs
          subst hs
          exact nodeT_small (upB_size hd) hx
      · rw [if_neg hlt] at hp
        rw [pathTextsB_hi h2 i hlt] at hs
        rcases List.mem_append.1 hs with hs | hs
        · exact ih (n - half n) (by omega) (i - half n) d q (by omega) hd hSq s hs
        · simp only [List.mem_singleton] at hs
          subst hs
          exact nodeT_small hx (upB_size hd)
    · rw [pathTextsB_small h2] at hs; cases hs
theorem path_good (v : Value) (l : List ByteArray) (m : Nat) (w : World) (h : StrsOk w v l) (hl : l.length ≤ 1099511627775) (hd : digsB l = true) (hm : m < l.length) (ht : TabOk w) :
    Calls Tryd.prog 13 #[v, .int .i64 (m : Int)] w fun e w' => ∃ u, e = .returned (.tuple #[u, .int .i64 0]) ∧ StrsOk w' u (pathB l m) ∧ Below w.heap.size w w' := by
  have ok : pathOk l m = true := (pathOk_iff l m).2 ⟨hd, by omega, by omega⟩
  refine (pPath_any v l m w h (by omega) ht).mono ?_
  intro e w' g
  have := g.ok (pathS_len l m)
  rw [ok, pathS_yes ok] at this
  exact this
theorem goodT_small {ss : List ByteArray} (h : goodT ss = true) : Small ss := digsB_small (goodT_digs h)
theorem fewB_size {ss : List ByteArray} {k : Int} (h : fewB ss k = true) : ∀ s ∈ ss, (s.size : Int) ≤ k := by
  simp only [fewB, Bool.and_eq_true, List.all_eq_true, decide_eq_true_eq] at h
  exact h.1
theorem fewT_small {ss : List ByteArray} (h : fewT ss = true) : Small ss := by
  simp only [fewT, Bool.and_eq_true] at h
  exact fun s hs => by have := fewB_size h.2 s hs; omega
theorem binds_shown {l : List ByteArray} {m : Nat} {s : ByteArray} {p : List ByteArray} (hm : m < l.length) (hd : digsB l = true) (hc : checkB (rootS l) l.length m s p = true) (hn : s ≠ l[m]) : Shown (textsB l ++ pathTextsB l.length m s p) := by
  rw [checkB_iff] at hc
  simp only [Int.toNat_natCast] at hc
  rcases path_binds _ l m s p rfl hm hc.2.2.2.1 (hc.2.2.2.2.2.2.trans (rootS_yes hd)) with r | r
  · exact absurd (r.trans (by simp [List.getD, hm])) hn
  · exact r
theorem check_len {root : ByteArray} {n m : Nat} {s : ByteArray} {p : List ByteArray} (hc : checkB root n m s p = true) : p.length = lenB n m := by
  rw [checkB_iff] at hc
  simp only [Int.toNat_natCast] at hc
  exact hc.2.2.2.1

set_option maxRecDepth 100000 in
set_option maxHeartbeats 2000000 in
theorem walkBinds1 (v : Value) (l : List ByteArray) (r : Int) (s : ByteArray) (u : Value) (p : List ByteArray) (w : World) (hv : Hid (StrsOk w v l)) (hu : Hid (StrsOk w u p)) (ht : Hid (TabOk w)) (h : goodT l = false) :
    Calls Tryd.prog 5 #[v, .int .u8 r, .string s, u] w fun e w' => e = .returned (.bool true) ∧ Below w.heap.size w w' := by
  have FA := Lib.hid h
  clear h
  have HT0 := ht
  have HV0 := hv
  have HU0 := hu
  clear ht hv hu
  have D0 := Below.refl w.heap.size w
  go_enter Tryd.func5, Tryd.ntmps5
  go_wp2_with fail
  refine (thead_any _ HT0.out).mono ?_
  rintro e w1 ⟨rfl, hb⟩
  have HT1 := TabOk.kept HT0 hb
  have HV1 := StrsOk.kept HV0 hb
  have HU1 := StrsOk.kept HU0 hb
  have D1 := D0.trans (hb.mono D0.size)
  clear hb D0 HT0 HV0 HU0
  go_wp2_with fail
  refine (good_any _ l _ HV1.out).mono ?_
  rintro e wz ⟨rfl, rfl⟩
  rw [FA.out]
  go_wp2_with fail
  go_ret
  exact ⟨rfl, D1⟩
set_option maxRecDepth 100000 in
set_option maxHeartbeats 2000000 in
theorem walkBinds2 (v : Value) (l : List ByteArray) (r : Int) (s : ByteArray) (u : Value) (p : List ByteArray) (w : World) (hv : Hid (StrsOk w v l)) (hu : Hid (StrsOk w u p)) (ht : Hid (TabOk w)) (h : goodT l = true) (g : fewT p = false) :
    Calls Tryd.prog 5 #[v, .int .u8 r, .string s, u] w fun e w' => e = .returned (.bool true) ∧ Below w.heap.size w w' := by
  have FA := Lib.hid h
  have FB := Lib.hid g
  clear h g
  have HT0 := ht
  have HV0 := hv
  have HU0 := hu
  clear ht hv hu
  have D0 := Below.refl w.heap.size w
  go_enter Tryd.func5, Tryd.ntmps5
  go_wp2_with fail
  refine (thead_any _ HT0.out).mono ?_
  rintro e w1 ⟨rfl, hb⟩
  have HT1 := TabOk.kept HT0 hb
  have HV1 := StrsOk.kept HV0 hb
  have HU1 := StrsOk.kept HU0 hb
  have D1 := D0.trans (hb.mono D0.size)
  clear hb D0 HT0 HV0 HU0
  go_wp2_with fail
  refine (good_any _ l _ HV1.out).mono ?_
  rintro e wz ⟨rfl, rfl⟩
  rw [FA.out]
  go_wp2_with fail
  refine (fewT_any _ p _ HU1.out).mono ?_
  rintro e wz ⟨rfl, rfl⟩
  rw [FB.out]
  go_wp2_with fail
  go_ret
  exact ⟨rfl, D1⟩
set_option maxRecDepth 100000 in
set_option maxHeartbeats 2000000 in
theorem walkBinds3 (v : Value) (l : List ByteArray) (r : Int) (s : ByteArray) (u : Value) (p : List ByteArray) (w : World) (hv : Hid (StrsOk w v l)) (hu : Hid (StrsOk w u p)) (ht : Hid (TabOk w)) (h : goodT l = true) (g : fewT p = true) (c : 100 < s.size) :
    Calls Tryd.prog 5 #[v, .int .u8 r, .string s, u] w fun e w' => e = .returned (.bool true) ∧ Below w.heap.size w w' := by
  have FA := Lib.hid h
  have FB := Lib.hid g
  clear h g
  have HT0 := ht
  have HV0 := hv
  have HU0 := hu
  clear ht hv hu
  have D0 := Below.refl w.heap.size w
  go_enter Tryd.func5, Tryd.ntmps5
  go_wp2_with fail
  refine (thead_any _ HT0.out).mono ?_
  rintro e w1 ⟨rfl, hb⟩
  have HT1 := TabOk.kept HT0 hb
  have HV1 := StrsOk.kept HV0 hb
  have HU1 := StrsOk.kept HU0 hb
  have D1 := D0.trans (hb.mono D0.size)
  clear hb D0 HT0 HV0 HU0
  go_wp2_with fail
  refine (good_any _ l _ HV1.out).mono ?_
  rintro e wz ⟨rfl, rfl⟩
  rw [FA.out]
  go_wp2_with fail
  refine (fewT_any _ p _ HU1.out).mono ?_
  rintro e wz ⟨rfl, rfl⟩
  rw [FB.out]
  go_wp2_with fail
  go_ret
  exact ⟨rfl, D1⟩
set_option maxRecDepth 100000 in
set_option maxHeartbeats 2000000 in
theorem walkBinds4 (v : Value) (l : List ByteArray) (r : Int) (s : ByteArray) (u : Value) (p : List ByteArray) (w : World) (hv : Hid (StrsOk w v l)) (hu : Hid (StrsOk w u p)) (ht : Hid (TabOk w)) (h : goodT l = true) (g : fewT p = true) (c : ¬ 100 < s.size) (h0 : l.length = 0) :
    Calls Tryd.prog 5 #[v, .int .u8 r, .string s, u] w fun e w' => e = .returned (.bool true) ∧ Below w.heap.size w w' := by
  have FA := Lib.hid h
  have FB := Lib.hid g
  have t1 : ((l.length : Int) == 0) = true := by rw [h0]; rfl
  clear h g h0
  have HT0 := ht
  have HV0 := hv
  have HU0 := hu
  clear ht hv hu
  have D0 := Below.refl w.heap.size w
  obtain ⟨va, vcap, rfl, vc1, vc2⟩ := HV0.out.room
  go_enter Tryd.func5, Tryd.ntmps5
  go_wp2_with fail
  refine (thead_any _ HT0.out).mono ?_
  rintro e w1 ⟨rfl, hb⟩
  have HT1 := TabOk.kept HT0 hb
  have HV1 := StrsOk.kept HV0 hb
  have HU1 := StrsOk.kept HU0 hb
  have D1 := D0.trans (hb.mono D0.size)
  clear hb D0 HT0 HV0 HU0
  go_wp2_with fail
  refine (good_any _ l _ HV1.out).mono ?_
  rintro e wz ⟨rfl, rfl⟩
  rw [FA.out]
  go_wp2_with fail
  refine (fewT_any _ p _ HU1.out).mono ?_
  rintro e wz ⟨rfl, rfl⟩
  rw [FB.out]
  go_wp2_with fail
  go_ret
  exact ⟨rfl, D1⟩
theorem lt_of_cell {w : World} {b o : Nat} {x : Value} (h : w.cell? ⟨b, o, none⟩ = some x) : b < w.heap.size := by
  rcases Nat.lt_or_ge b w.heap.size with h' | h'
  · exact h'
  · simp [World.cell?, Array.getElem?_eq_none h'] at h

set_option maxRecDepth 100000 in
set_option maxHeartbeats 2000000 in
theorem walkBinds5 (b off cap : Nat) (l : List ByteArray) (k M : Nat) (s X : ByteArray) (u : Value) (p : List ByteArray) (w : World) (hv : Hid (StrsOk w (.slice (some ⟨b, off, none⟩) l.length cap) l)) (hu : Hid (StrsOk w u p)) (ht : Hid (TabOk w)) (h : goodT l = true) (g : fewT p = true) (c : ¬ 100 < s.size) (h0 : 0 < l.length) (hk : k ≤ 255) (hM : M = k % l.length) (hc : w.cell? ⟨b, off + M, none⟩ = some (.string X)) (q1 : (s.toList == X.toList) = true) :
    Calls Tryd.prog 5 #[.slice (some ⟨b, off, none⟩) l.length cap, .int .u8 (k : Int), .string s, u] w fun e w' => e = .returned (.bool true) ∧ Below w.heap.size w w' := by
  have FA := Lib.hid h
  have FB := Lib.hid g
  have LA := Lib.hid (goodT_len h)
  have DA := Lib.hid (goodT_digs h)
  have SP := Lib.hid (fewT_small g)
  have LP := Lib.hid (fewT_len g)
  have hml : M < l.length := by rw [hM]; exact Nat.mod_lt k h0
  have l20 := LA.out
  have t1 : ((l.length : Int) == 0) = false := beq_eq_false_iff_ne.2 (by omega)
  have i2 : ((k : Int)).tmod (l.length : Int) = (M : Int) := by rw [hM, Int.tmod_eq_emod_of_nonneg (by omega), Int.natCast_emod]
  have S1 : Hid (s.size ≤ maxLen) := Lib.hid (by unfold maxLen; omega)
  have S2 : Hid (s.size ≤ 2147483648) := Lib.hid (by omega)
  clear h g hM
  have HT0 := ht
  have HV0 := hv
  have HU0 := hu
  clear ht hv hu
  have D0 := Below.refl w.heap.size w
  have hlt0 := lt_of_cell hc
  obtain ⟨ua, ucap, rfl, uc1, uc2⟩ := HU0.out.room
  go_enter Tryd.func5, Tryd.ntmps5
  go_wp2_with fail
  refine (thead_any _ HT0.out).mono ?_
  rintro e w1 ⟨rfl, hb⟩
  have hc1 := (hb.cell (p := ⟨b, off + M, none⟩) hlt0).trans hc
  have HT1 := TabOk.kept HT0 hb
  have HV1 := StrsOk.kept HV0 hb
  have HU1 := StrsOk.kept HU0 hb
  have D1 := D0.trans (hb.mono D0.size)
  clear hb D0 hc HT0 HV0 HU0
  go_wp2_with fail
  refine (good_any _ l _ HV1.out).mono ?_
  rintro e wz ⟨rfl, rfl⟩
  rw [FA.out]
  go_wp2_with fail
  refine (fewT_any _ p _ HU1.out).mono ?_
  rintro e wz ⟨rfl, rfl⟩
  rw [FB.out]
  go_wp2_with fail
  go_ret
  exact ⟨rfl, D1⟩
set_option maxRecDepth 100000 in
set_option maxHeartbeats 2000000 in
theorem walkBinds6 (b off cap : Nat) (l : List ByteArray) (k M : Nat) (s X : ByteArray) (u : Value) (p : List ByteArray) (w : World) (hv : Hid (StrsOk w (.slice (some ⟨b, off, none⟩) l.length cap) l)) (hu : Hid (StrsOk w u p)) (ht : Hid (TabOk w)) (h : goodT l = true) (g : fewT p = true) (c : ¬ 100 < s.size) (h0 : 0 < l.length) (hk : k ≤ 255) (hM : M = k % l.length) (hc : w.cell? ⟨b, off + M, none⟩ = some (.string X)) (q1 : (s.toList == X.toList) = false) (ck : checkB (rootS l) l.length M s p = false) :
    Calls Tryd.prog 5 #[.slice (some ⟨b, off, none⟩) l.length cap, .int .u8 (k : Int), .string s, u] w fun e w' => e = .returned (.bool true) ∧ Below w.heap.size w w' := by
  have FA := Lib.hid h
  have FB := Lib.hid g
  have LA := Lib.hid (goodT_len h)
  have DA := Lib.hid (goodT_digs h)
  have SP := Lib.hid (fewT_small g)
  have LP := Lib.hid (fewT_len g)
  have hml : M < l.length := by rw [hM]; exact Nat.mod_lt k h0
  have l20 := LA.out
  have t1 : ((l.length : Int) == 0) = false := beq_eq_false_iff_ne.2 (by omega)
  have i2 : ((k : Int)).tmod (l.length : Int) = (M : Int) := by rw [hM, Int.tmod_eq_emod_of_nonneg (by omega), Int.natCast_emod]
  have S1 : Hid (s.size ≤ maxLen) := Lib.hid (by unfold maxLen; omega)
  have S2 : Hid (s.size ≤ 2147483648) := Lib.hid (by omega)
  clear h g hM
  have HT0 := ht
  have HV0 := hv
  have HU0 := hu
  clear ht hv hu
  have D0 := Below.refl w.heap.size w
  have hlt0 := lt_of_cell hc
  obtain ⟨ua, ucap, rfl, uc1, uc2⟩ := HU0.out.room
  have CK := Lib.hid ck
  clear ck
  go_enter Tryd.func5, Tryd.ntmps5
  go_wp2_with fail
  refine (thead_any _ HT0.out).mono ?_
  rintro e w1 ⟨rfl, hb⟩
  have hc1 := (hb.cell (p := ⟨b, off + M, none⟩) hlt0).trans hc
  have HT1 := TabOk.kept HT0 hb
  have HV1 := StrsOk.kept HV0 hb
  have HU1 := StrsOk.kept HU0 hb
  have D1 := D0.trans (hb.mono D0.size)
  clear hb D0 hc HT0 HV0 HU0
  go_wp2_with fail
  refine (good_any _ l _ HV1.out).mono ?_
  rintro e wz ⟨rfl, rfl⟩
  rw [FA.out]
  go_wp2_with fail
  refine (fewT_any _ p _ HU1.out).mono ?_
  rintro e wz ⟨rfl, rfl⟩
  rw [FB.out]
  go_wp2_with fail
  refine (rooted_any _ l _ HV1.out (by omega) HT1.out).mono ?_
  rintro e w2 ⟨rfl, hb⟩
  have HT2 := TabOk.kept HT1 hb
  have HV2 := StrsOk.kept HV1 hb
  have HU2 := StrsOk.kept HU1 hb
  have D2 := D1.trans (hb.mono D1.size)
  clear hb D1 HT1 HV1 HU1
  go_wp2_with fail
  refine (pcheck_any _ p _ s _ _ _ HU2.out S1.out HT2.out).mono ?_
  rintro e w3 ⟨rfl, hb⟩
  have HT3 := TabOk.kept HT2 hb
  have HV3 := StrsOk.kept HV2 hb
  have HU3 := StrsOk.kept HU2 hb
  have D3 := D2.trans (hb.mono D2.size)
  clear hb D2 HT2 HV2 HU2
  rw [CK.out]
  go_wp2_with fail
  go_ret
  exact ⟨rfl, D3⟩
set_option maxRecDepth 100000 in
set_option maxHeartbeats 2000000 in
theorem walkBinds7 (b off cap : Nat) (l : List ByteArray) (k M : Nat) (s X : ByteArray) (u : Value) (p : List ByteArray) (w : World) (hv : Hid (StrsOk w (.slice (some ⟨b, off, none⟩) l.length cap) l)) (hu : Hid (StrsOk w u p)) (ht : Hid (TabOk w)) (h : goodT l = true) (g : fewT p = true) (c : ¬ 100 < s.size) (h0 : 0 < l.length) (hk : k ≤ 255) (hM : M = k % l.length) (hc : w.cell? ⟨b, off + M, none⟩ = some (.string X)) (q1 : (s.toList == X.toList) = false) (ck : checkB (rootS l) l.length M s p = true) (sh : Hid (Shown (textsB l ++ pathTextsB l.length M s p))) :
    Calls Tryd.prog 5 #[.slice (some ⟨b, off, none⟩) l.length cap, .int .u8 (k : Int), .string s, u] w fun e w' => e = .returned (.bool true) ∧ Below w.heap.size w w' := by
  have FA := Lib.hid h
  have FB := Lib.hid g
  have LA := Lib.hid (goodT_len h)
  have DA := Lib.hid (goodT_digs h)
  have SP := Lib.hid (fewT_small g)
  have LP := Lib.hid (fewT_len g)
  have hml : M < l.length := by rw [hM]; exact Nat.mod_lt k h0
  have l20 := LA.out
  have t1 : ((l.length : Int) == 0) = false := beq_eq_false_iff_ne.2 (by omega)
  have i2 : ((k : Int)).tmod (l.length : Int) = (M : Int) := by rw [hM, Int.tmod_eq_emod_of_nonneg (by omega), Int.natCast_emod]
  have S1 : Hid (s.size ≤ maxLen) := Lib.hid (by unfold maxLen; omega)
  have S2 : Hid (s.size ≤ 2147483648) := Lib.hid (by omega)
  clear h g hM
  have HT0 := ht
  have HV0 := hv
  have HU0 := hu
  clear ht hv hu
  have D0 := Below.refl w.heap.size w
  have hlt0 := lt_of_cell hc
  obtain ⟨ua, ucap, rfl, uc1, uc2⟩ := HU0.out.room
  have CK := Lib.hid ck
  have SH := sh
  have t9 : (((pathB l M).length : Int) != (p.length : Int)) = false := by rw [pathB_len _ l M rfl, check_len ck]; simp
  have HPL := Lib.hid (pathB_len _ l M rfl)
  clear ck sh
  go_enter Tryd.func5, Tryd.ntmps5
  go_wp2_with fail
  refine (thead_any _ HT0.out).mono ?_
  rintro e w1 ⟨rfl, hb⟩
  have hc1 := (hb.cell (p := ⟨b, off + M, none⟩) hlt0).trans hc
  have HT1 := TabOk.kept HT0 hb
  have HV1 := StrsOk.kept HV0 hb
  have HU1 := StrsOk.kept HU0 hb
  have D1 := D0.trans (hb.mono D0.size)
  clear hb D0 hc HT0 HV0 HU0
  go_wp2_with fail
  refine (good_any _ l _ HV1.out).mono ?_
  rintro e wz ⟨rfl, rfl⟩
  rw [FA.out]
  go_wp2_with fail
  refine (fewT_any _ p _ HU1.out).mono ?_
  rintro e wz ⟨rfl, rfl⟩
  rw [FB.out]
  go_wp2_with fail
  refine (rooted_any _ l _ HV1.out (by omega) HT1.out).mono ?_
  rintro e w2 ⟨rfl, hb⟩
  have HT2 := TabOk.kept HT1 hb
  have HV2 := StrsOk.kept HV1 hb
  have HU2 := StrsOk.kept HU1 hb
  have D2 := D1.trans (hb.mono D1.size)
  clear hb D1 HT1 HV1 HU1
  go_wp2_with fail
  refine (pcheck_any _ p _ s _ _ _ HU2.out S1.out HT2.out).mono ?_
  rintro e w3 ⟨rfl, hb⟩
  have HT3 := TabOk.kept HT2 hb
  have HV3 := StrsOk.kept HV2 hb
  have HU3 := StrsOk.kept HU2 hb
  have D3 := D2.trans (hb.mono D2.size)
  clear hb D2 HT2 HV2 HU2
  rw [CK.out]
  go_wp2_with fail
  refine (path_good _ l M _ HV3.out (by omega) DA.out hml HT3.out).mono ?_
  rintro e w4 ⟨o, rfl, hu, hb⟩
  have HO4 := Lib.hid hu
  clear hu
  have HT4 := TabOk.kept HT3 hb
  have HV4 := StrsOk.kept HV3 hb
  have HU4 := StrsOk.kept HU3 hb
  have D4 := D3.trans (hb.mono D3.size)
  clear hb D3 HT3 HV3 HU3
  obtain ⟨oa, ocap, rfl, oc1, oc2⟩ := HO4.out.room
  clear HO4
  go_wp2_with fail
  refine (reftexts_any _ l _ _ rfl (by omega) (digsB_small DA.out) HV4.out).mono ?_
  rintro e w5 ⟨p1, rfl, hp1, hb⟩
  have HT5 := TabOk.kept HT4 hb
  have HV5 := StrsOk.kept HV4 hb
  have HU5 := StrsOk.kept HU4 hb
  have D5 := D4.trans (hb.mono D4.size)
  have b5 := hb
  clear hb HT4 HV4 HU4
  go_wp2_with fail
  refine (refptexts_any _ M s p _ _ (by omega) hml (check_len CK.out) S2.out SP.out HU5.out).mono ?_
  rintro e w6 ⟨p2, rfl, hp2, hb⟩
  have HT6 := TabOk.kept HT5 hb
  have HV6 := StrsOk.kept HV5 hb
  have HU6 := StrsOk.kept HU5 hb
  have D6 := D5.trans (hb.mono D5.size)
  have b6 := hb
  clear hb HT5 HV5 HU5
  have hbase := D4.size
  have ptl := pathTextsB_len l.length M s p
  go_wp2_with (at_builtin; refine wpList_cat_if _ (by rfl) _ _ rfl w.heap.size _ _ _ (textsB l) (pathTextsB l.length M s p) rfl rfl ((hp1.mono hbase).below b6) hp2 (catS_len (Nat.le_trans (texts_len LA.out) (by omega)) (Nat.le_trans ptl (by omega))) D6.size ?_)
  intro v9 w9 hown9 hgrow9
  have D9 := below_append D6 (hp1.mono hbase) hgrow9
  go_wp2_with fail
  refine (own_shown _ _ _ _ hown9 (by rw [List.length_append]; have := texts_len LA.out; omega) (mem_append_size (texts_size DA.out) (pathTextsB_size _ _ _ _ (check_len CK.out) S2.out SP.out)) SH.out).mono ?_
  rintro e w10 ⟨rfl, hb10⟩
  have D10 := D9.trans (hb10.mono D9.size)
  go_wp2_with fail
  go_ret
  exact ⟨rfl, D10⟩
theorem walkTreeBinds (v : Value) (l : List ByteArray) (r : Int) (s : ByteArray) (u : Value) (p : List ByteArray) (w : World) (hv' : StrsOk w v l) (hr : (Lit.int .u8 r).wf = true) (hs : s.size ≤ maxLen) (hu' : StrsOk w u p) (ht' : TabOk w) :
    Calls Tryd.prog 5 #[v, .int .u8 r, .string s, u] w fun e w' => e = .returned (.bool true) ∧ Below w.heap.size w w' := by
  have hr' := u8_bounds hr
  obtain ⟨k, rfl⟩ : ∃ k : Nat, r = k := ⟨r.toNat, by omega⟩
  have hv := Lib.hid hv'
  have hu := Lib.hid hu'
  have ht := Lib.hid ht'
  have tr : ∀ {b : Bool}, ¬ b = true → b = false := fun h => by simpa using h
  by_cases c1 : goodT l = true
  · by_cases c2 : fewT p = true
    · by_cases c3 : 100 < s.size
      · exact walkBinds3 v l k s u p w hv hu ht c1 c2 c3
      · by_cases c4 : 0 < l.length
        · obtain ⟨b, off, cap, rfl, h1, h3, hc⟩ := hv'.open_ c4
          have hm : k % l.length < l.length := Nat.mod_lt k c4
          by_cases c5 : s = l[k % l.length]
          · exact walkBinds5 b off cap l k _ s _ u p w hv hu ht c1 c2 c3 c4 (by omega) rfl (hc _ hm) (by rw [str_beq]; exact decide_eq_true c5)
          · by_cases c6 : checkB (rootS l) l.length (k % l.length : Nat) s p = true
            · exact walkBinds7 b off cap l k _ s _ u p w hv hu ht c1 c2 c3 c4 (by omega) rfl (hc _ hm) (by rw [str_beq]; exact decide_eq_false c5) c6 (Lib.hid (binds_shown hm (goodT_digs c1) c6 c5))
            · exact walkBinds6 b off cap l k _ s _ u p w hv hu ht c1 c2 c3 c4 (by omega) rfl (hc _ hm) (by rw [str_beq]; exact decide_eq_false c5) (tr c6)
        · exact walkBinds4 v l k s u p w hv hu ht c1 c2 c3 (by omega)
    · exact walkBinds2 v l k s u p w hv hu ht c1 (tr c2)
  · exact walkBinds1 v l k s u p w hv hu ht (tr c1)
end Go.Proofs.YtbiekbppenccdaaDoor
