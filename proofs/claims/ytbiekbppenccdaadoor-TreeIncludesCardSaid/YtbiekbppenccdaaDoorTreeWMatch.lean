/-
  The walk of the statement that the program's trees agree with the reference's.
-/
import Derived.Test.YtbiekbppenccdaaDoorTreeHead
set_option linter.unusedVariables false
namespace Go.Proofs.YtbiekbppenccdaaDoor
open Go.RowKit
theorem fewT_len {ss : List ByteArray} (h : fewT ss = true) : ss.length ≤ 20 := by
  simp only [fewT, Bool.and_eq_true, decide_eq_true_eq] at h
  exact h.1
theorem rootS_size (ss : List ByteArray) : (rootS ss).size ≤ maxLen := by
  by_cases h : digsB ss = true
  · rw [rootS, if_pos h]; exact dig_len (rootB_is h)
  · rw [rootS_no h]; decide
theorem GivesE.strs {ss : List ByteArray} {ok : Bool} {w : World} {e : Ending} {w' : World} (h : GivesE ss ok w e w') (hs : ∀ s ∈ ss, s.size ≤ maxLen) : ∃ u, e = .returned (.tuple #[u, .int .i64 (errN ok)]) ∧ StrsOk w' u ss ∧ Below w.heap.size w w' := h.ok hs
theorem digs_len {ss : List ByteArray} (h : digsB ss = true) : ∀ s ∈ ss, s.size ≤ maxLen := fun s hs => dig_len (digsB_is h s hs)
theorem pathS_len (ss : List ByteArray) (i : Int) : ∀ s ∈ pathS ss i, s.size ≤ maxLen := by
  by_cases h : pathOk ss i = true
  · rw [pathS, if_pos h]
    exact digs_len (pathB_digs _ ss _ rfl ((pathOk_iff ss i).1 h).1)
  · rw [pathS_no (by simpa using h)]; intro s hs; cases hs
theorem linkW_digs {ss : List ByteArray} {m : Nat} (hd : digsB ss = true) (hm : m ≤ ss.length) : digsB (linkW ss m) = true := by
  unfold linkW
  split
  · rfl
  · rename_i h
    exact linkB_digs _ ss m true rfl (by omega) hm hd
theorem linkS_len (ss : List ByteArray) (i : Int) : ∀ s ∈ linkS ss i, s.size ≤ maxLen := by
  by_cases h : linkOk ss i = true
  · rw [linkS, if_pos h]
    obtain ⟨h1, h2, h3⟩ := (linkOk_iff ss i).1 h
    exact digs_len (linkW_digs h1 (by omega))
  · rw [linkS_no (by simpa using h)]; intro s hs; cases hs

set_option maxRecDepth 100000 in
set_option maxHeartbeats 2000000 in
theorem walkMatch1 (v : Value) (l : List ByteArray) (i m n : Int) (root old s : ByteArray) (u : Value) (p : List ByteArray) (w : World) (hv : Hid (StrsOk w v l)) (hu : Hid (StrsOk w u p)) (ht : Hid (TabOk w)) (h : fewT l = false) :
    Calls Tryd.prog 3 #[v, .int .i64 i, .int .i64 m, .int .i64 n, .string root, .string old, .string s, u] w fun e w' => e = .returned (.bool true) ∧ Below w.heap.size w w' := by
  have FH := Lib.hid h
  clear h
  have HT0 := ht
  have HV0 := hv
  have HU0 := hu
  clear ht hv hu
  have D0 := Below.refl w.heap.size w
  go_enter Tryd.func3, Tryd.ntmps3
  go_wp2_with fail
  refine (thead_any _ HT0.out).mono ?_
  rintro e w1 ⟨rfl, hb⟩
  have HT1 := TabOk.kept HT0 hb
  have HV1 := StrsOk.kept HV0 hb
  have HU1 := StrsOk.kept HU0 hb
  have D1 := D0.trans (hb.mono D0.size)
  clear hb D0 HT0 HV0 HU0
  go_wp2_with fail
  refine (fewT_any _ l _ HV1.out).mono ?_
  rintro e wz ⟨rfl, rfl⟩
  rw [FH.out]
  go_wp2_with fail
  go_ret
  exact ⟨rfl, D1⟩
set_option maxRecDepth 100000 in
set_option maxHeartbeats 2000000 in
theorem walkMatch2 (v : Value) (l : List ByteArray) (i m n : Int) (root old s : ByteArray) (u : Value) (p : List ByteArray) (w : World) (hv : Hid (StrsOk w v l)) (hu : Hid (StrsOk w u p)) (ht : Hid (TabOk w)) (h : fewT l = true) (g : fewT p = false) :
    Calls Tryd.prog 3 #[v, .int .i64 i, .int .i64 m, .int .i64 n, .string root, .string old, .string s, u] w fun e w' => e = .returned (.bool true) ∧ Below w.heap.size w w' := by
  have FH := Lib.hid h
  have FG := Lib.hid g
  clear h g
  have HT0 := ht
  have HV0 := hv
  have HU0 := hu
  clear ht hv hu
  have D0 := Below.refl w.heap.size w
  go_enter Tryd.func3, Tryd.ntmps3
  go_wp2_with fail
  refine (thead_any _ HT0.out).mono ?_
  rintro e w1 ⟨rfl, hb⟩
  have HT1 := TabOk.kept HT0 hb
  have HV1 := StrsOk.kept HV0 hb
  have HU1 := StrsOk.kept HU0 hb
  have D1 := D0.trans (hb.mono D0.size)
  clear hb D0 HT0 HV0 HU0
  go_wp2_with fail
  refine (fewT_any _ l _ HV1.out).mono ?_
  rintro e wz ⟨rfl, rfl⟩
  rw [FH.out]
  go_wp2_with fail
  refine (fewT_any _ p _ HU1.out).mono ?_
  rintro e wz ⟨rfl, rfl⟩
  rw [FG.out]
  go_wp2_with fail
  go_ret
  exact ⟨rfl, D1⟩
set_option maxRecDepth 100000 in
set_option maxHeartbeats 2000000 in
theorem walkMatch3 (v : Value) (l : List ByteArray) (i m n : Int) (root old s : ByteArray) (u : Value) (p : List ByteArray) (w : World) (hv : Hid (StrsOk w v l)) (hu : Hid (StrsOk w u p)) (ht : Hid (TabOk w)) (h : fewT l = true) (g : fewT p = true) (c1 : 100 < root.size) :
    Calls Tryd.prog 3 #[v, .int .i64 i, .int .i64 m, .int .i64 n, .string root, .string old, .string s, u] w fun e w' => e = .returned (.bool true) ∧ Below w.heap.size w w' := by
  have FH := Lib.hid h
  have FG := Lib.hid g
  clear h g
  have HT0 := ht
  have HV0 := hv
  have HU0 := hu
  clear ht hv hu
  have D0 := Below.refl w.heap.size w
  go_enter Tryd.func3, Tryd.ntmps3
  go_wp2_with fail
  refine (thead_any _ HT0.out).mono ?_
  rintro e w1 ⟨rfl, hb⟩
  have HT1 := TabOk.kept HT0 hb
  have HV1 := StrsOk.kept HV0 hb
  have HU1 := StrsOk.kept HU0 hb
  have D1 := D0.trans (hb.mono D0.size)
  clear hb D0 HT0 HV0 HU0
  go_wp2_with fail
  refine (fewT_any _ l _ HV1.out).mono ?_
  rintro e wz ⟨rfl, rfl⟩
  rw [FH.out]
  go_wp2_with fail
  refine (fewT_any _ p _ HU1.out).mono ?_
  rintro e wz ⟨rfl, rfl⟩
  rw [FG.out]
  go_wp2_with fail
  go_ret
  exact ⟨rfl, D1⟩
set_option maxRecDepth 100000 in
set_option maxHeartbeats 2000000 in
theorem walkMatch4 (v : Value) (l : List ByteArray) (i m n : Int) (root old s : ByteArray) (u : Value) (p : List ByteArray) (w : World) (hv : Hid (StrsOk w v l)) (hu : Hid (StrsOk w u p)) (ht : Hid (TabOk w)) (h : fewT l = true) (g : fewT p = true) (c1 : ¬ 100 < root.size) (c2 : 100 < old.size) :
    Calls Tryd.prog 3 #[v, .int .i64 i, .int .i64 m, .int .i64 n, .string root, .string old, .string s, u] w fun e w' => e = .returned (.bool true) ∧ Below w.heap.size w w' := by
  have FH := Lib.hid h
  have FG := Lib.hid g
  clear h g
  have HT0 := ht
  have HV0 := hv
  have HU0 := hu
  clear ht hv hu
  have D0 := Below.refl w.heap.size w
  go_enter Tryd.func3, Tryd.ntmps3
  go_wp2_with fail
  refine (thead_any _ HT0.out).mono ?_
  rintro e w1 ⟨rfl, hb⟩
  have HT1 := TabOk.kept HT0 hb
  have HV1 := StrsOk.kept HV0 hb
  have HU1 := StrsOk.kept HU0 hb
  have D1 := D0.trans (hb.mono D0.size)
  clear hb D0 HT0 HV0 HU0
  go_wp2_with fail
  refine (fewT_any _ l _ HV1.out).mono ?_
  rintro e wz ⟨rfl, rfl⟩
  rw [FH.out]
  go_wp2_with fail
  refine (fewT_any _ p _ HU1.out).mono ?_
  rintro e wz ⟨rfl, rfl⟩
  rw [FG.out]
  go_wp2_with fail
  go_ret
  exact ⟨rfl, D1⟩
set_option maxRecDepth 100000 in
set_option maxHeartbeats 2000000 in
theorem walkMatch5 (v : Value) (l : List ByteArray) (i m n : Int) (root old s : ByteArray) (u : Value) (p : List ByteArray) (w : World) (hv : Hid (StrsOk w v l)) (hu : Hid (StrsOk w u p)) (ht : Hid (TabOk w)) (h : fewT l = true) (g : fewT p = true) (c1 : ¬ 100 < root.size) (c2 : ¬ 100 < old.size) (c3 : 100 < s.size) :
    Calls Tryd.prog 3 #[v, .int .i64 i, .int .i64 m, .int .i64 n, .string root, .string old, .string s, u] w fun e w' => e = .returned (.bool true) ∧ Below w.heap.size w w' := by
  have FH := Lib.hid h
  have FG := Lib.hid g
  clear h g
  have HT0 := ht
  have HV0 := hv
  have HU0 := hu
  clear ht hv hu
  have D0 := Below.refl w.heap.size w
  go_enter Tryd.func3, Tryd.ntmps3
  go_wp2_with fail
  refine (thead_any _ HT0.out).mono ?_
  rintro e w1 ⟨rfl, hb⟩
  have HT1 := TabOk.kept HT0 hb
  have HV1 := StrsOk.kept HV0 hb
  have HU1 := StrsOk.kept HU0 hb
  have D1 := D0.trans (hb.mono D0.size)
  clear hb D0 HT0 HV0 HU0
  go_wp2_with fail
  refine (fewT_any _ l _ HV1.out).mono ?_
  rintro e wz ⟨rfl, rfl⟩
  rw [FH.out]
  go_wp2_with fail
  refine (fewT_any _ p _ HU1.out).mono ?_
  rintro e wz ⟨rfl, rfl⟩
  rw [FG.out]
  go_wp2_with fail
  go_ret
  exact ⟨rfl, D1⟩
set_option maxRecDepth 100000 in
set_option maxHeartbeats 2000000 in
theorem walkMatch6 (v : Value) (l : List ByteArray) (i m n : Int) (root old s : ByteArray) (u : Value) (p : List ByteArray) (w : World) (hv : Hid (StrsOk w v l)) (hu : Hid (StrsOk w u p)) (ht : Hid (TabOk w)) (h : fewT l = true) (g : fewT p = true) (c1 : ¬ 100 < root.size) (c2 : ¬ 100 < old.size) (c3 : ¬ 100 < s.size) :
    Calls Tryd.prog 3 #[v, .int .i64 i, .int .i64 m, .int .i64 n, .string root, .string old, .string s, u] w fun e w' => e = .returned (.bool true) ∧ Below w.heap.size w w' := by
  have FH := Lib.hid h
  have FG := Lib.hid g
  have HL := Lib.hid (fewT_len h)
  clear h g
  have HT0 := ht
  have HV0 := hv
  have HU0 := hu
  clear ht hv hu
  have D0 := Below.refl w.heap.size w
  have S1 : Hid (root.size ≤ maxLen) := Lib.hid (by unfold maxLen; omega)
  have S2 : Hid (old.size ≤ maxLen) := Lib.hid (by unfold maxLen; omega)
  have S3 : Hid (s.size ≤ maxLen) := Lib.hid (by unfold maxLen; omega)
  have S4 : Hid (s.size ≤ 2147483648) := Lib.hid (by omega)
  have q1 := str_self (rootS l)
  have q2 := str_self (leafB s)
  obtain ⟨a, cap, rfl, hc1, hc2⟩ := HV0.out.room
  go_enter Tryd.func3, Tryd.ntmps3
  go_wp2_with fail
  refine (thead_any _ HT0.out).mono ?_
  rintro e w1 ⟨rfl, hb⟩
  have HT1 := TabOk.kept HT0 hb
  have HV1 := StrsOk.kept HV0 hb
  have HU1 := StrsOk.kept HU0 hb
  have D1 := D0.trans (hb.mono D0.size)
  clear hb D0 HT0 HV0 HU0
  go_wp2_with fail
  refine (fewT_any _ l _ HV1.out).mono ?_
  rintro e wz ⟨rfl, rfl⟩
  rw [FH.out]
  go_wp2_with fail
  refine (fewT_any _ p _ HU1.out).mono ?_
  rintro e wz ⟨rfl, rfl⟩
  rw [FG.out]
  go_wp2_with fail
  refine (pRoot_any _ l _ HV1.out (by have := HL.out; omega) HT1.out).mono ?_
  rintro e w2 ⟨rfl, hb⟩
  have HT2 := TabOk.kept HT1 hb
  have HV2 := StrsOk.kept HV1 hb
  have HU2 := StrsOk.kept HU1 hb
  have D2 := D1.trans (hb.mono D1.size)
  clear hb D1 HT1 HV1 HU1
  go_wp2_with fail
  refine (rRoot_any _ l _ HV2.out (by have := HL.out; omega)).mono ?_
  rintro e w3 ⟨rfl, hb⟩
  have HT3 := TabOk.kept HT2 hb
  have HV3 := StrsOk.kept HV2 hb
  have HU3 := StrsOk.kept HU2 hb
  have D3 := D2.trans (hb.mono D2.size)
  clear hb D2 HT2 HV2 HU2
  go_wp2_with fail
  refine (pPath_any _ l i _ HV3.out (by have := HL.out; omega) HT3.out).mono ?_
  intro e w4 hg
  obtain ⟨u1, rfl, hu, hb⟩ := hg.strs (pathS_len l i)
  have HA4 := Lib.hid hu
  clear hu hg
  have HT4 := TabOk.kept HT3 hb
  have HV4 := StrsOk.kept HV3 hb
  have HU4 := StrsOk.kept HU3 hb
  have D4 := D3.trans (hb.mono D3.size)
  clear hb D3 HT3 HV3 HU3
  go_wp2_with fail
  refine (rPath_any _ l i _ HV4.out (by have := HL.out; omega)).mono ?_
  intro e w5 hg
  obtain ⟨u2, rfl, hu, hb⟩ := hg.strs (pathS_len l i)
  have HB5 := Lib.hid hu
  clear hu hg
  have HT5 := TabOk.kept HT4 hb
  have HV5 := StrsOk.kept HV4 hb
  have HU5 := StrsOk.kept HU4 hb
  have HA5 := StrsOk.kept HA4 hb
  have D5 := D4.trans (hb.mono D4.size)
  clear hb D4 HT4 HV4 HU4 HA4
  go_wp2_with fail
  refine (pLink_any _ l m _ HV5.out (by have := HL.out; omega) HT5.out).mono ?_
  intro e w6 hg
  obtain ⟨u3, rfl, hu, hb⟩ := hg.strs (linkS_len l m)
  have HC6 := Lib.hid hu
  clear hu hg
  have HT6 := TabOk.kept HT5 hb
  have HV6 := StrsOk.kept HV5 hb
  have HU6 := StrsOk.kept HU5 hb
  have HA6 := StrsOk.kept HA5 hb
  have HB6 := StrsOk.kept HB5 hb
  have D6 := D5.trans (hb.mono D5.size)
  clear hb D5 HT5 HV5 HU5 HA5 HB5
  go_wp2_with fail
  refine (rLink_any _ l m _ HV6.out (by have := HL.out; omega)).mono ?_
  intro e w7 hg
  obtain ⟨u4, rfl, hu, hb⟩ := hg.strs (linkS_len l m)
  have HE7 := Lib.hid hu
  clear hu hg
  have HT7 := TabOk.kept HT6 hb
  have HV7 := StrsOk.kept HV6 hb
  have HU7 := StrsOk.kept HU6 hb
  have HA7 := StrsOk.kept HA6 hb
  have HB7 := StrsOk.kept HB6 hb
  have HC7 := StrsOk.kept HC6 hb
  have D7 := D6.trans (hb.mono D6.size)
  clear hb D6 HT6 HV6 HU6 HA6 HB6 HC6
  go_wp2_with fail
  refine (pleaf_any _ _ S4.out HT7.out).mono ?_
  rintro e w8 ⟨rfl, hb⟩
  have HT8 := TabOk.kept HT7 hb
  have HV8 := StrsOk.kept HV7 hb
  have HU8 := StrsOk.kept HU7 hb
  have HA8 := StrsOk.kept HA7 hb
  have HB8 := StrsOk.kept HB7 hb
  have HC8 := StrsOk.kept HC7 hb
  have HE8 := StrsOk.kept HE7 hb
  have D8 := D7.trans (hb.mono D7.size)
  clear hb D7 HT7 HV7 HU7 HA7 HB7 HC7 HE7
  go_wp2_with fail
  refine (refleaf_any _ _ S4.out).mono ?_
  rintro e w9 ⟨rfl, hb⟩
  have HT9 := TabOk.kept HT8 hb
  have HV9 := StrsOk.kept HV8 hb
  have HU9 := StrsOk.kept HU8 hb
  have HA9 := StrsOk.kept HA8 hb
  have HB9 := StrsOk.kept HB8 hb
  have HC9 := StrsOk.kept HC8 hb
  have HE9 := StrsOk.kept HE8 hb
  have D9 := D8.trans (hb.mono D8.size)
  clear hb D8 HT8 HV8 HU8 HA8 HB8 HC8 HE8
  go_wp2_with fail
  refine (same_yes _ _ _ _ HA9.out HB9.out).mono ?_
  rintro e w10 ⟨rfl, hb⟩
  have HT10 := TabOk.kept HT9 hb
  have HV10 := StrsOk.kept HV9 hb
  have HU10 := StrsOk.kept HU9 hb
  have HA10 := StrsOk.kept HA9 hb
  have HB10 := StrsOk.kept HB9 hb
  have HC10 := StrsOk.kept HC9 hb
  have HE10 := StrsOk.kept HE9 hb
  have D10 := D9.trans (hb.mono D9.size)
  clear hb D9 HT9 HV9 HU9 HA9 HB9 HC9 HE9
  go_wp2_with fail
  refine (same_yes _ _ _ _ HC10.out HE10.out).mono ?_
  rintro e w11 ⟨rfl, hb⟩
  have HT11 := TabOk.kept HT10 hb
  have HV11 := StrsOk.kept HV10 hb
  have HU11 := StrsOk.kept HU10 hb
  have HC11 := StrsOk.kept HC10 hb
  have HE11 := StrsOk.kept HE10 hb
  have D11 := D10.trans (hb.mono D10.size)
  clear hb D10 HT10 HV10 HU10 HC10 HE10
  go_wp2_with fail
  refine (pcheck_any _ p root s n i _ HU11.out S3.out HT11.out).mono ?_
  rintro e w12 ⟨rfl, hb⟩
  have HT12 := TabOk.kept HT11 hb
  have HV12 := StrsOk.kept HV11 hb
  have HU12 := StrsOk.kept HU11 hb
  have D12 := D11.trans (hb.mono D11.size)
  clear hb D11 HT11 HV11 HU11
  go_wp2_with fail
  refine (refcheck_any _ p root s n i _ HU12.out S3.out).mono ?_
  rintro e w13 ⟨rfl, hb⟩
  have HT13 := TabOk.kept HT12 hb
  have HV13 := StrsOk.kept HV12 hb
  have HU13 := StrsOk.kept HU12 hb
  have D13 := D12.trans (hb.mono D12.size)
  clear hb D12 HT12 HV12 HU12
  go_wp2_with fail
  refine (pcheck_any _ p _ s _ i _ HU13.out S3.out HT13.out).mono ?_
  rintro e w14 ⟨rfl, hb⟩
  have HT14 := TabOk.kept HT13 hb
  have HV14 := StrsOk.kept HV13 hb
  have HU14 := StrsOk.kept HU13 hb
  have D14 := D13.trans (hb.mono D13.size)
  clear hb D13 HT13 HV13 HU13
  go_wp2_with fail
  refine (refcheck_any _ p _ s _ i _ HU14.out S3.out).mono ?_
  rintro e w15 ⟨rfl, hb⟩
  have HT15 := TabOk.kept HT14 hb
  have HV15 := StrsOk.kept HV14 hb
  have HU15 := StrsOk.kept HU14 hb
  have D15 := D14.trans (hb.mono D14.size)
  clear hb D14 HT14 HV14 HU14
  go_wp2_with fail
  refine (pext_any _ p old root m n _ HU15.out S2.out S1.out HT15.out).mono ?_
  rintro e w16 ⟨rfl, hb⟩
  have HT16 := TabOk.kept HT15 hb
  have HV16 := StrsOk.kept HV15 hb
  have HU16 := StrsOk.kept HU15 hb
  have D16 := D15.trans (hb.mono D15.size)
  clear hb D15 HT15 HV15 HU15
  go_wp2_with fail
  refine (refext_any _ p old root m n _ HU16.out S2.out S1.out).mono ?_
  rintro e w17 ⟨rfl, hb⟩
  have HT17 := TabOk.kept HT16 hb
  have HV17 := StrsOk.kept HV16 hb
  have HU17 := StrsOk.kept HU16 hb
  have D17 := D16.trans (hb.mono D16.size)
  clear hb D16 HT16 HV16 HU16
  go_wp2_with fail
  refine (pext_any _ p old _ m _ _ HU17.out S2.out (rootS_size l) HT17.out).mono ?_
  rintro e w18 ⟨rfl, hb⟩
  have HT18 := TabOk.kept HT17 hb
  have HV18 := StrsOk.kept HV17 hb
  have HU18 := StrsOk.kept HU17 hb
  have D18 := D17.trans (hb.mono D17.size)
  clear hb D17 HT17 HV17 HU17
  go_wp2_with fail
  refine (refext_any _ p old _ m _ _ HU18.out S2.out (rootS_size l)).mono ?_
  rintro e w19 ⟨rfl, hb⟩
  have HT19 := TabOk.kept HT18 hb
  have HV19 := StrsOk.kept HV18 hb
  have HU19 := StrsOk.kept HU18 hb
  have D19 := D18.trans (hb.mono D18.size)
  clear hb D18 HT18 HV18 HU18
  go_wp2_with fail
  go_ret
  exact ⟨rfl, D19⟩
theorem walkTreeMatchesReference (v : Value) (l : List ByteArray) (i m n : Int) (root old s : ByteArray) (u : Value) (p : List ByteArray) (w : World) (hv : StrsOk w v l) (hi : (Lit.int .i64 i).wf = true) (hm : (Lit.int .i64 m).wf = true) (hn : (Lit.int .i64 n).wf = true) (hr : root.size ≤ maxLen) (ho : old.size ≤ maxLen) (hs : s.size ≤ maxLen) (hu : StrsOk w u p) (ht : TabOk w) :
    Calls Tryd.prog 3 #[v, .int .i64 i, .int .i64 m, .int .i64 n, .string root, .string old, .string s, u] w fun e w' => e = .returned (.bool true) ∧ Below w.heap.size w w' := by
  have hv' := Lib.hid hv
  have hu' := Lib.hid hu
  have ht' := Lib.hid ht
  by_cases c1 : fewT l = true
  · by_cases c2 : fewT p = true
    · by_cases c3 : 100 < root.size
      · exact walkMatch3 v l i m n root old s u p w hv' hu' ht' c1 c2 c3
      · by_cases c4 : 100 < old.size
        · exact walkMatch4 v l i m n root old s u p w hv' hu' ht' c1 c2 c3 c4
        · by_cases c5 : 100 < s.size
          · exact walkMatch5 v l i m n root old s u p w hv' hu' ht' c1 c2 c3 c4 c5
          · exact walkMatch6 v l i m n root old s u p w hv' hu' ht' c1 c2 c3 c4 c5
    · exact walkMatch2 v l i m n root old s u p w hv' hu' ht' c1 (by simpa using c2)
  · exact walkMatch1 v l i m n root old s u p w hv' hu' ht' (by simpa using c1)
end Go.Proofs.YtbiekbppenccdaaDoor
