/-
  The walk of the statement that lists of one length with one root are equal, or two different texts have one digest.
-/
import Derived.Test.YtbiekbppenccdaaDoorTreeWGrows
import Derived.Test.YtbiekbppenccdaaDoorTreeShown
set_option linter.unusedVariables false
namespace Go.Proofs.YtbiekbppenccdaaDoor
open Go.RowKit
theorem good_few {ss : List ByteArray} (h : fewT ss = true) : goodT ss = digsB ss := by simp [goodT, h]
theorem texts_size {a : List ByteArray} (h : digsB a = true) : ∀ s ∈ textsB a, s.size ≤ 1099511627776 := textsB_size _ a rfl (digsB_small h)
theorem texts_len {a : List ByteArray} (h : a.length ≤ 20) : (textsB a).length ≤ 21 := by have := (textsB_len _ a rfl).1; omega
theorem catS_len {l m : List ByteArray} (hl : l.length ≤ 100) (hm : m.length ≤ 100) : l.length + m.length ≤ 1099511627776 := by omega
theorem roots_differ {a b : List ByteArray} (hl : a.length = b.length) (hn : a ≠ b) (h : rootB a = rootB b) : Shown (textsB a ++ textsB b) := (root_binds _ a b rfl hl.symm h).resolve_left hn
theorem own_shown (B : Nat) (v : Value) (ss : List ByteArray) (w : World) (h : OwnS B w v ss) (hl : ss.length ≤ 549755813888) (hsz : ∀ s ∈ ss, s.size ≤ 1099511627776) (hsh : Shown ss) :
    Calls Tryd.prog 26 #[v] w fun e w' => e = .returned (.bool true) ∧ Below w.heap.size w w' :=
  shown_any v ss w (h.ok (fun s hs => by have := hsz s hs; unfold maxLen; omega)) hl (fun s hs => by have := hsz s hs; omega) hsh
theorem mem_append_size {l m : List ByteArray} {k : Nat} (h1 : ∀ s ∈ l, s.size ≤ k) (h2 : ∀ s ∈ m, s.size ≤ k) : ∀ s ∈ l ++ m, s.size ≤ k := fun s hs => (List.mem_append.1 hs).elim (h1 s) (h2 s)

set_option maxRecDepth 100000 in
set_option maxHeartbeats 2000000 in
theorem walkRoots1 (v : Value) (a : List ByteArray) (u : Value) (b : List ByteArray) (w : World) (hv : Hid (StrsOk w v a)) (hu : Hid (StrsOk w u b)) (ht : Hid (TabOk w)) (h : fewT a = false) :
    Calls Tryd.prog 6 #[v, u] w fun e w' => e = .returned (.bool true) ∧ Below w.heap.size w w' := by
  have FA := Lib.hid h
  clear h
  have HT0 := ht
  have HV0 := hv
  have HU0 := hu
  clear ht hv hu
  have D0 := Below.refl w.heap.size w
  go_enter Tryd.func6, Tryd.ntmps6
  go_wp2_with fail
  refine (thead_any _ HT0.out).mono ?_
  rintro e w1 ⟨rfl, hb⟩
  have HT1 := TabOk.kept HT0 hb
  have HV1 := StrsOk.kept HV0 hb
  have HU1 := StrsOk.kept HU0 hb
  have D1 := D0.trans (hb.mono D0.size)
  clear hb D0 HT0 HV0 HU0
  go_wp2_with fail
  refine (fewT_any _ a _ HV1.out).mono ?_
  rintro e wz ⟨rfl, rfl⟩
  rw [FA.out]
  go_wp2_with fail
  go_ret
  exact ⟨rfl, D1⟩
set_option maxRecDepth 100000 in
set_option maxHeartbeats 2000000 in
theorem walkRoots2 (v : Value) (a : List ByteArray) (u : Value) (b : List ByteArray) (w : World) (hv : Hid (StrsOk w v a)) (hu : Hid (StrsOk w u b)) (ht : Hid (TabOk w)) (h : fewT a = true) (g : fewT b = false) :
    Calls Tryd.prog 6 #[v, u] w fun e w' => e = .returned (.bool true) ∧ Below w.heap.size w w' := by
  have FA := Lib.hid h
  have FB := Lib.hid g
  clear h g
  have HT0 := ht
  have HV0 := hv
  have HU0 := hu
  clear ht hv hu
  have D0 := Below.refl w.heap.size w
  go_enter Tryd.func6, Tryd.ntmps6
  go_wp2_with fail
  refine (thead_any _ HT0.out).mono ?_
  rintro e w1 ⟨rfl, hb⟩
  have HT1 := TabOk.kept HT0 hb
  have HV1 := StrsOk.kept HV0 hb
  have HU1 := StrsOk.kept HU0 hb
  have D1 := D0.trans (hb.mono D0.size)
  clear hb D0 HT0 HV0 HU0
  go_wp2_with fail
  refine (fewT_any _ a _ HV1.out).mono ?_
  rintro e wz ⟨rfl, rfl⟩
  rw [FA.out]
  go_wp2_with fail
  refine (fewT_any _ b _ HU1.out).mono ?_
  rintro e wz ⟨rfl, rfl⟩
  rw [FB.out]
  go_wp2_with fail
  go_ret
  exact ⟨rfl, D1⟩
set_option maxRecDepth 100000 in
set_option maxHeartbeats 2000000 in
theorem walkRoots3 (v : Value) (a : List ByteArray) (u : Value) (b : List ByteArray) (w : World) (hv : Hid (StrsOk w v a)) (hu : Hid (StrsOk w u b)) (ht : Hid (TabOk w)) (h : fewT a = true) (g : fewT b = true) (hl : a.length ≠ b.length) :
    Calls Tryd.prog 6 #[v, u] w fun e w' => e = .returned (.bool true) ∧ Below w.heap.size w w' := by
  have FA := Lib.hid h
  have FB := Lib.hid g
  have t1 : ((a.length : Int) == (b.length : Int)) = false := beq_eq_false_iff_ne.2 (by omega)
  have t2 : ((a.length : Int) != (b.length : Int)) = true := by simp; omega
  clear h g hl
  have HT0 := ht
  have HV0 := hv
  have HU0 := hu
  clear ht hv hu
  have D0 := Below.refl w.heap.size w
  obtain ⟨va, vcap, rfl, vc1, vc2⟩ := HV0.out.room
  obtain ⟨ua, ucap, rfl, uc1, uc2⟩ := HU0.out.room
  go_enter Tryd.func6, Tryd.ntmps6
  go_wp2_with fail
  refine (thead_any _ HT0.out).mono ?_
  rintro e w1 ⟨rfl, hb⟩
  have HT1 := TabOk.kept HT0 hb
  have HV1 := StrsOk.kept HV0 hb
  have HU1 := StrsOk.kept HU0 hb
  have D1 := D0.trans (hb.mono D0.size)
  clear hb D0 HT0 HV0 HU0
  go_wp2_with fail
  refine (fewT_any _ a _ HV1.out).mono ?_
  rintro e wz ⟨rfl, rfl⟩
  rw [FA.out]
  go_wp2_with fail
  refine (fewT_any _ b _ HU1.out).mono ?_
  rintro e wz ⟨rfl, rfl⟩
  rw [FB.out]
  go_wp2_with fail
  go_ret
  exact ⟨rfl, D1⟩
set_option maxRecDepth 100000 in
set_option maxHeartbeats 2000000 in
theorem walkRoots4 (v : Value) (a : List ByteArray) (u : Value) (b : List ByteArray) (w : World) (hv : Hid (StrsOk w v a)) (hu : Hid (StrsOk w u b)) (ht : Hid (TabOk w)) (h : fewT a = true) (g : fewT b = true) (hl : a.length = b.length) (da : digsB a = false) (db : digsB b = false) :
    Calls Tryd.prog 6 #[v, u] w fun e w' => e = .returned (.bool true) ∧ Below w.heap.size w w' := by
  have FA := Lib.hid h
  have FB := Lib.hid g
  have LA := Lib.hid (fewT_len h)
  have LB := Lib.hid (fewT_len g)
  have GA := Lib.hid (good_few h)
  have GB := Lib.hid (good_few g)
  have LL := Lib.hid hl
  have t1 : ((a.length : Int) != (b.length : Int)) = false := by simp; omega
  have DA := Lib.hid da
  have DB := Lib.hid db
  clear h g hl da db
  have HT0 := ht
  have HV0 := hv
  have HU0 := hu
  clear ht hv hu
  have D0 := Below.refl w.heap.size w
  obtain ⟨va, vcap, rfl, vc1, vc2⟩ := HV0.out.room
  obtain ⟨ua, ucap, rfl, uc1, uc2⟩ := HU0.out.room
  go_enter Tryd.func6, Tryd.ntmps6
  go_wp2_with fail
  refine (thead_any _ HT0.out).mono ?_
  rintro e w1 ⟨rfl, hb⟩
  have HT1 := TabOk.kept HT0 hb
  have HV1 := StrsOk.kept HV0 hb
  have HU1 := StrsOk.kept HU0 hb
  have D1 := D0.trans (hb.mono D0.size)
  clear hb D0 HT0 HV0 HU0
  go_wp2_with fail
  refine (fewT_any _ a _ HV1.out).mono ?_
  rintro e wz ⟨rfl, rfl⟩
  rw [FA.out]
  go_wp2_with fail
  refine (fewT_any _ b _ HU1.out).mono ?_
  rintro e wz ⟨rfl, rfl⟩
  rw [FB.out]
  go_wp2_with fail
  refine (pRoot_no _ a _ HV1.out (by have := LA.out; omega) DA.out).mono ?_
  rintro e wz ⟨rfl, rfl⟩
  go_wp2_with fail
  refine (pRoot_no _ b _ HU1.out (by have := LB.out; omega) DB.out).mono ?_
  rintro e wz ⟨rfl, rfl⟩
  go_wp2_with fail
  refine (good_any _ a _ HV1.out).mono ?_
  rintro e wz ⟨rfl, rfl⟩
  rw [GA.out, DA.out]
  go_wp2_with fail
  refine (good_any _ b _ HU1.out).mono ?_
  rintro e wz ⟨rfl, rfl⟩
  rw [GB.out, DB.out]
  go_wp2_with fail
  go_ret
  exact ⟨rfl, D1⟩
set_option maxRecDepth 100000 in
set_option maxHeartbeats 2000000 in
theorem walkRoots5 (v : Value) (a : List ByteArray) (u : Value) (b : List ByteArray) (w : World) (hv : Hid (StrsOk w v a)) (hu : Hid (StrsOk w u b)) (ht : Hid (TabOk w)) (h : fewT a = true) (g : fewT b = true) (hl : a.length = b.length) (da : digsB a = false) (db : digsB b = true) :
    Calls Tryd.prog 6 #[v, u] w fun e w' => e = .returned (.bool true) ∧ Below w.heap.size w w' := by
  have FA := Lib.hid h
  have FB := Lib.hid g
  have LA := Lib.hid (fewT_len h)
  have LB := Lib.hid (fewT_len g)
  have GA := Lib.hid (good_few h)
  have GB := Lib.hid (good_few g)
  have LL := Lib.hid hl
  have t1 : ((a.length : Int) != (b.length : Int)) = false := by simp; omega
  have DA := Lib.hid da
  have DB := Lib.hid db
  clear h g hl da db
  have HT0 := ht
  have HV0 := hv
  have HU0 := hu
  clear ht hv hu
  have D0 := Below.refl w.heap.size w
  obtain ⟨va, vcap, rfl, vc1, vc2⟩ := HV0.out.room
  obtain ⟨ua, ucap, rfl, uc1, uc2⟩ := HU0.out.room
  go_enter Tryd.func6, Tryd.ntmps6
  go_wp2_with fail
  refine (thead_any _ HT0.out).mono ?_
  rintro e w1 ⟨rfl, hb⟩
  have HT1 := TabOk.kept HT0 hb
  have HV1 := StrsOk.kept HV0 hb
  have HU1 := StrsOk.kept HU0 hb
  have D1 := D0.trans (hb.mono D0.size)
  clear hb D0 HT0 HV0 HU0
  go_wp2_with fail
  refine (fewT_any _ a _ HV1.out).mono ?_
  rintro e wz ⟨rfl, rfl⟩
  rw [FA.out]
  go_wp2_with fail
  refine (fewT_any _ b _ HU1.out).mono ?_
  rintro e wz ⟨rfl, rfl⟩
  rw [FB.out]
  go_wp2_with fail
  refine (pRoot_no _ a _ HV1.out (by have := LA.out; omega) DA.out).mono ?_
  rintro e wz ⟨rfl, rfl⟩
  go_wp2_with fail
  refine (pRoot_ok _ b _ HU1.out (by have := LB.out; omega) DB.out HT1.out).mono ?_
  rintro e w2 ⟨rfl, hb⟩
  have HT2 := TabOk.kept HT1 hb
  have HV2 := StrsOk.kept HV1 hb
  have HU2 := StrsOk.kept HU1 hb
  have D2 := D1.trans (hb.mono D1.size)
  clear hb D1 HT1 HV1 HU1
  go_wp2_with fail
  refine (good_any _ a _ HV2.out).mono ?_
  rintro e wz ⟨rfl, rfl⟩
  rw [GA.out, DA.out]
  go_wp2_with fail
  refine (good_any _ b _ HU2.out).mono ?_
  rintro e wz ⟨rfl, rfl⟩
  rw [GB.out, DB.out]
  go_wp2_with fail
  go_ret
  exact ⟨rfl, D2⟩
set_option maxRecDepth 100000 in
set_option maxHeartbeats 2000000 in
theorem walkRoots6 (v : Value) (a : List ByteArray) (u : Value) (b : List ByteArray) (w : World) (hv : Hid (StrsOk w v a)) (hu : Hid (StrsOk w u b)) (ht : Hid (TabOk w)) (h : fewT a = true) (g : fewT b = true) (hl : a.length = b.length) (da : digsB a = true) (db : digsB b = false) :
    Calls Tryd.prog 6 #[v, u] w fun e w' => e = .returned (.bool true) ∧ Below w.heap.size w w' := by
  have FA := Lib.hid h
  have FB := Lib.hid g
  have LA := Lib.hid (fewT_len h)
  have LB := Lib.hid (fewT_len g)
  have GA := Lib.hid (good_few h)
  have GB := Lib.hid (good_few g)
  have LL := Lib.hid hl
  have t1 : ((a.length : Int) != (b.length : Int)) = false := by simp; omega
  have DA := Lib.hid da
  have DB := Lib.hid db
  clear h g hl da db
  have HT0 := ht
  have HV0 := hv
  have HU0 := hu
  clear ht hv hu
  have D0 := Below.refl w.heap.size w
  obtain ⟨va, vcap, rfl, vc1, vc2⟩ := HV0.out.room
  obtain ⟨ua, ucap, rfl, uc1, uc2⟩ := HU0.out.room
  go_enter Tryd.func6, Tryd.ntmps6
  go_wp2_with fail
  refine (thead_any _ HT0.out).mono ?_
  rintro e w1 ⟨rfl, hb⟩
  have HT1 := TabOk.kept HT0 hb
  have HV1 := StrsOk.kept HV0 hb
  have HU1 := StrsOk.kept HU0 hb
  have D1 := D0.trans (hb.mono D0.size)
  clear hb D0 HT0 HV0 HU0
  go_wp2_with fail
  refine (fewT_any _ a _ HV1.out).mono ?_
  rintro e wz ⟨rfl, rfl⟩
  rw [FA.out]
  go_wp2_with fail
  refine (fewT_any _ b _ HU1.out).mono ?_
  rintro e wz ⟨rfl, rfl⟩
  rw [FB.out]
  go_wp2_with fail
  refine (pRoot_ok _ a _ HV1.out (by have := LA.out; omega) DA.out HT1.out).mono ?_
  rintro e w2 ⟨rfl, hb⟩
  have HT2 := TabOk.kept HT1 hb
  have HV2 := StrsOk.kept HV1 hb
  have HU2 := StrsOk.kept HU1 hb
  have D2 := D1.trans (hb.mono D1.size)
  clear hb D1 HT1 HV1 HU1
  go_wp2_with fail
  refine (pRoot_no _ b _ HU2.out (by have := LB.out; omega) DB.out).mono ?_
  rintro e wz ⟨rfl, rfl⟩
  go_wp2_with fail
  refine (good_any _ a _ HV2.out).mono ?_
  rintro e wz ⟨rfl, rfl⟩
  rw [GA.out, DA.out]
  go_wp2_with fail
  refine (good_any _ b _ HU2.out).mono ?_
  rintro e wz ⟨rfl, rfl⟩
  rw [GB.out, DB.out]
  go_wp2_with fail
  go_ret
  exact ⟨rfl, D2⟩
set_option maxRecDepth 100000 in
set_option maxHeartbeats 2000000 in
theorem walkRoots7 (v : Value) (a : List ByteArray) (u : Value) (b : List ByteArray) (w : World) (hv : Hid (StrsOk w v a)) (hu : Hid (StrsOk w u b)) (ht : Hid (TabOk w)) (h : fewT a = true) (g : fewT b = true) (hl : a.length = b.length) (da : digsB a = true) (db : digsB b = true) (hab : Hid (b = a)) :
    Calls Tryd.prog 6 #[v, u] w fun e w' => e = .returned (.bool true) ∧ Below w.heap.size w w' := by
  have FA := Lib.hid h
  have FB := Lib.hid g
  have LA := Lib.hid (fewT_len h)
  have LB := Lib.hid (fewT_len g)
  have GA := Lib.hid (good_few h)
  have GB := Lib.hid (good_few g)
  have LL := Lib.hid hl
  have t1 : ((a.length : Int) != (b.length : Int)) = false := by simp; omega
  have DA := Lib.hid da
  have DB := Lib.hid db
  clear h g hl da db
  have HT0 := ht
  have HV0 := hv
  have HU0 := hu
  clear ht hv hu
  have D0 := Below.refl w.heap.size w
  obtain ⟨va, vcap, rfl, vc1, vc2⟩ := HV0.out.room
  obtain ⟨ua, ucap, rfl, uc1, uc2⟩ := HU0.out.room
  go_enter Tryd.func6, Tryd.ntmps6
  go_wp2_with fail
  refine (thead_any _ HT0.out).mono ?_
  rintro e w1 ⟨rfl, hb⟩
  have HT1 := TabOk.kept HT0 hb
  have HV1 := StrsOk.kept HV0 hb
  have HU1 := StrsOk.kept HU0 hb
  have D1 := D0.trans (hb.mono D0.size)
  clear hb D0 HT0 HV0 HU0
  go_wp2_with fail
  refine (fewT_any _ a _ HV1.out).mono ?_
  rintro e wz ⟨rfl, rfl⟩
  rw [FA.out]
  go_wp2_with fail
  refine (fewT_any _ b _ HU1.out).mono ?_
  rintro e wz ⟨rfl, rfl⟩
  rw [FB.out]
  go_wp2_with fail
  refine (pRoot_ok _ a _ HV1.out (by have := LA.out; omega) DA.out HT1.out).mono ?_
  rintro e w2 ⟨rfl, hb⟩
  have HT2 := TabOk.kept HT1 hb
  have HV2 := StrsOk.kept HV1 hb
  have HU2 := StrsOk.kept HU1 hb
  have D2 := D1.trans (hb.mono D1.size)
  clear hb D1 HT1 HV1 HU1
  go_wp2_with fail
  refine (pRoot_ok _ b _ HU2.out (by have := LB.out; omega) DB.out HT2.out).mono ?_
  rintro e w3 ⟨rfl, hb⟩
  have HT3 := TabOk.kept HT2 hb
  have HV3 := StrsOk.kept HV2 hb
  have HU3 := StrsOk.kept HU2 hb
  have D3 := D2.trans (hb.mono D2.size)
  clear hb D2 HT2 HV2 HU2
  go_wp2_with fail
  refine (good_any _ a _ HV3.out).mono ?_
  rintro e wz ⟨rfl, rfl⟩
  rw [GA.out, DA.out]
  go_wp2_with fail
  refine (good_any _ b _ HU3.out).mono ?_
  rintro e wz ⟨rfl, rfl⟩
  rw [GB.out, DB.out]
  go_wp2_with fail
  refine (same_yes _ _ a _ HV3.out (hab.out ▸ HU3.out)).mono ?_
  rintro e w4 ⟨rfl, hb⟩
  have HT4 := TabOk.kept HT3 hb
  have HV4 := StrsOk.kept HV3 hb
  have HU4 := StrsOk.kept HU3 hb
  have D4 := D3.trans (hb.mono D3.size)
  clear hb D3 HT3 HV3 HU3
  have q1 : ((rootB a).toList == (rootB b).toList) = true := by rw [str_beq]; exact decide_eq_true (by rw [hab.out])
  go_wp2_with fail
  go_ret
  exact ⟨rfl, D4⟩
set_option maxRecDepth 100000 in
set_option maxHeartbeats 2000000 in
theorem walkRoots8 (v : Value) (a : List ByteArray) (u : Value) (b : List ByteArray) (w : World) (hv : Hid (StrsOk w v a)) (hu : Hid (StrsOk w u b)) (ht : Hid (TabOk w)) (h : fewT a = true) (g : fewT b = true) (hl : a.length = b.length) (da : digsB a = true) (db : digsB b = true) (hne : Hid (a ≠ b)) (hxy : ((rootB a).toList == (rootB b).toList) = false) :
    Calls Tryd.prog 6 #[v, u] w fun e w' => e = .returned (.bool true) ∧ Below w.heap.size w w' := by
  have FA := Lib.hid h
  have FB := Lib.hid g
  have LA := Lib.hid (fewT_len h)
  have LB := Lib.hid (fewT_len g)
  have GA := Lib.hid (good_few h)
  have GB := Lib.hid (good_few g)
  have LL := Lib.hid hl
  have t1 : ((a.length : Int) != (b.length : Int)) = false := by simp; omega
  have DA := Lib.hid da
  have DB := Lib.hid db
  clear h g hl da db
  have HT0 := ht
  have HV0 := hv
  have HU0 := hu
  clear ht hv hu
  have D0 := Below.refl w.heap.size w
  obtain ⟨va, vcap, rfl, vc1, vc2⟩ := HV0.out.room
  obtain ⟨ua, ucap, rfl, uc1, uc2⟩ := HU0.out.room
  go_enter Tryd.func6, Tryd.ntmps6
  go_wp2_with fail
  refine (thead_any _ HT0.out).mono ?_
  rintro e w1 ⟨rfl, hb⟩
  have HT1 := TabOk.kept HT0 hb
  have HV1 := StrsOk.kept HV0 hb
  have HU1 := StrsOk.kept HU0 hb
  have D1 := D0.trans (hb.mono D0.size)
  clear hb D0 HT0 HV0 HU0
  go_wp2_with fail
  refine (fewT_any _ a _ HV1.out).mono ?_
  rintro e wz ⟨rfl, rfl⟩
  rw [FA.out]
  go_wp2_with fail
  refine (fewT_any _ b _ HU1.out).mono ?_
  rintro e wz ⟨rfl, rfl⟩
  rw [FB.out]
  go_wp2_with fail
  refine (pRoot_ok _ a _ HV1.out (by have := LA.out; omega) DA.out HT1.out).mono ?_
  rintro e w2 ⟨rfl, hb⟩
  have HT2 := TabOk.kept HT1 hb
  have HV2 := StrsOk.kept HV1 hb
  have HU2 := StrsOk.kept HU1 hb
  have D2 := D1.trans (hb.mono D1.size)
  clear hb D1 HT1 HV1 HU1
  go_wp2_with fail
  refine (pRoot_ok _ b _ HU2.out (by have := LB.out; omega) DB.out HT2.out).mono ?_
  rintro e w3 ⟨rfl, hb⟩
  have HT3 := TabOk.kept HT2 hb
  have HV3 := StrsOk.kept HV2 hb
  have HU3 := StrsOk.kept HU2 hb
  have D3 := D2.trans (hb.mono D2.size)
  clear hb D2 HT2 HV2 HU2
  go_wp2_with fail
  refine (good_any _ a _ HV3.out).mono ?_
  rintro e wz ⟨rfl, rfl⟩
  rw [GA.out, DA.out]
  go_wp2_with fail
  refine (good_any _ b _ HU3.out).mono ?_
  rintro e wz ⟨rfl, rfl⟩
  rw [GB.out, DB.out]
  go_wp2_with fail
  refine (same_ok _ _ a b _ HV3.out HU3.out).mono ?_
  rintro e w4 ⟨rfl, hb⟩
  have HT4 := TabOk.kept HT3 hb
  have HV4 := StrsOk.kept HV3 hb
  have HU4 := StrsOk.kept HU3 hb
  have D4 := D3.trans (hb.mono D3.size)
  clear hb D3 HT3 HV3 HU3
  rw [show sameB a b = false from decide_eq_false hne.out]
  have q1 := hxy
  go_wp2_with fail
  go_ret
  exact ⟨rfl, D4⟩
set_option maxRecDepth 100000 in
set_option maxHeartbeats 2000000 in
theorem walkRoots9 (v : Value) (a : List ByteArray) (u : Value) (b : List ByteArray) (w : World) (hv : Hid (StrsOk w v a)) (hu : Hid (StrsOk w u b)) (ht : Hid (TabOk w)) (h : fewT a = true) (g : fewT b = true) (hl : a.length = b.length) (da : digsB a = true) (db : digsB b = true) (hne : Hid (a ≠ b)) (heq : Hid (rootB a = rootB b)) (hxy : ((rootB a).toList == (rootB b).toList) = true) :
    Calls Tryd.prog 6 #[v, u] w fun e w' => e = .returned (.bool true) ∧ Below w.heap.size w w' := by
  have FA := Lib.hid h
  have FB := Lib.hid g
  have LA := Lib.hid (fewT_len h)
  have LB := Lib.hid (fewT_len g)
  have GA := Lib.hid (good_few h)
  have GB := Lib.hid (good_few g)
  have LL := Lib.hid hl
  have t1 : ((a.length : Int) != (b.length : Int)) = false := by simp; omega
  have DA := Lib.hid da
  have DB := Lib.hid db
  clear h g hl da db
  have HT0 := ht
  have HV0 := hv
  have HU0 := hu
  clear ht hv hu
  have D0 := Below.refl w.heap.size w
  obtain ⟨va, vcap, rfl, vc1, vc2⟩ := HV0.out.room
  obtain ⟨ua, ucap, rfl, uc1, uc2⟩ := HU0.out.room
  go_enter Tryd.func6, Tryd.ntmps6
  go_wp2_with fail
  refine (thead_any _ HT0.out).mono ?_
  rintro e w1 ⟨rfl, hb⟩
  have HT1 := TabOk.kept HT0 hb
  have HV1 := StrsOk.kept HV0 hb
  have HU1 := StrsOk.kept HU0 hb
  have D1 := D0.trans (hb.mono D0.size)
  clear hb D0 HT0 HV0 HU0
  go_wp2_with fail
  refine (fewT_any _ a _ HV1.out).mono ?_
  rintro e wz ⟨rfl, rfl⟩
  rw [FA.out]
  go_wp2_with fail
  refine (fewT_any _ b _ HU1.out).mono ?_
  rintro e wz ⟨rfl, rfl⟩
  rw [FB.out]
  go_wp2_with fail
  refine (pRoot_ok _ a _ HV1.out (by have := LA.out; omega) DA.out HT1.out).mono ?_
  rintro e w2 ⟨rfl, hb⟩
  have HT2 := TabOk.kept HT1 hb
  have HV2 := StrsOk.kept HV1 hb
  have HU2 := StrsOk.kept HU1 hb
  have D2 := D1.trans (hb.mono D1.size)
  clear hb D1 HT1 HV1 HU1
  go_wp2_with fail
  refine (pRoot_ok _ b _ HU2.out (by have := LB.out; omega) DB.out HT2.out).mono ?_
  rintro e w3 ⟨rfl, hb⟩
  have HT3 := TabOk.kept HT2 hb
  have HV3 := StrsOk.kept HV2 hb
  have HU3 := StrsOk.kept HU2 hb
  have D3 := D2.trans (hb.mono D2.size)
  clear hb D2 HT2 HV2 HU2
  go_wp2_with fail
  refine (good_any _ a _ HV3.out).mono ?_
  rintro e wz ⟨rfl, rfl⟩
  rw [GA.out, DA.out]
  go_wp2_with fail
  refine (good_any _ b _ HU3.out).mono ?_
  rintro e wz ⟨rfl, rfl⟩
  rw [GB.out, DB.out]
  go_wp2_with fail
  refine (same_ok _ _ a b _ HV3.out HU3.out).mono ?_
  rintro e w4 ⟨rfl, hb⟩
  have HT4 := TabOk.kept HT3 hb
  have HV4 := StrsOk.kept HV3 hb
  have HU4 := StrsOk.kept HU3 hb
  have D4 := D3.trans (hb.mono D3.size)
  clear hb D3 HT3 HV3 HU3
  rw [show sameB a b = false from decide_eq_false hne.out]
  have q1 := hxy
  go_wp2_with fail
  refine (reftexts_any _ a _ _ rfl (by have := LA.out; omega) (digsB_small DA.out) HV4.out).mono ?_
  rintro e w5 ⟨p1, rfl, hp1, hb⟩
  have HT5 := TabOk.kept HT4 hb
  have HV5 := StrsOk.kept HV4 hb
  have HU5 := StrsOk.kept HU4 hb
  have D5 := D4.trans (hb.mono D4.size)
  have b5 := hb
  clear hb HT4 HV4 HU4
  go_wp2_with fail
  refine (reftexts_any _ b _ _ rfl (by have := LB.out; omega) (digsB_small DB.out) HU5.out).mono ?_
  rintro e w6 ⟨p2, rfl, hp2, hb⟩
  have HT6 := TabOk.kept HT5 hb
  have HV6 := StrsOk.kept HV5 hb
  have HU6 := StrsOk.kept HU5 hb
  have D6 := D5.trans (hb.mono D5.size)
  have b6 := hb
  clear hb HT5 HV5 HU5
  have hbase := D4.size
  go_wp2_with (at_builtin; refine wpList_cat_if _ (by rfl) _ _ rfl w.heap.size _ _ _ (textsB a) (textsB b) rfl rfl ((hp1.mono hbase).below b6) hp2 (catS_len (Nat.le_trans (texts_len LA.out) (by omega)) (Nat.le_trans (texts_len LB.out) (by omega))) D6.size ?_)
  intro v9 w9 hown9 hgrow9
  have D9 := below_append D6 (hp1.mono hbase) hgrow9
  go_wp2_with fail
  refine (own_shown _ _ _ _ hown9 (by rw [List.length_append]; have := texts_len LA.out; have := texts_len LB.out; omega) (mem_append_size (texts_size DA.out) (texts_size DB.out)) (roots_differ LL.out hne.out heq.out)).mono ?_
  rintro e w10 ⟨rfl, hb10⟩
  have D10 := D9.trans (hb10.mono D9.size)
  go_wp2_with fail
  go_ret
  exact ⟨rfl, D10⟩
theorem walkTreeRoots (v : Value) (a : List ByteArray) (u : Value) (b : List ByteArray) (w : World) (hv' : StrsOk w v a) (hu' : StrsOk w u b) (ht' : TabOk w) :
    Calls Tryd.prog 6 #[v, u] w fun e w' => e = .returned (.bool true) ∧ Below w.heap.size w w' := by
  have hv := Lib.hid hv'
  have hu := Lib.hid hu'
  have ht := Lib.hid ht'
  have tr : ∀ {b : Bool}, ¬ b = true → b = false := fun h => by simpa using h
  by_cases c1 : fewT a = true
  · by_cases c2 : fewT b = true
    · by_cases c3 : a.length = b.length
      · by_cases c4 : digsB a = true
        · by_cases c5 : digsB b = true
          · by_cases c6 : a = b
            · exact walkRoots7 v a u b w hv hu ht c1 c2 c3 c4 c5 (Lib.hid c6.symm)
            · by_cases c7 : rootB a = rootB b
              · exact walkRoots9 v a u b w hv hu ht c1 c2 c3 c4 c5 (Lib.hid c6) (Lib.hid c7) (by rw [str_beq]; exact decide_eq_true c7)
              · exact walkRoots8 v a u b w hv hu ht c1 c2 c3 c4 c5 (Lib.hid c6) (by rw [str_beq]; exact decide_eq_false c7)
          · exact walkRoots6 v a u b w hv hu ht c1 c2 c3 c4 (tr c5)
        · by_cases c5 : digsB b = true
          · exact walkRoots5 v a u b w hv hu ht c1 c2 c3 (tr c4) c5
          · exact walkRoots4 v a u b w hv hu ht c1 c2 c3 (tr c4) (tr c5)
      · exact walkRoots3 v a u b w hv hu ht c1 c2 c3
    · exact walkRoots2 v a u b w hv hu ht c1 (tr c2)
  · exact walkRoots1 v a u b w hv hu ht (tr c1)
end Go.Proofs.YtbiekbppenccdaaDoor
