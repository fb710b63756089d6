/-
  The check of the chapter's examples in the statements of layer 2: it returns true.
-/
import Derived.Test.YtbiekbppenccdaaDoorTreeLaw
set_option linter.unusedVariables false
namespace Go.Proofs.YtbiekbppenccdaaDoor
open Go.RowKit
theorem lit1_ok (w : World) (a : ByteArray) (ha : a.size ≤ maxLen) : StrsOk (w.alloc (Obj.cells #[Value.string a] 9)) (.slice (some ⟨w.heap.size, 0, none⟩) 1 1) [a] :=
  ⟨one_at w a, by simp [maxLen], (by intro s h; simp only [List.mem_cons, List.not_mem_nil, or_false] at h; subst h; assumption), _, _, rfl, by simp, by simp [maxLen]⟩
theorem lit3_ok (w : World) (a b c : ByteArray) (ha : a.size ≤ maxLen) (hb : b.size ≤ maxLen) (hc : c.size ≤ maxLen) : StrsOk (w.alloc (Obj.cells #[Value.string a, Value.string b, Value.string c] 9)) (.slice (some ⟨w.heap.size, 0, none⟩) 3 3) [a, b, c] :=
  ⟨lit3_at w a b c, by simp [maxLen], (by intro s h; simp only [List.mem_cons, List.not_mem_nil, or_false] at h; rcases h with rfl | rfl | rfl <;> assumption), _, _, rfl, by simp, by simp [maxLen]⟩
theorem same_ok (v u : Value) (ss tt : List ByteArray) (w : World) (h : StrsOk w v ss) (g : StrsOk w u tt) :
    Calls Tryd.prog 19 #[v, u] w fun e w' => e = .returned (.bool (sameB ss tt)) ∧ Below w.heap.size w w' := by
  refine (same_any v u ss tt w h.at_ g.at_ h.len g.len).mono ?_
  rintro e w' ⟨rfl, n, rfl⟩
  exact ⟨rfl, below_dn w n⟩
theorem same_yes (v u : Value) (ss : List ByteArray) (w : World) (h : StrsOk w v ss) (g : StrsOk w u ss) :
    Calls Tryd.prog 19 #[v, u] w fun e w' => e = .returned (.bool true) ∧ Below w.heap.size w w' := by
  refine (same_ok v u ss ss w h g).mono ?_
  rintro e w' ⟨rfl, hb⟩
  exact ⟨by simp [sameB], hb⟩
theorem dig_len {s : ByteArray} (h : isB s = true) : s.size ≤ maxLen := by have := isB_size h; unfold maxLen; omega
theorem dig_small {s : ByteArray} (h : isB s = true) : s.size ≤ 2147483648 := by have := isB_size h; omega
theorem GivesE.ok {ss : List ByteArray} {ok : Bool} {w : World} {e : Ending} {w' : World} (h : GivesE ss ok w e w') (hs : ∀ s ∈ ss, s.size ≤ maxLen) : ∃ u, e = .returned (.tuple #[u, .int .i64 (errN ok)]) ∧ StrsOk w' u ss ∧ Below w.heap.size w w' := by
  obtain ⟨u, h1, h2, h3⟩ := h
  exact ⟨u, h1, h2.ok hs, h3⟩
/-- what the check's calls answer, by the names of its variables -/
structure Names (A B C AB R : ByteArray) : Prop where
  t : Three A B C
  hA : A = leafB ⟨#[97]⟩
  hB : B = leafB ⟨#[98]⟩
  hC : C = leafB ⟨#[99]⟩
  hAB : AB = nodeB A B
  hR : R = nodeB AB C
variable {A B C AB R : ByteArray}
theorem Names.ab (n : Names A B C AB R) : isB AB = true := by rw [n.hAB]; exact isB_node _ _
theorem Names.r (n : Names A B C AB R) : isB R = true := by rw [n.hR]; exact isB_node _ _
theorem hd_a (n : Names A B C AB R) (w : World) (ht : TabOk w) : Calls Tryd.prog 17 #[.string ⟨#[97]⟩] w fun e w' => e = .returned (.string A) ∧ Below w.heap.size w w' := by rw [n.hA]; exact pleaf_any _ w (by decide) ht
theorem hd_b (n : Names A B C AB R) (w : World) (ht : TabOk w) : Calls Tryd.prog 17 #[.string ⟨#[98]⟩] w fun e w' => e = .returned (.string B) ∧ Below w.heap.size w w' := by rw [n.hB]; exact pleaf_any _ w (by decide) ht
theorem hd_c (n : Names A B C AB R) (w : World) (ht : TabOk w) : Calls Tryd.prog 17 #[.string ⟨#[99]⟩] w fun e w' => e = .returned (.string C) ∧ Below w.heap.size w w' := by rw [n.hC]; exact pleaf_any _ w (by decide) ht
theorem hd_path (n : Names A B C AB R) (v : Value) (i : Int) (ss : List ByteArray) (w : World) (h : StrsOk w v [A, B, C]) (ht : TabOk w) (h1 : pathS [A, B, C] i = ss) (h2 : pathOk [A, B, C] i = true) (hs : ∀ s ∈ ss, s.size ≤ maxLen) :
    Calls Tryd.prog 13 #[v, .int .i64 i] w fun e w' => ∃ u, e = .returned (.tuple #[u, .int .i64 0]) ∧ StrsOk w' u ss ∧ Below w.heap.size w w' := by
  refine (pPath_any v [A, B, C] i w h (by simp) ht).mono ?_
  intro e w' g
  rw [h1, h2] at g
  exact g.ok hs
theorem hd_link (n : Names A B C AB R) (v : Value) (i : Int) (ss : List ByteArray) (w : World) (h : StrsOk w v [A, B, C]) (ht : TabOk w) (h1 : linkS [A, B, C] i = ss) (h2 : linkOk [A, B, C] i = true) (hs : ∀ s ∈ ss, s.size ≤ maxLen) :
    Calls Tryd.prog 15 #[v, .int .i64 i] w fun e w' => ∃ u, e = .returned (.tuple #[u, .int .i64 0]) ∧ StrsOk w' u ss ∧ Below w.heap.size w w' := by
  refine (pLink_any v [A, B, C] i w h (by simp) ht).mono ?_
  intro e w' g
  rw [h1, h2] at g
  exact g.ok hs
theorem hd_p2 (n : Names A B C AB R) (v : Value) (w : World) (h : StrsOk w v [A, B, C]) (ht : TabOk w) :
    Calls Tryd.prog 13 #[v, .int .i64 2] w fun e w' => ∃ u, e = .returned (.tuple #[u, .int .i64 0]) ∧ StrsOk w' u [AB] ∧ Below w.heap.size w w' :=
  hd_path n v 2 _ w h ht (by rw [n.t.p2, n.hAB]) n.t.p2k (by intro s hs; simp only [List.mem_cons, List.not_mem_nil, or_false] at hs; subst hs; exact dig_len n.ab)
theorem hd_p0 (n : Names A B C AB R) (v : Value) (w : World) (h : StrsOk w v [A, B, C]) (ht : TabOk w) :
    Calls Tryd.prog 13 #[v, .int .i64 0] w fun e w' => ∃ u, e = .returned (.tuple #[u, .int .i64 0]) ∧ StrsOk w' u [B, C] ∧ Below w.heap.size w w' :=
  hd_path n v 0 _ w h ht n.t.p0 n.t.p0k (by intro s hs; simp only [List.mem_cons, List.not_mem_nil, or_false] at hs; rcases hs with rfl | rfl; exact dig_len n.t.b; exact dig_len n.t.c)
theorem hd_p3 (n : Names A B C AB R) (v : Value) (w : World) (h : StrsOk w v [A, B, C]) (ht : TabOk w) :
    Calls Tryd.prog 13 #[v, .int .i64 3] w fun e w' => ∃ u, e = .returned (.tuple #[u, .int .i64 1]) ∧ Below w.heap.size w w' := by
  refine (pPath_any v [A, B, C] 3 w h (by simp) ht).mono ?_
  rintro e w' ⟨u, h1, h2, h3⟩
  rw [n.t.p3k] at h1
  exact ⟨u, h1, h3⟩
theorem hd_l2 (n : Names A B C AB R) (v : Value) (w : World) (h : StrsOk w v [A, B, C]) (ht : TabOk w) :
    Calls Tryd.prog 15 #[v, .int .i64 2] w fun e w' => ∃ u, e = .returned (.tuple #[u, .int .i64 0]) ∧ StrsOk w' u [C] ∧ Below w.heap.size w w' :=
  hd_link n v 2 _ w h ht n.t.l2 n.t.l2k (by intro s hs; simp only [List.mem_cons, List.not_mem_nil, or_false] at hs; subst hs; exact dig_len n.t.c)
theorem hd_l1 (n : Names A B C AB R) (v : Value) (w : World) (h : StrsOk w v [A, B, C]) (ht : TabOk w) :
    Calls Tryd.prog 15 #[v, .int .i64 1] w fun e w' => ∃ u, e = .returned (.tuple #[u, .int .i64 0]) ∧ StrsOk w' u [B, C] ∧ Below w.heap.size w w' :=
  hd_link n v 1 _ w h ht n.t.l1 n.t.l1k (by intro s hs; simp only [List.mem_cons, List.not_mem_nil, or_false] at hs; rcases hs with rfl | rfl; exact dig_len n.t.b; exact dig_len n.t.c)
theorem isB_x : isB ⟨#[120]⟩ = false := by decide +kernel
theorem hd_x (v : Value) (w : World) (h : StrsOk w v [⟨#[120]⟩]) (ht : TabOk w) :
    Calls Tryd.prog 11 #[v] w fun e w' => ∃ s, e = .returned (.tuple #[.string s, .int .i64 1]) ∧ Below w.heap.size w w' := by
  refine (pRoot_any v _ w h (by simp) ht).mono ?_
  rintro e w' ⟨rfl, hb⟩
  have : digsB [⟨#[120]⟩] = false := by simp [digsB, isB_x]
  exact ⟨_, by rw [this]; rfl, hb⟩
theorem hd_node (n : Names A B C AB R) (v : Value) (w : World) (h : StrsOk w v [kNode, A, B]) (ht : TabOk w) :
    Calls Tryd.prog 30 #[v] w fun e w' => e = .returned (.string AB) ∧ Below w.heap.size w w' := by
  rw [n.hAB]
  exact plit_any v _ w h.at_ (by simp) (by intro s hs; simp only [List.mem_cons, List.not_mem_nil, or_false] at hs; rcases hs with rfl | rfl | rfl; decide; exact dig_small n.t.a; exact dig_small n.t.b) ht
theorem hd_node2 (n : Names A B C AB R) (v : Value) (w : World) (h : StrsOk w v [kNode, AB, C]) (ht : TabOk w) :
    Calls Tryd.prog 30 #[v] w fun e w' => e = .returned (.string R) ∧ Below w.heap.size w w' := by
  rw [n.hR]
  exact plit_any v _ w h.at_ (by simp) (by intro s hs; simp only [List.mem_cons, List.not_mem_nil, or_false] at hs; rcases hs with rfl | rfl | rfl; decide; exact dig_small n.ab; exact dig_small n.t.c) ht
theorem hd_empty (v : Value) (w : World) (h : StrsOk w v [kEmpty]) (ht : TabOk w) :
    Calls Tryd.prog 30 #[v] w fun e w' => e = .returned (.string emptyB) ∧ Below w.heap.size w w' :=
  plit_any v _ w h.at_ (by simp) (by intro s hs; simp only [List.mem_cons, List.not_mem_nil, or_false] at hs; subst hs; decide) ht
theorem hd_leaf (n : Names A B C AB R) (v : Value) (w : World) (h : StrsOk w v [kLeaf, ⟨#[97]⟩]) (ht : TabOk w) :
    Calls Tryd.prog 30 #[v] w fun e w' => e = .returned (.string A) ∧ Below w.heap.size w w' := by
  rw [n.hA]
  exact plit_any v _ w h.at_ (by simp) (by intro s hs; simp only [List.mem_cons, List.not_mem_nil, or_false] at hs; rcases hs with rfl | rfl <;> decide) ht
theorem hd_root (n : Names A B C AB R) (v : Value) (w : World) (h : StrsOk w v [A, B, C]) (ht : TabOk w) :
    Calls Tryd.prog 25 #[v] w fun e w' => e = .returned (.string R) ∧ Below w.heap.size w w' := by
  have := rooted_any v _ w h (by simp) ht
  rwa [n.t.root, ← n.hAB, ← n.hR] at this
theorem rootS_nil : rootS [] = emptyB := by rw [rootS, if_pos (show digsB [] = true from rfl), rootB_nil]
theorem hd_none (w : World) (ht : TabOk w) :
    Calls Tryd.prog 25 #[.slice none 0 0] w fun e w' => e = .returned (.string emptyB) ∧ Below w.heap.size w w' := by
  have := rooted_any (.slice none 0 0) [] w StrsOk.none (by simp) ht
  rwa [rootS_nil] at this
theorem hd_one (n : Names A B C AB R) (v : Value) (w : World) (h : StrsOk w v [A]) (ht : TabOk w) :
    Calls Tryd.prog 25 #[v] w fun e w' => e = .returned (.string A) ∧ Below w.heap.size w w' := by
  have := rooted_any v _ w h (by simp) ht
  have e : rootS [A] = A := by rw [rootS, if_pos (digsB_one n.t.a), rootB_one]
  rwa [e] at this
theorem hd_c1 (n : Names A B C AB R) (v : Value) (w : World) (h : StrsOk w v [AB]) (ht : TabOk w) :
    Calls Tryd.prog 20 #[.string R, .int .i64 3, .int .i64 2, .string C, v] w fun e w' => e = .returned (.bool true) ∧ Below w.heap.size w w' := by
  have := pcheck_any v _ R C 3 2 w h (dig_len n.t.c) ht
  rwa [n.hR, n.hAB, n.t.c1, ← n.hAB, ← n.hR] at this
theorem hd_c2 (n : Names A B C AB R) (v : Value) (w : World) (h : StrsOk w v [AB]) (ht : TabOk w) :
    Calls Tryd.prog 20 #[.string R, .int .i64 3, .int .i64 2, .string B, v] w fun e w' => e = .returned (.bool false) ∧ Below w.heap.size w w' := by
  have := pcheck_any v _ R B 3 2 w h (dig_len n.t.b) ht
  rwa [n.hR, n.hAB, n.t.c2, ← n.hAB, ← n.hR] at this
theorem hd_e1 (n : Names A B C AB R) (v : Value) (w : World) (h : StrsOk w v [B, C]) (ht : TabOk w) :
    Calls Tryd.prog 22 #[.string A, .int .i64 1, .string R, .int .i64 3, v] w fun e w' => e = .returned (.bool true) ∧ Below w.heap.size w w' := by
  have := pext_any v _ A R 1 3 w h (dig_len n.t.a) (dig_len n.r) ht
  rwa [n.hR, n.hAB, n.t.e1, ← n.hAB, ← n.hR] at this
theorem hd_e2 (n : Names A B C AB R) (v : Value) (w : World) (h : StrsOk w v [B, C]) (ht : TabOk w) :
    Calls Tryd.prog 22 #[.string B, .int .i64 1, .string R, .int .i64 3, v] w fun e w' => e = .returned (.bool false) ∧ Below w.heap.size w w' := by
  have := pext_any v _ B R 1 3 w h (dig_len n.t.b) (dig_len n.r) ht
  rwa [n.hR, n.hAB, n.t.e2, ← n.hAB, ← n.hR] at this
theorem below_lit_then {w w' : World} {o : Obj} (hb : Below (w.alloc o).heap.size (w.alloc o) w') : Below w.heap.size w w' := (below_lit w o).trans (hb.mono (below_lit w o).size)

set_option maxRecDepth 100000 in
set_option maxHeartbeats 2000000 in
theorem thead_names (n : Names A B C AB R) (w : World) (ht : TabOk w) :
    Calls Tryd.prog 9 #[] w fun e w' => e = .returned (.bool true) ∧ Below w.heap.size w w' := by
  have q1 := str_self emptyB
  have q2 := str_self A
  have q3 := str_self R
  have z1 := Lib.hid (dig_len n.t.a)
  have z2 := Lib.hid (dig_len n.t.b)
  have z3 := Lib.hid (dig_len n.t.c)
  have z4 := Lib.hid (dig_len n.ab)
  have z5 : Hid (kNode.size ≤ maxLen) := Lib.hid (by decide)
  have z6 : Hid (kEmpty.size ≤ maxLen) := Lib.hid (by decide)
  have z7 : Hid (kLeaf.size ≤ maxLen) := Lib.hid (by decide)
  have z8 : Hid (ByteArray.size ⟨#[120]⟩ ≤ maxLen) := Lib.hid (by decide)
  have z9 : Hid (ByteArray.size ⟨#[97]⟩ ≤ maxLen) := Lib.hid (by decide)
  have HT0 := Lib.hid ht
  clear ht
  have D0 := Below.refl w.heap.size w
  go_enter Tryd.func9, Tryd.ntmps9
  go_wp2_with fail
  refine (hd_a n _ HT0.out).mono ?_
  rintro e w1 ⟨rfl, hb⟩
  have HT1 := TabOk.kept HT0 hb
  have D1 := D0.trans (hb.mono D0.size)
  clear hb D0 HT0
  go_wp2_with fail
  refine (hd_b n _ HT1.out).mono ?_
  rintro e w2 ⟨rfl, hb⟩
  have HT2 := TabOk.kept HT1 hb
  have D2 := D1.trans (hb.mono D1.size)
  clear hb D1 HT1
  go_wp2_with fail
  refine (hd_c n _ HT2.out).mono ?_
  rintro e w3 ⟨rfl, hb⟩
  have HT3 := TabOk.kept HT2 hb
  have D3 := D2.trans (hb.mono D2.size)
  clear hb D2 HT2
  go_wp2_with fail
  have HL3 := Lib.hid (lit3_ok w3 A B C z1.out z2.out z3.out)
  have HTL := HT3.out.below (below_lit w3 (Obj.cells #[Value.string A, Value.string B, Value.string C] 9))
  refine (hd_p2 n _ _ HL3.out HTL).mono ?_
  rintro e w4 ⟨u1, rfl, hu, hb⟩
  have HL4 := StrsOk.kept HL3 hb
  replace hb := below_lit_then hb
  have HT4 := TabOk.kept HT3 hb
  have HP4 := Lib.hid hu
  have D4 := D3.trans (hb.mono D3.size)
  clear hb hu D3 HT3 HL3 HTL
  go_wp2_with fail
  refine (hd_p0 n _ _ HL4.out HT4.out).mono ?_
  rintro e w5 ⟨u2, rfl, hu, hb⟩
  have HQ5 := Lib.hid hu
  clear hu
  have HT5 := TabOk.kept HT4 hb
  have HL5 := StrsOk.kept HL4 hb
  have HP5 := StrsOk.kept HP4 hb
  have D5 := D4.trans (hb.mono D4.size)
  clear hb D4 HT4 HL4 HP4
  go_wp2_with fail
  refine (hd_l2 n _ _ HL5.out HT5.out).mono ?_
  rintro e w6 ⟨u3, rfl, hu, hb⟩
  have HM6 := Lib.hid hu
  clear hu
  have HT6 := TabOk.kept HT5 hb
  have HL6 := StrsOk.kept HL5 hb
  have HP6 := StrsOk.kept HP5 hb
  have HQ6 := StrsOk.kept HQ5 hb
  have D6 := D5.trans (hb.mono D5.size)
  clear hb D5 HT5 HL5 HP5 HQ5
  go_wp2_with fail
  refine (hd_l1 n _ _ HL6.out HT6.out).mono ?_
  rintro e w7 ⟨u4, rfl, hu, hb⟩
  have HN7 := Lib.hid hu
  clear hu
  have HT7 := TabOk.kept HT6 hb
  have HL7 := StrsOk.kept HL6 hb
  have HP7 := StrsOk.kept HP6 hb
  have HQ7 := StrsOk.kept HQ6 hb
  have HM7 := StrsOk.kept HM6 hb
  have D7 := D6.trans (hb.mono D6.size)
  clear hb D6 HT6 HL6 HP6 HQ6 HM6
  go_wp2_with fail
  refine (hd_p3 n _ _ HL7.out HT7.out).mono ?_
  rintro e w8 ⟨u5, rfl, hb⟩
  have HT8 := TabOk.kept HT7 hb
  have HL8 := StrsOk.kept HL7 hb
  have HP8 := StrsOk.kept HP7 hb
  have HQ8 := StrsOk.kept HQ7 hb
  have HM8 := StrsOk.kept HM7 hb
  have HN8 := StrsOk.kept HN7 hb
  have D8 := D7.trans (hb.mono D7.size)
  clear hb D7 HT7 HL7 HP7 HQ7 HM7 HN7
  go_wp2_with fail
  refine (hd_x _ _ (lit1_ok w8 _ z8.out) (HT8.out.below (below_lit _ _))).mono ?_
  rintro e w9 ⟨s9, rfl, hb⟩
  replace hb := below_lit_then hb
  have HT9 := TabOk.kept HT8 hb
  have HL9 := StrsOk.kept HL8 hb
  have HP9 := StrsOk.kept HP8 hb
  have HQ9 := StrsOk.kept HQ8 hb
  have HM9 := StrsOk.kept HM8 hb
  have HN9 := StrsOk.kept HN8 hb
  have D9 := D8.trans (hb.mono D8.size)
  clear hb D8 HT8 HL8 HP8 HQ8 HM8 HN8
  go_wp2_with fail
  refine (hd_node n _ _ (lit3_ok w9 kNode A B z5.out z1.out z2.out) (HT9.out.below (below_lit _ _))).mono ?_
  rintro e w10 ⟨rfl, hb⟩
  replace hb := below_lit_then hb
  have HT10 := TabOk.kept HT9 hb
  have HL10 := StrsOk.kept HL9 hb
  have HP10 := StrsOk.kept HP9 hb
  have HQ10 := StrsOk.kept HQ9 hb
  have HM10 := StrsOk.kept HM9 hb
  have HN10 := StrsOk.kept HN9 hb
  have D10 := D9.trans (hb.mono D9.size)
  clear hb D9 HT9 HL9 HP9 HQ9 HM9 HN9
  go_wp2_with fail
  refine (hd_root n _ _ HL10.out HT10.out).mono ?_
  rintro e w11 ⟨rfl, hb⟩
  have HT11 := TabOk.kept HT10 hb
  have HL11 := StrsOk.kept HL10 hb
  have HP11 := StrsOk.kept HP10 hb
  have HQ11 := StrsOk.kept HQ10 hb
  have HM11 := StrsOk.kept HM10 hb
  have HN11 := StrsOk.kept HN10 hb
  have D11 := D10.trans (hb.mono D10.size)
  clear hb D10 HT10 HL10 HP10 HQ10 HM10 HN10
  go_wp2_with fail
  refine (hd_none _ HT11.out).mono ?_
  rintro e w12 ⟨rfl, hb⟩
  have HT12 := TabOk.kept HT11 hb
  have HP12 := StrsOk.kept HP11 hb
  have HQ12 := StrsOk.kept HQ11 hb
  have HM12 := StrsOk.kept HM11 hb
  have HN12 := StrsOk.kept HN11 hb
  have D12 := D11.trans (hb.mono D11.size)
  clear hb D11 HT11 HP11 HQ11 HM11 HN11
  go_wp2_with fail
  refine (hd_empty _ _ (lit1_ok w12 kEmpty z6.out) (HT12.out.below (below_lit _ _))).mono ?_
  rintro e w13 ⟨rfl, hb⟩
  replace hb := below_lit_then hb
  have HT13 := TabOk.kept HT12 hb
  have HP13 := StrsOk.kept HP12 hb
  have HQ13 := StrsOk.kept HQ12 hb
  have HM13 := StrsOk.kept HM12 hb
  have HN13 := StrsOk.kept HN12 hb
  have D13 := D12.trans (hb.mono D12.size)
  clear hb D12 HT12 HP12 HQ12 HM12 HN12
  go_wp2_with fail
  refine (hd_leaf n _ _ (lit2_ok w13 kLeaf _ z7.out z9.out) (HT13.out.below (below_lit _ _))).mono ?_
  rintro e w14 ⟨rfl, hb⟩
  replace hb := below_lit_then hb
  have HT14 := TabOk.kept HT13 hb
  have HP14 := StrsOk.kept HP13 hb
  have HQ14 := StrsOk.kept HQ13 hb
  have HM14 := StrsOk.kept HM13 hb
  have HN14 := StrsOk.kept HN13 hb
  have D14 := D13.trans (hb.mono D13.size)
  clear hb D13 HT13 HP13 HQ13 HM13 HN13
  go_wp2_with fail
  refine (hd_one n _ _ (lit1_ok w14 A z1.out) (HT14.out.below (below_lit _ _))).mono ?_
  rintro e w15 ⟨rfl, hb⟩
  replace hb := below_lit_then hb
  have HT15 := TabOk.kept HT14 hb
  have HP15 := StrsOk.kept HP14 hb
  have HQ15 := StrsOk.kept HQ14 hb
  have HM15 := StrsOk.kept HM14 hb
  have HN15 := StrsOk.kept HN14 hb
  have D15 := D14.trans (hb.mono D14.size)
  clear hb D14 HT14 HP14 HQ14 HM14 HN14
  go_wp2_with fail
  refine (hd_node2 n _ _ (lit3_ok w15 kNode AB C z5.out z4.out z3.out) (HT15.out.below (below_lit _ _))).mono ?_
  rintro e w16 ⟨rfl, hb⟩
  replace hb := below_lit_then hb
  have HT16 := TabOk.kept HT15 hb
  have HP16 := StrsOk.kept HP15 hb
  have HQ16 := StrsOk.kept HQ15 hb
  have HM16 := StrsOk.kept HM15 hb
  have HN16 := StrsOk.kept HN15 hb
  have D16 := D15.trans (hb.mono D15.size)
  clear hb D15 HT15 HP15 HQ15 HM15 HN15
  go_wp2_with fail
  refine (same_yes _ _ _ _ (HP16.out.below (below_lit _ _)) (lit1_ok w16 AB z4.out)).mono ?_
  rintro e w17 ⟨rfl, hb⟩
  replace hb := below_lit_then hb
  have HT17 := TabOk.kept HT16 hb
  have HP17 := StrsOk.kept HP16 hb
  have HQ17 := StrsOk.kept HQ16 hb
  have HM17 := StrsOk.kept HM16 hb
  have HN17 := StrsOk.kept HN16 hb
  have D17 := D16.trans (hb.mono D16.size)
  clear hb D16 HT16 HP16 HQ16 HM16 HN16
  go_wp2_with fail
  refine (same_yes _ _ _ _ (HQ17.out.below (below_lit _ _)) (lit2_ok w17 B C z2.out z3.out)).mono ?_
  rintro e w18 ⟨rfl, hb⟩
  replace hb := below_lit_then hb
  have HT18 := TabOk.kept HT17 hb
  have HP18 := StrsOk.kept HP17 hb
  have HQ18 := StrsOk.kept HQ17 hb
  have HM18 := StrsOk.kept HM17 hb
  have HN18 := StrsOk.kept HN17 hb
  have D18 := D17.trans (hb.mono D17.size)
  clear hb D17 HT17 HP17 HQ17 HM17 HN17
  go_wp2_with fail
  refine (same_yes _ _ _ _ (HM18.out.below (below_lit _ _)) (lit1_ok w18 C z3.out)).mono ?_
  rintro e w19 ⟨rfl, hb⟩
  replace hb := below_lit_then hb
  have HT19 := TabOk.kept HT18 hb
  have HP19 := StrsOk.kept HP18 hb
  have HM19 := StrsOk.kept HM18 hb
  have HN19 := StrsOk.kept HN18 hb
  have D19 := D18.trans (hb.mono D18.size)
  clear hb D18 HT18 HP18 HM18 HN18
  go_wp2_with fail
  refine (same_yes _ _ _ _ (HN19.out.below (below_lit _ _)) (lit2_ok w19 B C z2.out z3.out)).mono ?_
  rintro e w20 ⟨rfl, hb⟩
  replace hb := below_lit_then hb
  have HT20 := TabOk.kept HT19 hb
  have HP20 := StrsOk.kept HP19 hb
  have HN20 := StrsOk.kept HN19 hb
  have D20 := D19.trans (hb.mono D19.size)
  clear hb D19 HT19 HP19 HN19
  go_wp2_with fail
  refine (hd_c1 n _ _ HP20.out HT20.out).mono ?_
  rintro e w21 ⟨rfl, hb⟩
  have HT21 := TabOk.kept HT20 hb
  have HP21 := StrsOk.kept HP20 hb
  have HN21 := StrsOk.kept HN20 hb
  have D21 := D20.trans (hb.mono D20.size)
  clear hb D20 HT20 HP20 HN20
  go_wp2_with fail
  refine (hd_c2 n _ _ HP21.out HT21.out).mono ?_
  rintro e w22 ⟨rfl, hb⟩
  have HT22 := TabOk.kept HT21 hb
  have HP22 := StrsOk.kept HP21 hb
  have HN22 := StrsOk.kept HN21 hb
  have D22 := D21.trans (hb.mono D21.size)
  clear hb D21 HT21 HP21 HN21
  go_wp2_with fail
  refine (hd_e1 n _ _ HN22.out HT22.out).mono ?_
  rintro e w23 ⟨rfl, hb⟩
  have HT23 := TabOk.kept HT22 hb
  have HP23 := StrsOk.kept HP22 hb
  have HN23 := StrsOk.kept HN22 hb
  have D23 := D22.trans (hb.mono D22.size)
  clear hb D22 HT22 HP22 HN22
  go_wp2_with fail
  refine (hd_e2 n _ _ HN23.out HT23.out).mono ?_
  rintro e w24 ⟨rfl, hb⟩
  have HT24 := TabOk.kept HT23 hb
  have HP24 := StrsOk.kept HP23 hb
  have HN24 := StrsOk.kept HN23 hb
  have D24 := D23.trans (hb.mono D23.size)
  clear hb D23 HT23 HP23 HN23
  go_wp2_with fail
  go_ret
  exact ⟨rfl, D24⟩
theorem thead_any (w : World) (ht : TabOk w) :
    Calls Tryd.prog 9 #[] w fun e w' => e = .returned (.bool true) ∧ Below w.heap.size w w' :=
  thead_names ⟨three_leaves, rfl, rfl, rfl, rfl, rfl⟩ w ht
end Go.Proofs.YtbiekbppenccdaaDoor
