import Derived.Test.YtbiekbppenccdaaDoorTreeLinkF
set_option linter.unusedVariables false
namespace Go.Proofs.YtbiekbppenccdaaDoor
open Go.RowKit
/-- a link proves that a list goes on from another -/
def extB (old : ByteArray) (m : Int) (root : ByteArray) (n : Int) (l : List ByteArray) : Bool :=
  decide (0 ≤ m) && decide (m ≤ n) && decide (n ≤ 1000000) && (digsB [old, root] && digsB l) &&
    (if m = 0 then decide (l.length = 0) && decide (old = emptyB) && (decide (0 < n) || decide (root = old))
     else if m = n then decide (l.length = 0) && decide (old = root)
     else decide (l.length = longB n.toNat m.toNat true) && decide ((bothB n.toNat m.toNat true old l).1 = old) && decide ((bothB n.toNat m.toNat true old l).2 = root))
theorem lit2_ok (w : World) (a b : ByteArray) (ha : a.size ≤ maxLen) (hb : b.size ≤ maxLen) : StrsOk (w.alloc (Obj.cells #[Value.string a, Value.string b] 9)) (.slice (some ⟨w.heap.size, 0, none⟩) 2 2) [a, b] :=
  ⟨lit2_at w a b, by simp [maxLen], (by intro s h; simp only [List.mem_cons, List.not_mem_nil, or_false] at h; rcases h with rfl | rfl <;> assumption), _, _, rfl, by simp, by simp [maxLen]⟩
theorem below_lit (w : World) (o : Obj) : Below w.heap.size w (w.alloc o) := (Below.refl _ _).alloc (Nat.le_refl _) _
theorem ext_neg (v : Value) (old root : ByteArray) (m n : Int) (w : World) (h1 : m < 0) :
    Calls Tryd.prog 23 #[.string old, .int .i64 m, .string root, .int .i64 n, v] w fun e w' => e = .returned (.bool false) ∧ Below w.heap.size w w' := by
  go_enter Tryd.func23, Tryd.ntmps23
  go_wp2_with fail
  go_ret
  exact ⟨rfl, Below.refl _ _⟩
theorem ext_gt (v : Value) (old root : ByteArray) (m n : Int) (w : World) (h1 : ¬ m < 0) (h2 : n < m) :
    Calls Tryd.prog 23 #[.string old, .int .i64 m, .string root, .int .i64 n, v] w fun e w' => e = .returned (.bool false) ∧ Below w.heap.size w w' := by
  go_enter Tryd.func23, Tryd.ntmps23
  go_wp2_with fail
  go_ret
  exact ⟨rfl, Below.refl _ _⟩
theorem ext_big (v : Value) (old root : ByteArray) (m n : Int) (w : World) (h1 : ¬ m < 0) (h2 : ¬ n < m) (h3 : 1000000 < n) :
    Calls Tryd.prog 23 #[.string old, .int .i64 m, .string root, .int .i64 n, v] w fun e w' => e = .returned (.bool false) ∧ Below w.heap.size w w' := by
  go_enter Tryd.func23, Tryd.ntmps23
  go_wp2_with fail
  go_ret
  exact ⟨rfl, Below.refl _ _⟩
set_option maxHeartbeats 1000000 in
theorem ext_ends (v : Value) (l : List ByteArray) (old root : ByteArray) (m n : Nat) (w : World) (h : StrsOk w v l) (ho : old.size ≤ maxLen) (hr : root.size ≤ maxLen) (hmn : m ≤ n) (hn : n ≤ 1000000) (hd1 : digsB [old, root] = false) :
    Calls Tryd.prog 23 #[.string old, .int .i64 (m : Int), .string root, .int .i64 (n : Int), v] w fun e w' => e = .returned (.bool false) ∧ Below w.heap.size w w' := by
  obtain ⟨a, cap, rfl, hc1, hc2⟩ := h.room
  have H := Lib.hid h
  have HO := Lib.hid ho
  have HR := Lib.hid hr
  clear h ho hr
  have hlen := H.out.len
  have t1 : decide ((m : Int) < 0) = false := by simp
  have t2 : decide (n < m) = false := by simp; omega
  have t3 : decide ((1000000 : Int) < (n : Int)) = false := by simp; omega
  have HD1 := Lib.hid hd1
  clear hd1
  go_enter Tryd.func23, Tryd.ntmps23
  go_wp2_with fail
  refine (digests_any _ _ _ (lit2_ok w old root HO.out HR.out) (by simp [maxLen])).mono ?_
  rintro e w1 ⟨rfl, rfl⟩
  rw [HD1.out]
  go_wp2_with fail
  go_ret
  exact ⟨rfl, below_lit w _⟩
set_option maxHeartbeats 1000000 in
theorem ext_digs (v : Value) (l : List ByteArray) (old root : ByteArray) (m n : Nat) (w : World) (h : StrsOk w v l) (ho : old.size ≤ maxLen) (hr : root.size ≤ maxLen) (hmn : m ≤ n) (hn : n ≤ 1000000) (hd1 : digsB [old, root] = true) (hd2 : digsB l = false) :
    Calls Tryd.prog 23 #[.string old, .int .i64 (m : Int), .string root, .int .i64 (n : Int), v] w fun e w' => e = .returned (.bool false) ∧ Below w.heap.size w w' := by
  obtain ⟨a, cap, rfl, hc1, hc2⟩ := h.room
  have H := Lib.hid h
  have HO := Lib.hid ho
  have HR := Lib.hid hr
  clear h ho hr
  have hlen := H.out.len
  have t1 : decide ((m : Int) < 0) = false := by simp
  have t2 : decide (n < m) = false := by simp; omega
  have t3 : decide ((1000000 : Int) < (n : Int)) = false := by simp; omega
  have HD1 := Lib.hid hd1
  have HD2 := Lib.hid hd2
  clear hd1 hd2
  go_enter Tryd.func23, Tryd.ntmps23
  go_wp2_with fail
  refine (digests_any _ _ _ (lit2_ok w old root HO.out HR.out) (by simp [maxLen])).mono ?_
  rintro e w1 ⟨rfl, rfl⟩
  rw [HD1.out]
  go_wp2_with fail
  refine (digests_any _ l _ (H.out.below (below_lit w _)) hlen).mono ?_
  rintro e w1 ⟨rfl, rfl⟩
  rw [HD2.out]
  go_wp2_with fail
  go_ret
  exact ⟨rfl, below_lit w _⟩
set_option maxHeartbeats 1000000 in
theorem ext_zero_len (v : Value) (l : List ByteArray) (old root : ByteArray) (n : Nat) (w : World) (h : StrsOk w v l) (ho : old.size ≤ maxLen) (hr : root.size ≤ maxLen) (hn : n ≤ 1000000) (hd1 : digsB [old, root] = true) (hd2 : digsB l = true) (hl : l.length ≠ 0) :
    Calls Tryd.prog 23 #[.string old, .int .i64 0, .string root, .int .i64 (n : Int), v] w fun e w' => e = .returned (.bool false) ∧ Below w.heap.size w w' := by
  obtain ⟨a, cap, rfl, hc1, hc2⟩ := h.room
  have H := Lib.hid h
  have HO := Lib.hid ho
  have HR := Lib.hid hr
  clear h ho hr
  have hlen := H.out.len
  have t2 : decide ((n : Int) < 0) = false := by simp
  have t3 : decide ((1000000 : Int) < (n : Int)) = false := by simp; omega
  have t4 : ((l.length : Int) == 0) = false := beq_eq_false_iff_ne.2 (by omega)
  have HD1 := Lib.hid hd1
  have HD2 := Lib.hid hd2
  clear hd1 hd2
  go_enter Tryd.func23, Tryd.ntmps23
  go_wp2_with fail
  refine (digests_any _ _ _ (lit2_ok w old root HO.out HR.out) (by simp [maxLen])).mono ?_
  rintro e w1 ⟨rfl, rfl⟩
  rw [HD1.out]
  go_wp2_with fail
  refine (digests_any _ l _ (H.out.below (below_lit w _)) hlen).mono ?_
  rintro e w1 ⟨rfl, rfl⟩
  rw [HD2.out]
  go_wp2_with fail
  go_ret
  exact ⟨rfl, below_lit w _⟩
set_option maxHeartbeats 1000000 in
theorem ext_zero_old (v : Value) (l : List ByteArray) (old root : ByteArray) (n : Nat) (w : World) (h : StrsOk w v l) (ho : old.size ≤ maxLen) (hr : root.size ≤ maxLen) (hn : n ≤ 1000000) (hd1 : digsB [old, root] = true) (hd2 : digsB l = true) (hl : l.length = 0) (he : old ≠ emptyB) :
    Calls Tryd.prog 23 #[.string old, .int .i64 0, .string root, .int .i64 (n : Int), v] w fun e w' => e = .returned (.bool false) ∧ Below w.heap.size w w' := by
  obtain ⟨a, cap, rfl, hc1, hc2⟩ := h.room
  have H := Lib.hid h
  have HO := Lib.hid ho
  have HR := Lib.hid hr
  clear h ho hr
  have hlen := H.out.len
  have t2 : decide ((n : Int) < 0) = false := by simp
  have t3 : decide ((1000000 : Int) < (n : Int)) = false := by simp; omega
  have t4 : ((l.length : Int) == 0) = true := by rw [hl]; rfl
  have t5 : (old.toList == emptyB.toList) = false := by rw [str_beq]; exact decide_eq_false he
  clear hl he
  have HD1 := Lib.hid hd1
  have HD2 := Lib.hid hd2
  clear hd1 hd2
  go_enter Tryd.func23, Tryd.ntmps23
  go_wp2_with fail
  refine (digests_any _ _ _ (lit2_ok w old root HO.out HR.out) (by simp [maxLen])).mono ?_
  rintro e w1 ⟨rfl, rfl⟩
  rw [HD1.out]
  go_wp2_with fail
  refine (digests_any _ l _ (H.out.below (below_lit w _)) hlen).mono ?_
  rintro e w1 ⟨rfl, rfl⟩
  rw [HD2.out]
  go_wp2_with fail
  refine (refempty_any _).mono ?_
  rintro e w2 ⟨rfl, hb2⟩
  go_wp2_with fail
  go_ret
  exact ⟨rfl, (below_lit w _).trans (hb2.mono (below_lit w _).size)⟩
set_option maxHeartbeats 1000000 in
theorem ext_zero_some (v : Value) (l : List ByteArray) (old root : ByteArray) (n : Nat) (w : World) (h : StrsOk w v l) (ho : old.size ≤ maxLen) (hr : root.size ≤ maxLen) (hn : n ≤ 1000000) (hn0 : 0 < n) (hd1 : digsB [old, root] = true) (hd2 : digsB l = true) (hl : l.length = 0) (he : old = emptyB) :
    Calls Tryd.prog 23 #[.string old, .int .i64 0, .string root, .int .i64 (n : Int), v] w fun e w' => e = .returned (.bool true) ∧ Below w.heap.size w w' := by
  obtain ⟨a, cap, rfl, hc1, hc2⟩ := h.room
  have H := Lib.hid h
  have HO := Lib.hid ho
  have HR := Lib.hid hr
  clear h ho hr
  have hlen := H.out.len
  have t2 : decide ((n : Int) < 0) = false := by simp
  have t3 : decide ((1000000 : Int) < (n : Int)) = false := by simp; omega
  have t4 : ((l.length : Int) == 0) = true := by rw [hl]; rfl
  have t5 : (old.toList == emptyB.toList) = true := by rw [str_beq]; exact decide_eq_true he
  have t6 : decide (0 < n) = true := by simp; omega
  clear hl he
  have HD1 := Lib.hid hd1
  have HD2 := Lib.hid hd2
  clear hd1 hd2
  go_enter Tryd.func23, Tryd.ntmps23
  go_wp2_with fail
  refine (digests_any _ _ _ (lit2_ok w old root HO.out HR.out) (by simp [maxLen])).mono ?_
  rintro e w1 ⟨rfl, rfl⟩
  rw [HD1.out]
  go_wp2_with fail
  refine (digests_any _ l _ (H.out.below (below_lit w _)) hlen).mono ?_
  rintro e w1 ⟨rfl, rfl⟩
  rw [HD2.out]
  go_wp2_with fail
  refine (refempty_any _).mono ?_
  rintro e w2 ⟨rfl, hb2⟩
  go_wp2_with fail
  go_ret
  exact ⟨rfl, (below_lit w _).trans (hb2.mono (below_lit w _).size)⟩
set_option maxHeartbeats 1000000 in
theorem ext_zero_none (v : Value) (l : List ByteArray) (old root : ByteArray)  (w : World) (h : StrsOk w v l) (ho : old.size ≤ maxLen) (hr : root.size ≤ maxLen) (hd1 : digsB [old, root] = true) (hd2 : digsB l = true) (hl : l.length = 0) (he : old = emptyB) :
    Calls Tryd.prog 23 #[.string old, .int .i64 0, .string root, .int .i64 0, v] w fun e w' => e = .returned (.bool (decide (root = old))) ∧ Below w.heap.size w w' := by
  obtain ⟨a, cap, rfl, hc1, hc2⟩ := h.room
  have H := Lib.hid h
  have HO := Lib.hid ho
  have HR := Lib.hid hr
  clear h ho hr
  have hlen := H.out.len
  have t4 : ((l.length : Int) == 0) = true := by rw [hl]; rfl
  have t5 : (old.toList == emptyB.toList) = true := by rw [str_beq]; exact decide_eq_true he
  clear hl he
  have HD1 := Lib.hid hd1
  have HD2 := Lib.hid hd2
  clear hd1 hd2
  go_enter Tryd.func23, Tryd.ntmps23
  go_wp2_with fail
  refine (digests_any _ _ _ (lit2_ok w old root HO.out HR.out) (by simp [maxLen])).mono ?_
  rintro e w1 ⟨rfl, rfl⟩
  rw [HD1.out]
  go_wp2_with fail
  refine (digests_any _ l _ (H.out.below (below_lit w _)) hlen).mono ?_
  rintro e w1 ⟨rfl, rfl⟩
  rw [HD2.out]
  go_wp2_with fail
  refine (refempty_any _).mono ?_
  rintro e w2 ⟨rfl, hb2⟩
  go_wp2_with fail
  go_ret
  exact ⟨by simp only [str_beq]; rfl, (below_lit w _).trans (hb2.mono (below_lit w _).size)⟩
set_option maxHeartbeats 1000000 in
theorem ext_same_len (v : Value) (l : List ByteArray) (old root : ByteArray) (n : Nat) (w : World) (h : StrsOk w v l) (ho : old.size ≤ maxLen) (hr : root.size ≤ maxLen) (hn : n ≤ 1000000) (hn0 : 0 < n) (hd1 : digsB [old, root] = true) (hd2 : digsB l = true) (hl : l.length ≠ 0) :
    Calls Tryd.prog 23 #[.string old, .int .i64 (n : Int), .string root, .int .i64 (n : Int), v] w fun e w' => e = .returned (.bool false) ∧ Below w.heap.size w w' := by
  obtain ⟨a, cap, rfl, hc1, hc2⟩ := h.room
  have H := Lib.hid h
  have HO := Lib.hid ho
  have HR := Lib.hid hr
  clear h ho hr
  have hlen := H.out.len
  have t1 : decide ((n : Int) < 0) = false := by simp
  have t3 : decide ((1000000 : Int) < (n : Int)) = false := by simp; omega
  have t7 : ((n : Int) == 0) = false := beq_eq_false_iff_ne.2 (by omega)
  have t4 : ((l.length : Int) == 0) = false := beq_eq_false_iff_ne.2 (by omega)
  have HD1 := Lib.hid hd1
  have HD2 := Lib.hid hd2
  clear hd1 hd2
  go_enter Tryd.func23, Tryd.ntmps23
  go_wp2_with fail
  refine (digests_any _ _ _ (lit2_ok w old root HO.out HR.out) (by simp [maxLen])).mono ?_
  rintro e w1 ⟨rfl, rfl⟩
  rw [HD1.out]
  go_wp2_with fail
  refine (digests_any _ l _ (H.out.below (below_lit w _)) hlen).mono ?_
  rintro e w1 ⟨rfl, rfl⟩
  rw [HD2.out]
  go_wp2_with fail
  go_ret
  exact ⟨rfl, below_lit w _⟩
set_option maxHeartbeats 1000000 in
theorem ext_same (v : Value) (l : List ByteArray) (old root : ByteArray) (n : Nat) (w : World) (h : StrsOk w v l) (ho : old.size ≤ maxLen) (hr : root.size ≤ maxLen) (hn : n ≤ 1000000) (hn0 : 0 < n) (hd1 : digsB [old, root] = true) (hd2 : digsB l = true) (hl : l.length = 0) :
    Calls Tryd.prog 23 #[.string old, .int .i64 (n : Int), .string root, .int .i64 (n : Int), v] w fun e w' => e = .returned (.bool (decide (old = root))) ∧ Below w.heap.size w w' := by
  obtain ⟨a, cap, rfl, hc1, hc2⟩ := h.room
  have H := Lib.hid h
  have HO := Lib.hid ho
  have HR := Lib.hid hr
  clear h ho hr
  have hlen := H.out.len
  have t1 : decide ((n : Int) < 0) = false := by simp
  have t3 : decide ((1000000 : Int) < (n : Int)) = false := by simp; omega
  have t7 : ((n : Int) == 0) = false := beq_eq_false_iff_ne.2 (by omega)
  have t4 : ((l.length : Int) == 0) = true := by rw [hl]; rfl
  clear hl
  have HD1 := Lib.hid hd1
  have HD2 := Lib.hid hd2
  clear hd1 hd2
  go_enter Tryd.func23, Tryd.ntmps23
  go_wp2_with fail
  refine (digests_any _ _ _ (lit2_ok w old root HO.out HR.out) (by simp [maxLen])).mono ?_
  rintro e w1 ⟨rfl, rfl⟩
  rw [HD1.out]
  go_wp2_with fail
  refine (digests_any _ l _ (H.out.below (below_lit w _)) hlen).mono ?_
  rintro e w1 ⟨rfl, rfl⟩
  rw [HD2.out]
  go_wp2_with fail
  go_ret
  exact ⟨by simp only [str_beq]; rfl, below_lit w _⟩
set_option maxHeartbeats 1000000 in
theorem ext_len (v : Value) (l : List ByteArray) (old root : ByteArray) (m n : Nat) (w : World) (h : StrsOk w v l) (ho : old.size ≤ maxLen) (hr : root.size ≤ maxLen) (hm0 : 0 < m) (hmn : m < n) (hn : n ≤ 1000000) (hd1 : digsB [old, root] = true) (hd2 : digsB l = true) (hl : l.length ≠ longB n m true) :
    Calls Tryd.prog 23 #[.string old, .int .i64 (m : Int), .string root, .int .i64 (n : Int), v] w fun e w' => e = .returned (.bool false) ∧ Below w.heap.size w w' := by
  obtain ⟨a, cap, rfl, hc1, hc2⟩ := h.room
  have H := Lib.hid h
  have HO := Lib.hid ho
  have HR := Lib.hid hr
  clear h ho hr
  have hlen := H.out.len
  have t1 : decide ((m : Int) < 0) = false := by simp
  have t2 : decide (n < m) = false := by simp; omega
  have t3 : decide ((1000000 : Int) < (n : Int)) = false := by simp; omega
  have t7 : ((m : Int) == 0) = false := beq_eq_false_iff_ne.2 (by omega)
  have t8 : ((m : Int) == n) = false := beq_eq_false_iff_ne.2 (by omega)
  have t4 : ((l.length : Int) != (longB n m true : Nat)) = true := by simp; omega
  clear hl
  have HD1 := Lib.hid hd1
  have HD2 := Lib.hid hd2
  clear hd1 hd2
  go_enter Tryd.func23, Tryd.ntmps23
  go_wp2_with fail
  refine (digests_any _ _ _ (lit2_ok w old root HO.out HR.out) (by simp [maxLen])).mono ?_
  rintro e w1 ⟨rfl, rfl⟩
  rw [HD1.out]
  go_wp2_with fail
  refine (digests_any _ l _ (H.out.below (below_lit w _)) hlen).mono ?_
  rintro e w1 ⟨rfl, rfl⟩
  rw [HD2.out]
  go_wp2_with fail
  refine (reflong_any n m true _ (by omega) hm0 (by omega)).mono ?_
  rintro e w2 ⟨rfl, rfl⟩
  go_wp2_with fail
  go_ret
  exact ⟨rfl, below_lit w _⟩
set_option maxHeartbeats 1000000 in
theorem ext_all_no (v : Value) (l : List ByteArray) (old root : ByteArray) (m n : Nat) (w : World) (h : StrsOk w v l) (ho : old.size ≤ maxLen) (hr : root.size ≤ maxLen) (hm0 : 0 < m) (hmn : m < n) (hn : n ≤ 1000000) (hd1 : digsB [old, root] = true) (hd2 : digsB l = true) (hl : l.length = longB n m true) (he : (bothB n m true old l).1 ≠ old) :
    Calls Tryd.prog 23 #[.string old, .int .i64 (m : Int), .string root, .int .i64 (n : Int), v] w fun e w' => e = .returned (.bool false) ∧ Below w.heap.size w w' := by
  obtain ⟨a, cap, rfl, hc1, hc2⟩ := h.room
  have H := Lib.hid h
  have HO := Lib.hid ho
  have HR := Lib.hid hr
  clear h ho hr
  have hlen := H.out.len
  have t1 : decide ((m : Int) < 0) = false := by simp
  have t2 : decide (n < m) = false := by simp; omega
  have t3 : decide ((1000000 : Int) < (n : Int)) = false := by simp; omega
  have t7 : ((m : Int) == 0) = false := beq_eq_false_iff_ne.2 (by omega)
  have t8 : ((m : Int) == n) = false := beq_eq_false_iff_ne.2 (by omega)
  have t4 : ((l.length : Int) != (longB n m true : Nat)) = false := by simp; omega
  have HLN := Lib.hid hl
  have HOS : Hid (old.size ≤ 2147483648) := Lib.hid (digsB_small hd1 old (by simp))
  clear hl
  have t5 : ((bothB n m true old l).1.toList == old.toList) = false := by rw [str_beq]; exact decide_eq_false he
  clear he
  have HD1 := Lib.hid hd1
  have HD2 := Lib.hid hd2
  clear hd1 hd2
  go_enter Tryd.func23, Tryd.ntmps23
  go_wp2_with fail
  refine (digests_any _ _ _ (lit2_ok w old root HO.out HR.out) (by simp [maxLen])).mono ?_
  rintro e w1 ⟨rfl, rfl⟩
  rw [HD1.out]
  go_wp2_with fail
  refine (digests_any _ l _ (H.out.below (below_lit w _)) hlen).mono ?_
  rintro e w1 ⟨rfl, rfl⟩
  rw [HD2.out]
  go_wp2_with fail
  refine (reflong_any n m true _ (by omega) hm0 (by omega)).mono ?_
  rintro e w2 ⟨rfl, rfl⟩
  go_wp2_with fail
  refine (refboth_any n m true old l _ _ (by omega) hm0 (by omega) HLN.out HOS.out (digsB_small HD2.out) (H.out.below (below_lit w _))).mono ?_
  rintro e w3 ⟨rfl, hb3⟩
  go_wp2_with fail
  go_ret
  exact ⟨rfl, (below_lit w _).trans (hb3.mono (below_lit w _).size)⟩
set_option maxHeartbeats 1000000 in
theorem ext_all (v : Value) (l : List ByteArray) (old root : ByteArray) (m n : Nat) (w : World) (h : StrsOk w v l) (ho : old.size ≤ maxLen) (hr : root.size ≤ maxLen) (hm0 : 0 < m) (hmn : m < n) (hn : n ≤ 1000000) (hd1 : digsB [old, root] = true) (hd2 : digsB l = true) (hl : l.length = longB n m true) (he : (bothB n m true old l).1 = old) :
    Calls Tryd.prog 23 #[.string old, .int .i64 (m : Int), .string root, .int .i64 (n : Int), v] w fun e w' => e = .returned (.bool (decide ((bothB n m true old l).2 = root))) ∧ Below w.heap.size w w' := by
  obtain ⟨a, cap, rfl, hc1, hc2⟩ := h.room
  have H := Lib.hid h
  have HO := Lib.hid ho
  have HR := Lib.hid hr
  clear h ho hr
  have hlen := H.out.len
  have t1 : decide ((m : Int) < 0) = false := by simp
  have t2 : decide (n < m) = false := by simp; omega
  have t3 : decide ((1000000 : Int) < (n : Int)) = false := by simp; omega
  have t7 : ((m : Int) == 0) = false := beq_eq_false_iff_ne.2 (by omega)
  have t8 : ((m : Int) == n) = false := beq_eq_false_iff_ne.2 (by omega)
  have t4 : ((l.length : Int) != (longB n m true : Nat)) = false := by simp; omega
  have HLN := Lib.hid hl
  have HOS : Hid (old.size ≤ 2147483648) := Lib.hid (digsB_small hd1 old (by simp))
  clear hl
  have t5 : ((bothB n m true old l).1.toList == old.toList) = true := by rw [str_beq]; exact decide_eq_true he
  clear he
  have HD1 := Lib.hid hd1
  have HD2 := Lib.hid hd2
  clear hd1 hd2
  go_enter Tryd.func23, Tryd.ntmps23
  go_wp2_with fail
  refine (digests_any _ _ _ (lit2_ok w old root HO.out HR.out) (by simp [maxLen])).mono ?_
  rintro e w1 ⟨rfl, rfl⟩
  rw [HD1.out]
  go_wp2_with fail
  refine (digests_any _ l _ (H.out.below (below_lit w _)) hlen).mono ?_
  rintro e w1 ⟨rfl, rfl⟩
  rw [HD2.out]
  go_wp2_with fail
  refine (reflong_any n m true _ (by omega) hm0 (by omega)).mono ?_
  rintro e w2 ⟨rfl, rfl⟩
  go_wp2_with fail
  refine (refboth_any n m true old l _ _ (by omega) hm0 (by omega) HLN.out HOS.out (digsB_small HD2.out) (H.out.below (below_lit w _))).mono ?_
  rintro e w3 ⟨rfl, hb3⟩
  go_wp2_with fail
  go_ret
  exact ⟨by simp only [str_beq]; rfl, (below_lit w _).trans (hb3.mono (below_lit w _).size)⟩
theorem refext_any (v : Value) (l : List ByteArray) (old root : ByteArray) (m n : Int) (w : World) (h : StrsOk w v l) (ho : old.size ≤ maxLen) (hr : root.size ≤ maxLen) :
    Calls Tryd.prog 23 #[.string old, .int .i64 m, .string root, .int .i64 n, v] w fun e w' => e = .returned (.bool (extB old m root n l)) ∧ Below w.heap.size w w' := by
  have fin : ∀ b, extB old m root n l = b → (Calls Tryd.prog 23 #[.string old, .int .i64 m, .string root, .int .i64 n, v] w fun e w' => e = .returned (.bool b) ∧ Below w.heap.size w w') →
      Calls Tryd.prog 23 #[.string old, .int .i64 m, .string root, .int .i64 n, v] w fun e w' => e = .returned (.bool (extB old m root n l)) ∧ Below w.heap.size w w' := fun b e hc => by rw [e]; exact hc
  by_cases c1 : m < 0
  · exact fin _ (by unfold extB; simp; omega) (ext_neg v old root m n w c1)
  by_cases c2 : n < m
  · exact fin _ (by unfold extB; simp; omega) (ext_gt v old root m n w c1 c2)
  by_cases c3 : 1000000 < n
  · exact fin _ (by unfold extB; simp; omega) (ext_big v old root m n w c1 c2 c3)
  obtain ⟨M, rfl⟩ : ∃ k : Nat, m = k := ⟨m.toNat, by omega⟩
  obtain ⟨N, rfl⟩ : ∃ k : Nat, n = k := ⟨n.toNat, by omega⟩
  have a1 : decide (0 ≤ (M : Int)) = true := by simp
  have a2 : decide ((M : Int) ≤ (N : Int)) = true := by simp; omega
  have a3 : decide ((N : Int) ≤ 1000000) = true := by simp; omega
  have ex : extB old M root N l = ((digsB [old, root] && digsB l) && (if M = 0 then decide (l.length = 0) && decide (old = emptyB) && (decide (0 < N) || decide (root = old)) else if M = N then decide (l.length = 0) && decide (old = root) else decide (l.length = longB N M true) && decide ((bothB N M true old l).1 = old) && decide ((bothB N M true old l).2 = root))) := by
    unfold extB
    rw [a1, a2, a3]
    simp only [Bool.true_and, Int.toNat_natCast, Int.natCast_eq_zero, Int.natCast_inj, Int.natCast_pos]
  by_cases d1 : digsB [old, root] = true
  rotate_left
  · have d1 : digsB [old, root] = false := by simpa using d1
    exact fin _ (by rw [ex, d1]; rfl) (ext_ends v l old root M N w h ho hr (by omega) (by omega) d1)
  by_cases d2 : digsB l = true
  rotate_left
  · have d2 : digsB l = false := by simpa using d2
    exact fin _ (by rw [ex, d1, d2]; rfl) (ext_digs v l old root M N w h ho hr (by omega) (by omega) d1 d2)
  rw [d1, d2, Bool.true_and, Bool.true_and] at ex
  by_cases z : M = 0
  · subst z
    rw [if_pos rfl] at ex
    by_cases hl : l.length = 0
    · by_cases he : old = emptyB
      · by_cases hn : 0 < N
        · exact fin true (by rw [ex]; simp [hl, he, hn]) (ext_zero_some v l old root N w h ho hr (by omega) hn d1 d2 hl he)
        · obtain rfl : N = 0 := by omega
          exact fin (decide (root = old)) (by rw [ex]; simp [hl, he]) (ext_zero_none v l old root w h ho hr d1 d2 hl he)
      · exact fin false (by rw [ex]; simp [he]) (ext_zero_old v l old root N w h ho hr (by omega) d1 d2 hl he)
    · exact fin false (by rw [ex, decide_eq_false hl]; rfl) (ext_zero_len v l old root N w h ho hr (by omega) d1 d2 hl)
  · rw [if_neg z] at ex
    by_cases e : M = N
    · subst e
      rw [if_pos rfl] at ex
      by_cases hl : l.length = 0
      · exact fin _ (by rw [ex, decide_eq_true hl, Bool.true_and]) (ext_same v l old root M w h ho hr (by omega) (by omega) d1 d2 hl)
      · exact fin false (by rw [ex, decide_eq_false hl]; rfl) (ext_same_len v l old root M w h ho hr (by omega) (by omega) d1 d2 hl)
    · rw [if_neg e] at ex
      by_cases hl : l.length = longB N M true
      · by_cases he : (bothB N M true old l).1 = old
        · exact fin _ (by rw [ex, decide_eq_true hl, decide_eq_true he]; rfl) (ext_all v l old root M N w h ho hr (by omega) (by omega) (by omega) d1 d2 hl he)
        · exact fin false (by rw [ex, decide_eq_true hl, decide_eq_false he]; rfl) (ext_all_no v l old root M N w h ho hr (by omega) (by omega) (by omega) d1 d2 hl he)
      · exact fin false (by rw [ex, decide_eq_false hl]; rfl) (ext_len v l old root M N w h ho hr (by omega) (by omega) (by omega) d1 d2 hl)
end Go.Proofs.YtbiekbppenccdaaDoor

