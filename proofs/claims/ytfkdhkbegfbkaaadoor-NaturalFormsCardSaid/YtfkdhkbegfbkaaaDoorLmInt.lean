/-
  The program's Of and Int of layer 3: by the library's contracts of strconv.Itoa and strconv.Atoi.
-/
import Derived.Test.YtfkdhkbegfbkaaaDoorLmValid
import Derived.Test.YtfkdhkbegfbkaaaDoorNatInt
import Derived.Test.YtfkdhkbegfbkaaaDoorShelf
import Derived.Lib.AtoiAllCases
import Derived.Lib.AtoiErrMem
import Derived.Laws.Strings
set_option linter.unusedVariables false
set_option maxRecDepth 100000
namespace Go.Proofs.YtfkdhkbegfbkaaaDoor
open Go.RowKit
abbrev TabOk (w : World) : Prop := Lib.TabIs Tryd.prog w "internal/strconv.uint64pow10" .u64 Lib.pow10Tab
theorem TabOk.below {w w' : World} (h : TabOk w) (hb : Below w.heap.size w w') : TabOk w' := by
  have hg : Tryd.prog.globalNamed "internal/strconv.uint64pow10" = some 2 := by kernel_rfl
  have hlt : 2 < w.heap.size := by
    have h' := h
    unfold TabOk Lib.TabIs World.var? at h'
    rw [hg] at h'
    simp only [Option.bind_some] at h'
    rcases Nat.lt_or_ge 2 w.heap.size with h2 | h2
    · exact h2
    · rw [Array.getElem?_eq_none h2] at h'; simp at h'
  exact var?_below hb hg hlt h
/-- the library's error variable holds an error -/
def ErrOk (w : World) : Prop := ∃ tp p, w.var? Tryd.prog "strconv.ErrRange" = some #[.iface tp p]
theorem ErrOk.below {w w' : World} (h : ErrOk w) (hb : Below w.heap.size w w') : ErrOk w' := by
  obtain ⟨tp, p, h⟩ := h
  have hg : Tryd.prog.globalNamed "strconv.ErrRange" = some 1 := by kernel_rfl
  have hlt : 1 < w.heap.size := by
    have h' := h
    unfold World.var? at h'
    rw [hg] at h'
    simp only [Option.bind_some] at h'
    rcases Nat.lt_or_ge 1 w.heap.size with h2 | h2
    · exact h2
    · rw [Array.getElem?_eq_none h2] at h'; simp at h'
  exact ⟨tp, p, var?_below hb hg hlt h⟩
/-- what the library's package-level variables hold -/
structure Env (w : World) : Prop where
  tab : TabOk w
  err : ErrOk w
theorem Env.below {w w' : World} (h : Env w) (hb : Below w.heap.size w w') : Env w' := ⟨h.tab.below hb, h.err.below hb⟩
theorem grow_below (w : World) (k : Nat) (os : Array Obj) : Below w.heap.size w (Sort.grow (w.drewN k) os) := by
  refine ⟨rfl, rfl, rfl, by simp [Sort.grow], fun j hj => ?_⟩
  simp only [Sort.grow, World.heap_drewN]
  rw [Array.getElem?_append_left hj]
theorem itoa_nat (n : Nat) : (⟨(Lib.itoa (n : Int)).toArray⟩ : ByteArray) = nS n := by
  unfold nS bx Dec.digs Lib.itoa
  simp
theorem pOf_neg (n : Int) (w : World) (h : n < 0) :
    Calls Tryd.prog 23 #[.int .i64 n] w fun e w' => e = .returned (.tuple #[.string ⟨#[]⟩, .int .i64 9]) ∧ w = w' := by
  go_enter Tryd.func23, Tryd.ntmps23
  go_wp2_with fail
  go_ret2
  exact ⟨rfl, rfl⟩
theorem pOf_nat (n : Nat) (w : World) (h : (n : Int) ≤ 9223372036854775807) (ht : TabOk w) :
    Calls Tryd.prog 23 #[.int .i64 (n : Int)] w fun e w' => e = .returned (.tuple #[.string (nS n), .int .i64 0]) ∧ Below w.heap.size w w' := by
  have HT := Lib.hid ht
  clear ht
  go_enter Tryd.func23, Tryd.ntmps23
  go_wp2_with fail
  refine (Tryd.strconv_Itoa (n : Int) (by omega) h _ HT.out).mono ?_
  rintro e w1 ⟨rfl, k, os, hw⟩
  have HB : Hid (Below w.heap.size w w1) := Lib.hid (by rw [hw]; exact grow_below w k os)
  rw [itoa_nat]
  obtain ⟨R, hR⟩ : ∃ R, R = nS n := ⟨_, rfl⟩
  rw [← hR]
  have HR := Lib.hid hR
  clear hw hR
  go_wp2_with fail
  go_ret2
  exact ⟨by rw [← HR.out]; rfl, HB.out⟩
theorem pOf_any (n : Int) (w : World) (h : n ≤ 9223372036854775807) (he : Env w) : Calls Tryd.prog 23 #[.int .i64 n] w (Gives2 (ofR n) w) := by
  by_cases h0 : n < 0
  · rw [show ofR n = (⟨#[]⟩, 9) by unfold ofR; rw [if_pos h0]]
    refine (pOf_neg n w h0).mono ?_
    rintro e w' ⟨rfl, rfl⟩
    exact ⟨rfl, Below.refl _ _⟩
  · obtain ⟨m, rfl⟩ : ∃ m : Nat, n = (m : Int) := ⟨n.toNat, by omega⟩
    rw [show ofR (m : Int) = (nS m, 0) by unfold ofR; rw [if_neg h0]; rfl]
    exact pOf_nat m w h he.tab
theorem parse_digits : ∀ (l : List UInt8) (acc : Nat), Dec.AllD l → acc < 18446744073709551616 →
    Lib.parseUint10 acc l = if acc * 10 ^ l.length + Dec.val l < 18446744073709551616 then .ok (acc * 10 ^ l.length + Dec.val l) else .range
  | [], acc, _, ha => by simp [Lib.parseUint10, Dec.val_nil, ha]
  | c :: r, acc, h, ha => by
    have hc := (Dec.isD_iff c).1 (h c (by simp))
    have hp : 0 < 10 ^ r.length := Nat.pow_pos (by omega)
    have e : acc * 10 ^ (c :: r).length + Dec.val (c :: r) = (acc * 10 + (c.toNat - 48)) * 10 ^ r.length + Dec.val r := by
      rw [Dec.val_cons, List.length_cons, Nat.pow_succ, Nat.add_mul, Nat.mul_assoc acc, Nat.mul_comm 10]
      show _ = _ + (c.toNat - 48) * _ + _
      show _ + ((c.toNat - 48) * _ + _) = _
      omega
    rw [e, Lib.parseUint10, if_pos hc]
    have hge : ∀ x, x ≤ x * 10 ^ r.length := fun x => Nat.le_mul_of_pos_right _ hp
    by_cases c1 : 1844674407370955162 ≤ acc
    · rw [if_pos c1, if_neg]
      have := hge (acc * 10 + (c.toNat - 48))
      omega
    · rw [if_neg c1]
      by_cases c2 : 18446744073709551616 ≤ acc * 10 + (c.toNat - 48)
      · rw [if_pos c2, if_neg]
        have := hge (acc * 10 + (c.toNat - 48))
        omega
      · rw [if_neg c2]
        exact parse_digits r _ h.tail (by omega)
theorem atoi_digits {l : List UInt8} (h : Dec.Norm l) : Lib.atoiAll l = if Dec.val l < 9223372036854775808 then .ok (Dec.val l : Int) else .range := by
  cases l with
  | nil => exact absurd rfl h.ne
  | cons c r =>
    have hc := (Dec.isD_iff c).1 (h.all c (by simp))
    have h1 := parse_digits (c :: r) 0 h.all (by omega)
    rw [Nat.zero_mul, Nat.zero_add] at h1
    unfold Lib.atoiAll Lib.parseMag
    simp only
    rw [if_neg (by omega : ¬ (c.toNat = 43 ∨ c.toNat = 45)), if_neg (by simp : ¬ (c :: r) = []), h1]
    by_cases c1 : Dec.val (c :: r) < 18446744073709551616
    · rw [if_pos c1]
      simp only
      by_cases c2 : Dec.val (c :: r) < 9223372036854775808
      · rw [if_pos c2, if_neg (by omega), if_neg (by omega), if_neg (by omega)]
      · rw [if_neg c2, if_pos (by omega)]
    · rw [if_neg c1, if_neg (by omega)]
theorem pInt_bad (a : ByteArray) (w : World) (ha : validB a = false) :
    Calls Tryd.prog 25 #[.string a] w fun e w' => e = .returned (.tuple #[.int .i64 0, .int .i64 1]) ∧ w = w' := by
  have HA := Lib.hid ha
  clear ha
  go_enter Tryd.func25, Tryd.ntmps25
  go_wp2_with fail
  refine (pvalid_any a _).mono ?_
  rintro e w1 ⟨rfl, rfl⟩
  rw [HA.out]
  go_wp2_with fail
  go_ret2
  exact ⟨rfl, rfl⟩
set_option maxHeartbeats 1000000 in
theorem pInt_ok (a : ByteArray) (w : World) (ha : validB a = true) (v : Nat) (hv : v = Dec.val (tl a)) (h : v < 9223372036854775808) :
    Calls Tryd.prog 25 #[.string a] w fun e w' => e = .returned (.tuple #[.int .i64 (if 1000000000000 < v then 0 else (v : Int)), .int .i64 (if 1000000000000 < v then 9 else 0)]) ∧ Below w.heap.size w w' := by
  have HA := Lib.hid ha
  have hat : Lib.atoiAll a.data.toList = .ok (v : Int) := by
    show Lib.atoiAll (tl a) = _
    rw [atoi_digits (valid_norm ha), ← hv, if_pos h]
  have HT := Lib.hid hat
  have hsz := valid_size ha
  clear ha hat hv
  go_enter Tryd.func25, Tryd.ntmps25
  go_wp2_with fail
  refine (pvalid_any a _).mono ?_
  rintro e w1 ⟨rfl, rfl⟩
  rw [HA.out]
  go_wp2_with fail
  refine (Tryd.strconv_Atoi_ok a (by omega) (v : Int) HT.out _).mono ?_
  rintro e w2 ⟨rfl, hw⟩
  have HB : Hid (Below w.heap.size w w2) := Lib.hid (by
    rcases hw with rfl | ⟨t, rfl⟩
    · exact Below.refl _ _
    · exact Lib.bytesWorld_below w _ t)
  clear hw
  by_cases c : 1000000000000 < v
  · have c2 : (1000000000000 : Int) < (v : Int) := by omega
    go_wp2_with fail
    go_ret2
    exact ⟨by simp, HB.out⟩
  · have c2 : ¬ (1000000000000 : Int) < (v : Int) := by omega
    go_wp2_with fail
    go_ret2
    exact ⟨by simp, HB.out⟩
set_option maxHeartbeats 1000000 in
theorem pInt_range (a : ByteArray) (w : World) (ha : validB a = true) (h : ¬ Dec.val (tl a) < 9223372036854775808) (he : ErrOk w) :
    Calls Tryd.prog 25 #[.string a] w fun e w' => e = .returned (.tuple #[.int .i64 0, .int .i64 9]) ∧ Below w.heap.size w w' := by
  have HA := Lib.hid ha
  have hat : Lib.atoiAll a.data.toList = .range := by
    show Lib.atoiAll (tl a) = _
    rw [atoi_digits (valid_norm ha), if_neg h]
  have HT := Lib.hid hat
  have hsz := valid_size ha
  obtain ⟨tp, p, he⟩ := he
  have HE := Lib.hid he
  clear ha hat h he
  go_enter Tryd.func25, Tryd.ntmps25
  go_wp2_with fail
  refine (pvalid_any a _).mono ?_
  rintro e w1 ⟨rfl, rfl⟩
  rw [HA.out]
  go_wp2_with fail
  refine (Tryd.strconv_Atoi_range_var a (by omega) HT.out tp p _ HE.out).mono ?_
  rintro e w2 ⟨N, rfl, hN, hcell, hb⟩
  have HB := Lib.hid hb
  generalize Lib.atoiSat a.data.toList = sat
  clear hN hcell hb
  go_wp2_with fail
  go_ret2
  exact ⟨rfl, HB.out⟩
theorem pInt_any (a : ByteArray) (w : World) (he : Env w) : Calls Tryd.prog 25 #[.string a] w fun e w' => e = .returned (.tuple #[.int .i64 (intR a).1, .int .i64 (intR a).2]) ∧ Below w.heap.size w w' := by
  by_cases ha : validB a = true
  · by_cases h : Dec.val (tl a) < 9223372036854775808
    · have e1 : intR a = (if 1000000000000 < Dec.val (tl a) then ((0 : Int), (9 : Int)) else (((Dec.val (tl a) : Nat) : Int), 0)) := by unfold intR; rw [if_pos ha]
      rw [e1]
      have := pInt_ok a w ha _ rfl h
      split
      · rename_i c; rw [if_pos c, if_pos c] at this; exact this
      · rename_i c; rw [if_neg c, if_neg c] at this; exact this
    · rw [show intR a = (0, 9) by unfold intR; rw [if_pos ha, if_pos (by omega)]]
      exact pInt_range a w ha h he.err
  · rw [show intR a = (0, 1) by unfold intR; rw [if_neg ha]]
    refine (pInt_bad a w (by simpa using ha)).mono ?_
    rintro e w' ⟨rfl, rfl⟩
    exact ⟨rfl, Below.refl _ _⟩
end Go.Proofs.YtfkdhkbegfbkaaaDoor
