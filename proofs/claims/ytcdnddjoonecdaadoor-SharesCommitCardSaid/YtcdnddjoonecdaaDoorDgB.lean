/-
  The contract of digest.Is: for every text, whether it is a digest.
-/
import Derived.Test.YtcdnddjoonecdaaDoorDgA
import Derived.Test.YtcdnddjoonecdaaDoorShelf
import Derived.Lib.Bytealg
import Derived.BigQuiet
import Derived.Deep.QuietTactic
import Derived.Lib.ItoaNum
import Derived.Lib.Strings
import Derived.SliceStrings
set_option maxRecDepth 100000
namespace Go.Proofs.YtcdnddjoonecdaaDoor
open Go.RowKit
/-- a hexadecimal digit's byte -/
def isHex (b : Nat) : Bool := decide ((48 ≤ b ∧ b ≤ 57) ∨ (97 ≤ b ∧ b ≤ 102))
/-- the first k bytes are hexadecimal digits -/
def hexTo (s : ByteArray) : Nat → Bool
  | 0 => true
  | k + 1 => hexTo s k && isHex (Dig.byteAt s.data.toList k)
def isB (s : ByteArray) : Bool := decide (s.size = 16) && hexTo s 16
def hexAt (b : UInt8) : Int := Lib.indexByte [48, 49, 50, 51, 52, 53, 54, 55, 56, 57, 97, 98, 99, 100, 101, 102] b
theorem idx_all : ∀ n : Fin 256, (decide (hexAt (UInt8.ofNat n.val) < 0) = !isHex n.val) := by decide +kernel
theorem idx_hex (b : UInt8) : decide (hexAt b < 0) = !isHex b.toNat := by
  have h := idx_all ⟨b.toNat, b.toNat_lt⟩
  simpa using h
theorem hexTo_mono (s : ByteArray) {j k : Nat} (hjk : j ≤ k) (h : hexTo s k = true) : hexTo s j = true := by
  induction k with
  | zero => obtain rfl : j = 0 := by omega
            exact h
  | succ k ih =>
    by_cases e : j = k + 1
    · subst e; exact h
    · simp only [hexTo, Bool.and_eq_true] at h
      exact ih (by omega) h.1
theorem isB_no (s : ByteArray) (h16 : s.size = 16) (k : Nat) (hk : k < 16) (h : isHex (s[k]).toNat = false) : isB s = false := by
  unfold isB
  by_cases hx : hexTo s 16 = true
  · have := hexTo_mono s (j := k + 1) (by omega) hx
    simp only [hexTo, Bool.and_eq_true] at this
    rw [Dig.byteAt_in (by simp; omega)] at this
    have h2 := this.2
    rw [show s.data.toList[k]'(by simp; omega) = s[k] from rfl, h] at h2
    exact absurd h2 (by simp)
  · simp at hx; simp [hx]
theorem indexHex_any (c : UInt8) (w : World) : Calls Tryd.prog 65 #[.string ⟨#[48, 49, 50, 51, 52, 53, 54, 55, 56, 57, 97, 98, 99, 100, 101, 102]⟩, .int .u8 (c.toNat : Int)] w fun e w' => e = .returned (.int .i64 (hexAt c)) ∧ w = w' := by
  refine (Tryd.strings_IndexByte _ _ w).mono ?_
  rintro e w' ⟨rfl, rfl⟩
  refine ⟨?_, rfl⟩
  rw [show ((c.toNat : Int)).toNat.toUInt8 = c from by simp]
  rfl
set_option maxHeartbeats 400000 in
theorem is_any (s : ByteArray) (w : World) (hs : s.size ≤ maxLen) :
   Calls Tryd.prog 44 #[.string s] w fun e w' => e = .returned (.bool (isB s)) ∧ w = w' := by
  unfold maxLen at hs
  by_cases h16 : s.size = 16
  · have t16 : ((s.size : Int) != 16) = false := by simp [h16]
    have h16' := Lib.hid h16
    have hle : 16 ≤ s.size := by omega
    clear h16
    go_enter Tryd.func44, Tryd.ntmps44
    go_wp2_with fail
    go_loop [7] (fun i => ∃ k : Nat, k ≤ 16 ∧ i = .int .i64 k ∧ Hid (hexTo s k = true)) (fun i => 16 - (intOf i).toNat)
    case atStart => exact ⟨0, by omega, rfl, (show _ = _ from rfl)⟩
    case round =>
      obtain ⟨k, hk, rfl, hx⟩ := hrel
      by_cases hlt : k < 16
      · go_wp2_with fail
        refine (indexHex_any _ _).mono ?_
        rintro e w' ⟨rfl, rfl⟩
        by_cases hh : isHex (s[k]).toNat = true
        · have hd : decide (hexAt s[k] < 0) = false := by rw [idx_hex, hh]; rfl
          go_wp2_with fail
          go_round
          case rel =>
            refine ⟨k + 1, by omega, by go_num, (show _ = _ from ?_)⟩
            simp only [hexTo, hx.out, Bool.true_and]
            rw [Dig.byteAt_in (by simp; omega)]
            exact hh
          case measure => simp [intOf]; omega
        · have hh' : isHex (s[k]).toNat = false := by simpa using hh
          have hd : decide (hexAt s[k] < 0) = true := by rw [idx_hex, hh']; rfl
          go_wp2_with fail
          go_ret
          exact ⟨by rw [isB_no s h16'.out k hlt hh']; rfl, rfl⟩
      · obtain rfl : k = 16 := by omega
        have hb : isB s = true := by simp [isB, h16'.out, hx.out]
        have HB := Lib.hid hb
        clear hb
        go_wp2_with fail
        go_ret
        exact ⟨by rw [HB.out]; rfl, rfl⟩
  · have t16 : ((s.size : Int) != 16) = true := by simp; omega
    have hb : isB s = false := by simp [isB, h16]
    have HB := Lib.hid hb
    clear hb
    go_enter Tryd.func44, Tryd.ntmps44
    go_wp2_with fail
    go_ret
    exact ⟨by rw [HB.out]; rfl, rfl⟩
end Go.Proofs.YtcdnddjoonecdaaDoor

/-
  The contracts of the reference Digit and Is: for every byte and every text.
-/
set_option maxRecDepth 100000
namespace Go.Proofs.YtcdnddjoonecdaaDoor
open Go.RowKit
def digV (c : Nat) : Int := if 48 ≤ c ∧ c ≤ 57 then (c : Int) - 48 else if 97 ≤ c ∧ c ≤ 102 then (c : Int) - 97 + 10 else -1
theorem digV_neg (c : Nat) (hc : c < 256) : decide (digV c < 0) = !isHex c := by
  unfold digV isHex
  split
  · have : ¬ ((c : Int) - 48 < 0) := by omega
    simp [this]; omega
  · split
    · have : ¬ ((c : Int) - 97 + 10 < 0) := by omega
      simp [this]; omega
    · simp; omega
set_option maxHeartbeats 400000 in
theorem digit_any (c : Nat) (hc : c < 256) (w : World) :
   Calls Tryd.prog 67 #[.int .u8 (c : Int)] w fun e w' => e = .returned (.int .i64 (digV c)) ∧ w = w' := by
  have hw : ∀ x, digV c = x → Ending.returned (Value.int .i64 x) = .returned (.int .i64 (digV c)) := by intro x h; rw [h]
  have HW := Lib.hid hw
  clear hw
  by_cases h1 : 48 ≤ c
  · by_cases h2 : c ≤ 57
    · go_enter Tryd.func67, Tryd.ntmps67
      go_wp2
      go_ret
      exact ⟨HW.out _ (by unfold digV; rw [if_pos ⟨h1, h2⟩]), rfl⟩
    · by_cases h3 : 97 ≤ c
      · by_cases h4 : c ≤ 102
        · go_enter Tryd.func67, Tryd.ntmps67
          go_wp2
          go_ret
          exact ⟨HW.out _ (by unfold digV; rw [if_neg (by omega), if_pos ⟨h3, h4⟩]), rfl⟩
        · go_enter Tryd.func67, Tryd.ntmps67
          go_wp2
          go_ret
          exact ⟨HW.out _ (by unfold digV; rw [if_neg (by omega), if_neg (by omega)]), rfl⟩
      · go_enter Tryd.func67, Tryd.ntmps67
        go_wp2
        go_ret
        exact ⟨HW.out _ (by unfold digV; rw [if_neg (by omega), if_neg (by omega)]), rfl⟩
  · go_enter Tryd.func67, Tryd.ntmps67
    go_wp2
    go_ret
    exact ⟨HW.out _ (by unfold digV; rw [if_neg (by omega), if_neg (by omega)]), rfl⟩
theorem beq16 (n : Nat) : ((n : Int) == 16) = decide (n = 16) := by
  by_cases h : n = 16
  · subst h; rfl
  · simp [h]; omega
/-- the first bytes, but no more than 16, are digits -/
theorem isB_no' (s : ByteArray) (k : Nat) (hk : k < 16) (hs : k < s.size) (h : isHex (s[k]).toNat = false) : isB s = false := by
  by_cases h16 : s.size = 16
  · exact isB_no s h16 k hk h
  · simp [isB, h16]
set_option maxHeartbeats 400000 in
theorem refis_any (s : ByteArray) (w : World) (hs : s.size ≤ maxLen) :
   Calls Tryd.prog 54 #[.string s] w fun e w' => e = .returned (.bool (isB s)) ∧ w = w' := by
  unfold maxLen at hs
  go_enter Tryd.func54, Tryd.ntmps54
  go_wp2_with fail
  go_loop [3] (fun i => ∃ k : Nat, k ≤ 16 ∧ k ≤ s.size ∧ i = .int .i64 k ∧ Hid (hexTo s k = true)) (fun i => 16 - (intOf i).toNat)
  case atStart => exact ⟨0, by omega, by omega, rfl, (show _ = _ from rfl)⟩
  case round =>
    obtain ⟨k, hk, hk2, rfl, hx⟩ := hrel
    by_cases hlt : k < s.size
    · by_cases hlt2 : k < 16
      · go_wp2_with fail
        refine (digit_any _ (s[k]).toNat_lt _).mono ?_
        rintro e w' ⟨rfl, rfl⟩
        by_cases hh : isHex (s[k]).toNat = true
        · have hd : decide (digV (s[k]).toNat < 0) = false := by rw [digV_neg _ (s[k]).toNat_lt, hh]; rfl
          go_wp2_with fail
          go_round
          case rel =>
            refine ⟨k + 1, by omega, by omega, by go_num, (show _ = _ from ?_)⟩
            simp only [hexTo, hx.out, Bool.true_and]
            rw [Dig.byteAt_in (by simp; omega)]
            exact hh
          case measure => simp [intOf]; omega
        · have hh' : isHex (s[k]).toNat = false := by simpa using hh
          have hd : decide (digV (s[k]).toNat < 0) = true := by rw [digV_neg _ (s[k]).toNat_lt, hh']; rfl
          go_wp2_with fail
          go_ret
          exact ⟨by rw [isB_no' s k hlt2 hlt hh']; rfl, rfl⟩
      · have hb : isB s = decide (s.size = 16) := by
          obtain rfl : k = 16 := by omega
          simp [isB, hx.out]
        have HB := Lib.hid hb
        clear hb
        go_wp2_with fail
        go_ret
        refine ⟨?_, rfl⟩
        rw [HB.out, ← beq16]; rfl
    · have hb : isB s = decide (s.size = 16) := by
        obtain rfl : k = s.size := by omega
        by_cases e : s.size = 16
        · simp [isB, e]; rw [e] at hx; exact hx.out
        · simp [isB, e]
      have HB := Lib.hid hb
      clear hb
      go_wp2_with fail
      go_ret
      refine ⟨?_, rfl⟩
      rw [HB.out, ← beq16]; rfl
end Go.Proofs.YtcdnddjoonecdaaDoor

/-
  The contracts of the reference Decimal and digits: for every number its decimal digits.
-/
set_option maxRecDepth 100000
namespace Go.Proofs.YtcdnddjoonecdaaDoor
open Go.RowKit
def decB (n : Nat) : ByteArray := ⟨(Lib.decDigits n).toArray⟩
theorem decB_size (n : Nat) (h : n < 18446744073709551616) : (decB n).size ≤ 20 := by
  have h1 : (decB n).size = Lib.nDigits n := by
    show (Lib.decDigits n).toArray.size = _
    simp [Lib.decDigits_length]
  rw [h1]
  by_cases h0 : n = 0
  · subst h0; rw [Lib.nDigits_small (by omega)]; omega
  · have := Lib.numDigits_eq n (by omega) h
    split at this <;> omega
def dlow (n : Nat) : Nat := n % 10
theorem dlow_lt (n : Nat) : dlow n < 10 := Nat.mod_lt _ (by omega)
def dshr (n : Nat) : Nat := n / 10
def ddg (n : Nat) : UInt8 := UInt8.ofNat (48 + dlow n)
theorem decCut (w : World) (k : Nat) : (Instr.slice 9 (.string ⟨#[48, 49, 50, 51, 52, 53, 54, 55, 56, 57]⟩) (some (.int .u64 (dlow k : Nat))) (some (.int .u64 ((dlow k : Nat) + 1))) none).run Tryd.prog w = .ok (.string ⟨#[ddg k]⟩) w := by
  have h := dlow_lt k
  unfold ddg
  generalize dlow k = n at h
  match n, h with
  | 0, _ => rfl
  | 1, _ => rfl
  | 2, _ => rfl
  | 3, _ => rfl
  | 4, _ => rfl
  | 5, _ => rfl
  | 6, _ => rfl
  | 7, _ => rfl
  | 8, _ => rfl
  | 9, _ => rfl
  | n + 10, h => exact absurd h (by omega)
/-- t is the end of n's digits, behind those of m -/
def DecInv (n m : Nat) (t : ByteArray) : Prop := Lib.decDigits n = (if m = 0 then [] else Lib.decDigits m) ++ t.data.toList
theorem DecInv.start (n : Nat) : DecInv n (dshr n) ⟨#[ddg n]⟩ := by
  unfold DecInv dshr ddg dlow
  by_cases h : n < 10
  · rw [if_pos (by omega), Lib.decDigits, dif_pos h, Nat.mod_eq_of_lt h]; rfl
  · rw [if_neg (by omega), Lib.decDigits, dif_neg h]
theorem DecInv.step {n m : Nat} {t : ByteArray} (h : DecInv n m t) (hm : m ≠ 0) : DecInv n (dshr m) (⟨#[ddg m]⟩ ++ t) := by
  unfold DecInv at h ⊢
  rw [if_neg hm] at h
  have h1 := DecInv.start m
  unfold DecInv at h1
  rw [h, h1, List.append_assoc]
  congr 1
theorem DecInv.done {n : Nat} {t : ByteArray} (h : DecInv n 0 t) : t = decB n := by
  unfold DecInv at h
  simp at h
  apply ByteArray.ext
  apply Array.ext'
  rw [← h]; rfl
theorem DecInv.size {n m : Nat} {t : ByteArray} (h : DecInv n m t) (hn : n < 18446744073709551616) : t.size ≤ 20 := by
  have h1 := decB_size n hn
  have h2 : (decB n).size = (Lib.decDigits n).length := by show (Lib.decDigits n).toArray.size = _; simp
  unfold DecInv at h
  rw [h2, h, List.length_append] at h1
  have : t.data.toList.length = t.size := by simp
  omega
set_option maxHeartbeats 400000 in
theorem digits_any (n : Nat) (w : World) (hn : n < 18446744073709551616) :
   Calls Tryd.prog 48 #[.int .u64 (n : Int)] w fun e w' => e = .returned (.string (decB n)) ∧ w = w' := by
  have e1 : ((n : Nat) : Int) % 10 = (dlow n : Nat) := rfl
  have e2 : ((n : Nat) : Int) / 10 = (dshr n : Nat) := rfl
  have e3 := dlow_lt n
  have e4 := decCut w n
  go_enter Tryd.func48, Tryd.ntmps48
  go_wp2_with fail
  go_loop [0, 3] (fun m t => ∃ (k : Nat) (s : ByteArray), k < 18446744073709551616 ∧ m = .int .u64 k ∧ t = .string s ∧ DecInv n k s) (fun m _ => (intOf m).toNat)
  case atStart => exact ⟨dshr n, _, by unfold dshr; omega, rfl, rfl, DecInv.start n⟩
  case round =>
    obtain ⟨k, s, hk, rfl, rfl, hinv⟩ := hrel
    clear e1 e2 e3 e4
    by_cases hk0 : 0 < k
    · have e1 : ((k : Nat) : Int) % 10 = (dlow k : Nat) := rfl
      have e2 : ((k : Nat) : Int) / 10 = (dshr k : Nat) := rfl
      have e3 := dlow_lt k
      have e4 := decCut w k
      have e5 := hinv.size hn
      go_wp2_with fail
      go_round
      case rel => exact ⟨dshr k, _, by unfold dshr; omega, rfl, rfl, hinv.step (by omega)⟩
      case measure => simp [intOf, dshr]; omega
    · obtain rfl : k = 0 := by omega
      go_wp2_with fail
      go_ret
      exact ⟨by rw [← hinv.done]; rfl, rfl⟩
theorem decimal_any (n : Nat) (w : World) (hn : n ≤ maxLen) :
   Calls Tryd.prog 29 #[.int .i64 (n : Int)] w fun e w' => e = .returned (.string (decB n)) ∧ w = w' := by
  unfold maxLen at hn
  go_enter Tryd.func29, Tryd.ntmps29
  go_wp2_with fail
  refine (digits_any n _ (by omega)).mono ?_
  rintro e w' ⟨rfl, rfl⟩
  go_wp2_with fail
  go_ret
  exact ⟨rfl, rfl⟩
end Go.Proofs.YtcdnddjoonecdaaDoor

/-
  The contracts of the reference Few and Same: for every lists of texts.
-/
set_option linter.unusedVariables false
set_option maxRecDepth 100000
namespace Go.Proofs.YtcdnddjoonecdaaDoor
open Go.RowKit
/-- A slice value that reads as these strings. -/
def StrsAt (w : World) (v : Value) (ss : List ByteArray) : Prop :=
  (ss = [] ∧ ∃ a cap, v = .slice a 0 cap) ∨
  (0 < ss.length ∧ ∃ b off cap, v = .slice (some ⟨b, off, none⟩) ss.length cap ∧ ∀ j (hj : j < ss.length), w.cell? ⟨b, off + j, none⟩ = some (.string ss[j]))
theorem StrsAt.below {w w' : World} {v : Value} {ss : List ByteArray} (h : StrsAt w v ss) (hb : Below w.heap.size w w') : StrsAt w' v ss := by
  rcases h with h | ⟨h0, b, off, cap, hv, hc⟩
  · exact .inl h
  · refine .inr ⟨h0, b, off, cap, hv, fun j hj => ?_⟩
    have hlt : b < w.heap.size := by
      have := hc 0 h0
      rcases Nat.lt_or_ge b w.heap.size with h' | h'
      · exact h'
      · simp [World.cell?, Array.getElem?_eq_none h'] at this
    rw [hb.cell (p := ⟨b, off + j, none⟩) hlt]
    exact hc j hj
def fewB (ss : List ByteArray) (m : Int) : Bool := (ss.all fun s => decide ((s.size : Int) ≤ m)) && decide (ss.length ≤ 30)
theorem str_beq (a b : ByteArray) : (a.toList == b.toList) = decide (a = b) := by
  rw [Lib.toList_data, Lib.toList_data]
  by_cases h : a = b
  · subst h; simp
  · rw [decide_eq_false h]
    have : a.data.toList ≠ b.data.toList := fun e => h (ByteArray.ext (Array.ext' e))
    exact beq_eq_false_iff_ne.2 this
def sameB (ss tt : List ByteArray) : Bool := decide (ss = tt)
/-- a slice of strings that came in -/
structure StrsOk (w : World) (v : Value) (ss : List ByteArray) : Prop where
  at_ : StrsAt w v ss
  len : ss.length ≤ maxLen
  sizes : ∀ s ∈ ss, s.size ≤ maxLen
  room : ∃ a cap, v = .slice a ss.length cap ∧ ss.length ≤ cap ∧ cap ≤ maxLen
theorem StrsOk.none {w : World} : StrsOk w (.slice .none 0 0) [] := ⟨.inl ⟨rfl, _, _, rfl⟩, by simp, (by intro s h; cases h), _, _, rfl, Nat.le_refl _, by simp⟩
theorem StrsOk.some {w : World} {x : Addr} {len cap : Nat} {ss : List ByteArray} (hl : len ≤ cap) (hm : cap ≤ maxLen) (hz : ss.length = cap)
    (hc : ∀ i, i < ss.length → w.cell? (x.add i) = Option.some (.string (ss.getD i ByteArray.empty))) (hs : ∀ s ∈ ss, s.size ≤ maxLen) : StrsOk w (.slice (Option.some x) len cap) (ss.take len) := by
  have hlen : (ss.take len).length = len := by rw [List.length_take]; omega
  refine ⟨?_, by rw [hlen]; omega, (fun s h => hs s (List.mem_of_mem_take h)), _, _, by rw [hlen], by rw [hlen]; exact hl, hm⟩
  by_cases h0 : len = 0
  · subst h0
    exact .inl ⟨by simp, _, _, rfl⟩
  · obtain ⟨b, off, spot⟩ := x
    have hspot : spot = Option.none := by simpa [Addr.add] using World.cell?_spot (hc 0 (by omega))
    subst hspot
    refine .inr ⟨by omega, b, off, cap, by rw [hlen], fun j hj => ?_⟩
    have h := hc j (by omega)
    rw [show (⟨b, off, Option.none⟩ : Addr).add j = ⟨b, off + j, Option.none⟩ from by unfold Addr.add; split <;> simp_all] at h
    rw [h]
    have hj' : j < ss.length := by omega
    simp [List.getD, hj']
theorem StrsOk.below {w w' : World} {v : Value} {ss : List ByteArray} (h : StrsOk w v ss) (hb : Below w.heap.size w w') : StrsOk w' v ss := ⟨h.at_.below hb, h.len, h.sizes, h.room⟩
/-- one that is not empty, at its address -/
theorem StrsOk.open_ {w : World} {v : Value} {ss : List ByteArray} (h : StrsOk w v ss) (h0 : 0 < ss.length) :
    ∃ b off cap, v = .slice (Option.some ⟨b, off, Option.none⟩) ss.length cap ∧ ss.length ≤ cap ∧ cap ≤ maxLen ∧ ∀ j (hj : j < ss.length), w.cell? ⟨b, off + j, Option.none⟩ = Option.some (.string ss[j]) := by
  rcases h.at_ with ⟨rfl, _⟩ | ⟨_, b, off, cap, rfl, hc⟩
  · simp at h0
  · obtain ⟨a, cap', e, h1, h2⟩ := h.room
    simp only [Value.slice.injEq] at e
    obtain ⟨_, _, rfl⟩ := e
    exact ⟨b, off, cap, rfl, h1, h2, hc⟩
theorem StrsOk.mk' {w : World} {b off cap : Nat} {ss : List ByteArray} (h0 : 0 < ss.length) (h1 : ss.length ≤ cap) (h2 : cap ≤ maxLen) (hs : ∀ s ∈ ss, s.size ≤ maxLen)
    (hc : ∀ j (hj : j < ss.length), w.cell? ⟨b, off + j, Option.none⟩ = Option.some (.string ss[j])) : StrsOk w (.slice (Option.some ⟨b, off, Option.none⟩) ss.length cap) ss :=
  ⟨.inr ⟨h0, b, off, cap, rfl, hc⟩, Nat.le_trans h1 h2, hs, _, _, rfl, h1, h2⟩
/-- its first part, its rest -/
theorem StrsOk.first {w : World} {b off cap : Nat} {ss : List ByteArray} (h1 : ss.length ≤ cap) (h2 : cap ≤ maxLen) (hs : ∀ s ∈ ss, s.size ≤ maxLen)
    (hc : ∀ j (hj : j < ss.length), w.cell? ⟨b, off + j, Option.none⟩ = Option.some (.string ss[j])) (k : Nat) (hk0 : 0 < k) (hk : k ≤ ss.length) :
    StrsOk w (.slice (Option.some ⟨b, off, Option.none⟩) k cap) (ss.take k) := by
  have hl : (ss.take k).length = k := by rw [List.length_take]; omega
  have := StrsOk.mk' (w := w) (b := b) (off := off) (cap := cap) (ss := ss.take k) (by omega) (by omega) h2 (fun s h => hs s (List.mem_of_mem_take h)) (fun j hj => by rw [hc j (by omega)]; simp)
  rwa [hl] at this
theorem StrsOk.rest {w : World} {b off cap : Nat} {ss : List ByteArray} (h1 : ss.length ≤ cap) (h2 : cap ≤ maxLen) (hs : ∀ s ∈ ss, s.size ≤ maxLen)
    (hc : ∀ j (hj : j < ss.length), w.cell? ⟨b, off + j, Option.none⟩ = Option.some (.string ss[j])) (k : Nat) (hk : k < ss.length) :
    StrsOk w (.slice (Option.some ⟨b, off + k, Option.none⟩) (ss.length - k) (cap - k)) (ss.drop k) := by
  have hl : (ss.drop k).length = ss.length - k := List.length_drop
  have := StrsOk.mk' (w := w) (b := b) (off := off + k) (cap := cap - k) (ss := ss.drop k) (by omega) (by omega) (by omega) (fun s h => hs s (List.mem_of_mem_drop h)) (fun j hj => by rw [Nat.add_assoc, hc (k + j) (by omega)]; simp)
  rwa [hl] at this
end Go.Proofs.YtcdnddjoonecdaaDoor
