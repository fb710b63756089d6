/-
  The contracts of the reference Few and Same: for every lists of texts.
-/
import Derived.Test.YtbiekbppenccdaaDoorDigDec
import Derived.Deep.QuietTactic
import Derived.BigQuiet
import Derived.Lib.Strings
import Derived.SliceStrings
set_option linter.unusedVariables false
namespace Go.Proofs.YtbiekbppenccdaaDoor
open Go.RowKit
/-- A slice value that reads as these strings. -/
def StrsAt (w : World) (v : Value) (ss : List ByteArray) : Prop :=
  (ss = [] ∧ ∃ a cap, v = .slice a 0 cap) ∨
  (0 < ss.length ∧ ∃ b off cap, v = .slice (some ⟨b, off, none⟩) ss.length cap ∧ ∀ j (hj : j < ss.length), w.cell? ⟨b, off + j, none⟩ = some (.string ss[j]))
theorem StrsAt.below {w w' : World} {v : Value} {ss : List ByteArray} (h : StrsAt w v ss) (hb : Below w.heap.size w w') : StrsAt w' v ss := by
  rcases h with h | ⟨h0, b, off, cap, hv, hc⟩
  · exact .inl h
  · refine .inr ⟨h0, b, off, cap, hv, fun j hj => ?_⟩
    have hlt : b < w.heap.size := by
      have := hc 0 h0
      rcases Nat.lt_or_ge b w.heap.size with h' | h'
      · exact h'
      · simp [World.cell?, Array.getElem?_eq_none h'] at this
    rw [hb.cell (p := ⟨b, off + j, none⟩) hlt]
    exact hc j hj
def fewB (ss : List ByteArray) (m : Int) : Bool := (ss.all fun s => decide ((s.size : Int) ≤ m)) && decide (ss.length ≤ 30)
theorem few_empty (a : Option Addr) (cap : Nat) (m : Int) (w : World) :
    Calls Tryd.prog 31 #[.slice a 0 cap, .int .i64 m] w fun e w' => e = .returned (.bool (fewB [] m)) ∧ w = w' := by
  go_enter Tryd.func31, Tryd.ntmps31
  go_wp2_with fail
  refine wp_loop_rounds 1 ?_
  rw [rounds_succ]
  go_wp2_with fail
  go_ret
  exact ⟨rfl, rfl⟩
theorem few_full (b off cap : Nat) (ss : List ByteArray) (m : Int) (w : World) (h0 : 0 < ss.length) (hl : ss.length ≤ maxLen) (hsz : ∀ s ∈ ss, s.size ≤ maxLen) (hc : ∀ j (hj : j < ss.length), w.cell? ⟨b, off + j, none⟩ = some (.string ss[j])) :
    Calls Tryd.prog 31 #[.slice (some ⟨b, off, none⟩) ss.length cap, .int .i64 m] w fun e w' => e = .returned (.bool (fewB ss m)) ∧ w = w' := by
  unfold maxLen at hl
  have HC := Lib.hid hc
  have HS := Lib.hid hsz
  clear hc hsz
  go_enter Tryd.func31, Tryd.ntmps31
  go_wp2_with fail
  go_loop [5] (fun i => ∃ k : Nat, k ≤ ss.length ∧ i = .int .i64 k ∧ Hid (∀ j (hj : j < ss.length), j < k → (ss[j].size : Int) ≤ m)) (fun i => ss.length - (intOf i).toNat)
  case atStart => exact ⟨0, by omega, rfl, (show _ from fun j _ h => absurd h (by omega))⟩
  case round =>
    obtain ⟨k, hk, rfl, hx⟩ := hrel
    by_cases hlt : k < ss.length
    · have hcell := HC.out k hlt
      have hs := HS.out _ (List.getElem_mem hlt)
      unfold maxLen at hs
      by_cases hm : (ss[k].size : Int) ≤ m
      · go_wp2_with fail
        go_round
        case rel =>
          refine ⟨k + 1, by omega, by go_num, (show _ from fun j hj h => ?_)⟩
          by_cases e : j = k
          · subst e; exact hm
          · exact hx.out j hj (by omega)
        case measure => simp [intOf]; omega
      · have hb : fewB ss m = false := by
          unfold fewB
          rw [show (ss.all fun s => decide ((s.size : Int) ≤ m)) = false from ?_]
          · rfl
          · rw [List.all_eq_false]
            exact ⟨_, List.getElem_mem hlt, by simp [hm]⟩
        have HB := Lib.hid hb
        clear hb
        go_wp2_with fail
        go_ret
        exact ⟨by rw [HB.out]; rfl, rfl⟩
    · obtain rfl : k = ss.length := by omega
      have hb : fewB ss m = decide ((ss.length : Int) ≤ 30) := by
        unfold fewB
        rw [show (ss.all fun s => decide ((s.size : Int) ≤ m)) = true from ?_]
        · simp; omega
        · rw [List.all_eq_true]
          intro s hs
          obtain ⟨j, hj, rfl⟩ := List.getElem_of_mem hs
          exact decide_eq_true (hx.out j hj hj)
      have HB := Lib.hid hb
      clear hb
      go_wp2_with fail
      go_ret
      exact ⟨by rw [HB.out]; rfl, rfl⟩
theorem few_any (v : Value) (ss : List ByteArray) (m : Int) (w : World) (h : StrsAt w v ss) (hl : ss.length ≤ maxLen) (hsz : ∀ s ∈ ss, s.size ≤ maxLen) :
    Calls Tryd.prog 31 #[v, .int .i64 m] w fun e w' => e = .returned (.bool (fewB ss m)) ∧ w = w' := by
  rcases h with ⟨rfl, a, cap, rfl⟩ | ⟨h0, b, off, cap, rfl, hc⟩
  · exact few_empty a cap m w
  · exact few_full b off cap ss m w h0 hl hsz hc
theorem str_beq (a b : ByteArray) : (a.toList == b.toList) = decide (a = b) := by
  rw [Lib.toList_data, Lib.toList_data]
  by_cases h : a = b
  · subst h; simp
  · rw [decide_eq_false h]
    have : a.data.toList ≠ b.data.toList := fun e => h (ByteArray.ext (Array.ext' e))
    exact beq_eq_false_iff_ne.2 this
def sameB (ss tt : List ByteArray) : Bool := decide (ss = tt)
/-- of different lengths -/
theorem same_diff (a : Option Addr) (n cap : Nat) (b : Option Addr) (m capb : Nat) (w : World) (hn : n ≤ maxLen) (hm : m ≤ maxLen) (h : n ≠ m) :
    Calls Tryd.prog 19 #[.slice a n cap, .slice b m capb] w fun e w' => e = .returned (.bool false) ∧ w = w' := by
  unfold maxLen at hn hm
  have t : ((n : Int) != (m : Int)) = true := by simp; omega
  go_enter Tryd.func19, Tryd.ntmps19
  go_wp2_with fail
  go_ret
  exact ⟨rfl, rfl⟩
theorem same_empty (a : Option Addr) (cap : Nat) (b : Option Addr) (capb : Nat) (w : World) :
    Calls Tryd.prog 19 #[.slice a 0 cap, .slice b 0 capb] w fun e w' => e = .returned (.bool true) ∧ w = w' := by
  go_enter Tryd.func19, Tryd.ntmps19
  go_wp2_with fail
  refine wp_loop_rounds 1 ?_
  rw [rounds_succ]
  go_wp2_with fail
  go_ret
  exact ⟨rfl, rfl⟩
theorem same_full (b off cap b' off' cap' : Nat) (ss tt : List ByteArray) (w : World) (hlen : ss.length = tt.length) (hl : ss.length ≤ maxLen)
    (hc : ∀ j (hj : j < ss.length), w.cell? ⟨b, off + j, none⟩ = some (.string ss[j])) (hd : ∀ j (hj : j < tt.length), w.cell? ⟨b', off' + j, none⟩ = some (.string tt[j])) :
    Calls Tryd.prog 19 #[.slice (some ⟨b, off, none⟩) ss.length cap, .slice (some ⟨b', off', none⟩) ss.length cap'] w fun e w' => e = .returned (.bool (sameB ss tt)) ∧ ∃ n, w' = w.drewN n := by
  unfold maxLen at hl
  have HC := Lib.hid hc
  have HD := Lib.hid hd
  have HL := Lib.hid hlen
  clear hc hd hlen
  have t : ((ss.length : Int) != (ss.length : Int)) = false := by simp
  go_enter Tryd.func19, Tryd.ntmps19
  go_wp2_with fail
  go_loopw [5] (fun i wr => ∃ k : Nat, k ≤ ss.length ∧ i = .int .i64 k ∧ Hid (ss.take k = tt.take k) ∧ ∃ n, wr = w.drewN n) (fun i _ => ss.length - (intOf i).toNat)
  case atStart => exact ⟨0, by omega, rfl, (show _ = _ by simp), 0, rfl⟩
  case round =>
    obtain ⟨k, hk, rfl, hx, n, rfl⟩ := hrel
    clear t
    by_cases hlt : k < ss.length
    · have hlt' : k < tt.length := by have := HL.out; omega
      have c1 := HC.out k hlt
      have c2 := HD.out k hlt'
      by_cases he : ss[k] = tt[k]
      · have e1 : (ss[k].toList == tt[k].toList) = true := by rw [str_beq]; exact decide_eq_true he
        have HE := Lib.hid he
        clear he
        go_wp2_with fail
        go_quiet (fail)
        go_wp2_with fail
        go_roundw
        case rel => exact ⟨k + 1, by omega, by go_num, (show _ = _ by rw [List.take_succ_eq_append_getElem hlt, List.take_succ_eq_append_getElem hlt', hx.out, HE.out]), n + nq, rfl⟩
        case measure => simp [intOf]; omega
      · have e1 : (ss[k].toList == tt[k].toList) = false := by rw [str_beq]; exact decide_eq_false he
        have HE := Lib.hid he
        clear he
        go_wp2_with fail
        have hb : sameB ss tt = false := decide_eq_false (fun e => HE.out (by subst e; rfl))
        have HB := Lib.hid hb
        clear hb
        go_quiet (fail)
        go_wp2_with fail
        go_ret
        exact ⟨by rw [HB.out]; rfl, n + nq, by rw [World.drewN_drewN]⟩
    · obtain rfl : k = ss.length := by omega
      have hb : sameB ss tt = true := by
        have h1 := hx.out
        rw [List.take_of_length_le (Nat.le_refl _), List.take_of_length_le (by rw [HL.out]; exact Nat.le_refl _)] at h1
        exact decide_eq_true h1
      have HB := Lib.hid hb
      clear hb
      go_wp2_with fail
      go_ret
      exact ⟨by rw [HB.out]; rfl, n, rfl⟩
theorem same_any (v u : Value) (ss tt : List ByteArray) (w : World) (h : StrsAt w v ss) (g : StrsAt w u tt) (hl : ss.length ≤ maxLen) (hl' : tt.length ≤ maxLen) :
    Calls Tryd.prog 19 #[v, u] w fun e w' => e = .returned (.bool (sameB ss tt)) ∧ ∃ n, w' = w.drewN n := by
  by_cases hlen : ss.length = tt.length
  · rcases h with ⟨rfl, a, cap, rfl⟩ | ⟨h0, b, off, cap, rfl, hc⟩
    · rcases g with ⟨rfl, a', cap', rfl⟩ | ⟨h0', b', off', cap', rfl, hc'⟩
      · refine (same_empty a cap a' cap' w).mono ?_
        rintro e w' ⟨rfl, rfl⟩
        exact ⟨rfl, 0, rfl⟩
      · simp only [List.length_nil] at hlen; omega
    · rcases g with ⟨rfl, a', cap', rfl⟩ | ⟨h0', b', off', cap', rfl, hc'⟩
      · simp only [List.length_nil] at hlen; omega
      · rw [← hlen]
        exact same_full b off cap b' off' cap' ss tt w hlen hl hc hc'
  · have hb : sameB ss tt = false := decide_eq_false (fun e => hlen (by rw [e]))
    have hv : ∃ a cap, v = .slice a ss.length cap := by
      rcases h with ⟨rfl, a, cap, rfl⟩ | ⟨h0, b, off, cap, rfl, hc⟩
      · exact ⟨_, _, rfl⟩
      · exact ⟨_, _, rfl⟩
    have hu : ∃ a cap, u = .slice a tt.length cap := by
      rcases g with ⟨rfl, a, cap, rfl⟩ | ⟨h0, b, off, cap, rfl, hc⟩
      · exact ⟨_, _, rfl⟩
      · exact ⟨_, _, rfl⟩
    obtain ⟨a, cap, rfl⟩ := hv
    obtain ⟨a', cap', rfl⟩ := hu
    refine (same_diff a _ cap a' _ cap' w hl hl' hlen).mono ?_
    rintro e w' ⟨rfl, rfl⟩
    exact ⟨by rw [hb], 0, rfl⟩
/-- a slice of strings that came in -/
structure StrsOk (w : World) (v : Value) (ss : List ByteArray) : Prop where
  at_ : StrsAt w v ss
  len : ss.length ≤ maxLen
  sizes : ∀ s ∈ ss, s.size ≤ maxLen
  room : ∃ a cap, v = .slice a ss.length cap ∧ ss.length ≤ cap ∧ cap ≤ maxLen
theorem StrsOk.none {w : World} : StrsOk w (.slice .none 0 0) [] := ⟨.inl ⟨rfl, _, _, rfl⟩, by simp, (by intro s h; cases h), _, _, rfl, Nat.le_refl _, by simp⟩
theorem StrsOk.some {w : World} {x : Addr} {len cap : Nat} {ss : List ByteArray} (hl : len ≤ cap) (hm : cap ≤ maxLen) (hz : ss.length = cap)
    (hc : ∀ i, i < ss.length → w.cell? (x.add i) = Option.some (.string (ss.getD i ByteArray.empty))) (hs : ∀ s ∈ ss, s.size ≤ maxLen) : StrsOk w (.slice (Option.some x) len cap) (ss.take len) := by
  have hlen : (ss.take len).length = len := by rw [List.length_take]; omega
  refine ⟨?_, by rw [hlen]; omega, (fun s h => hs s (List.mem_of_mem_take h)), _, _, by rw [hlen], by rw [hlen]; exact hl, hm⟩
  by_cases h0 : len = 0
  · subst h0
    exact .inl ⟨by simp, _, _, rfl⟩
  · obtain ⟨b, off, spot⟩ := x
    have hspot : spot = Option.none := by simpa [Addr.add] using World.cell?_spot (hc 0 (by omega))
    subst hspot
    refine .inr ⟨by omega, b, off, cap, by rw [hlen], fun j hj => ?_⟩
    have h := hc j (by omega)
    rw [show (⟨b, off, Option.none⟩ : Addr).add j = ⟨b, off + j, Option.none⟩ from by unfold Addr.add; split <;> simp_all] at h
    rw [h]
    have hj' : j < ss.length := by omega
    simp [List.getD, hj']
theorem StrsOk.below {w w' : World} {v : Value} {ss : List ByteArray} (h : StrsOk w v ss) (hb : Below w.heap.size w w') : StrsOk w' v ss := ⟨h.at_.below hb, h.len, h.sizes, h.room⟩
/-- one that is not empty, at its address -/
theorem StrsOk.open_ {w : World} {v : Value} {ss : List ByteArray} (h : StrsOk w v ss) (h0 : 0 < ss.length) :
    ∃ b off cap, v = .slice (Option.some ⟨b, off, Option.none⟩) ss.length cap ∧ ss.length ≤ cap ∧ cap ≤ maxLen ∧ ∀ j (hj : j < ss.length), w.cell? ⟨b, off + j, Option.none⟩ = Option.some (.string ss[j]) := by
  rcases h.at_ with ⟨rfl, _⟩ | ⟨_, b, off, cap, rfl, hc⟩
  · simp at h0
  · obtain ⟨a, cap', e, h1, h2⟩ := h.room
    simp only [Value.slice.injEq] at e
    obtain ⟨_, _, rfl⟩ := e
    exact ⟨b, off, cap, rfl, h1, h2, hc⟩
theorem StrsOk.mk' {w : World} {b off cap : Nat} {ss : List ByteArray} (h0 : 0 < ss.length) (h1 : ss.length ≤ cap) (h2 : cap ≤ maxLen) (hs : ∀ s ∈ ss, s.size ≤ maxLen)
    (hc : ∀ j (hj : j < ss.length), w.cell? ⟨b, off + j, Option.none⟩ = Option.some (.string ss[j])) : StrsOk w (.slice (Option.some ⟨b, off, Option.none⟩) ss.length cap) ss :=
  ⟨.inr ⟨h0, b, off, cap, rfl, hc⟩, Nat.le_trans h1 h2, hs, _, _, rfl, h1, h2⟩
/-- its first part, its rest -/
theorem StrsOk.first {w : World} {b off cap : Nat} {ss : List ByteArray} (h1 : ss.length ≤ cap) (h2 : cap ≤ maxLen) (hs : ∀ s ∈ ss, s.size ≤ maxLen)
    (hc : ∀ j (hj : j < ss.length), w.cell? ⟨b, off + j, Option.none⟩ = Option.some (.string ss[j])) (k : Nat) (hk0 : 0 < k) (hk : k ≤ ss.length) :
    StrsOk w (.slice (Option.some ⟨b, off, Option.none⟩) k cap) (ss.take k) := by
  have hl : (ss.take k).length = k := by rw [List.length_take]; omega
  have := StrsOk.mk' (w := w) (b := b) (off := off) (cap := cap) (ss := ss.take k) (by omega) (by omega) h2 (fun s h => hs s (List.mem_of_mem_take h)) (fun j hj => by rw [hc j (by omega)]; simp)
  rwa [hl] at this
theorem StrsOk.rest {w : World} {b off cap : Nat} {ss : List ByteArray} (h1 : ss.length ≤ cap) (h2 : cap ≤ maxLen) (hs : ∀ s ∈ ss, s.size ≤ maxLen)
    (hc : ∀ j (hj : j < ss.length), w.cell? ⟨b, off + j, Option.none⟩ = Option.some (.string ss[j])) (k : Nat) (hk : k < ss.length) :
    StrsOk w (.slice (Option.some ⟨b, off + k, Option.none⟩) (ss.length - k) (cap - k)) (ss.drop k) := by
  have hl : (ss.drop k).length = ss.length - k := List.length_drop
  have := StrsOk.mk' (w := w) (b := b) (off := off + k) (cap := cap - k) (ss := ss.drop k) (by omega) (by omega) (by omega) (fun s h => hs s (List.mem_of_mem_drop h)) (fun j hj => by rw [Nat.add_assoc, hc (k + j) (by omega)]; simp)
  rwa [hl] at this
end Go.Proofs.YtbiekbppenccdaaDoor
