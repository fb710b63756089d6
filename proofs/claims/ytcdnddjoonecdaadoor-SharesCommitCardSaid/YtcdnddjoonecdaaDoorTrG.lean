/-
  The program's tree package: the root of a list, by a closure that calls itself.
-/
import Derived.Test.YtcdnddjoonecdaaDoorTrA
import Derived.Test.YtcdnddjoonecdaaDoorTmB
import Derived.Laws.EntriesVeiled
set_option linter.unusedVariables false
set_option maxRecDepth 100000
namespace Go.Proofs.YtcdnddjoonecdaaDoor
open Go.RowKit
/-- the closure of rootOf -/
def rtF (Bl Bp : Nat) : Value := .func (.func 63) #[] #[.pointer (some ⟨Bl, 0, none⟩), .pointer (some ⟨Bp, 0, none⟩)]
structure CaptR (Bl Bp : Nat) (v : Value) (ss : List ByteArray) (w : World) : Prop where
  l : w.heap[Bl]? = some (.cells #[v] 35 (0, 0))
  p : w.heap[Bp]? = some (.cells #[rtF Bl Bp] 82 (0, 0))
  ok : StrsOk w v ss
  tab : TabOk w
theorem lt_of_obj {w : World} {b : Nat} {o : Obj} (h : w.heap[b]? = some o) : b < w.heap.size := by
  rcases Nat.lt_or_ge b w.heap.size with h' | h'
  · exact h'
  · simp [Array.getElem?_eq_none h'] at h
theorem CaptR.below {Bl Bp : Nat} {v : Value} {ss : List ByteArray} {w w' : World} (h : CaptR Bl Bp v ss w) (hb : Below w.heap.size w w') : CaptR Bl Bp v ss w' :=
  ⟨(hb.block _ (lt_of_obj h.l)).trans h.l, (hb.block _ (lt_of_obj h.p)).trans h.p, h.ok.below hb, h.tab.below hb⟩
theorem sp_next {w w' w2 : World} {a : Addr} {v : Value} (hb : Below w'.heap.size w' w2) (h : Below w.heap.size w w' ∧ w'.cell? a = some v) : Below w.heap.size w w2 ∧ w2.cell? a = some v := by
  refine ⟨h.1.trans (hb.mono h.1.size), ?_⟩
  have hlt : a.block < w'.heap.size := by
    rcases Nat.lt_or_ge a.block w'.heap.size with h' | h'
    · exact h'
    · have := h.2
      simp [World.cell?, Array.getElem?_eq_none h'] at this
  exact (hb.cell hlt).trans h.2
set_option maxHeartbeats 1000000 in
theorem prt_step (Bl Bp f n : Nat) (A B : ByteArray) (w : World) (v : Value) (ss : List ByteArray) (hC : CaptR Bl Bp v ss w) (h2 : 2 ≤ n) (hn : f + n ≤ 1099511627776) (hA : A.size ≤ 2147483648) (hB : B.size ≤ 2147483648)
    (hlo : ∀ w', Below w.heap.size w w' → Calls Tryd.prog 63 #[.int .i64 (f : Int), .int .i64 ((f : Int) + (half n : Nat)), .pointer (some ⟨Bl, 0, none⟩), .pointer (some ⟨Bp, 0, none⟩)] w' fun e w'' => e = .returned (.string A) ∧ Below w'.heap.size w' w'')
    (hhi : ∀ w', Below w.heap.size w w' → Calls Tryd.prog 63 #[.int .i64 ((f : Int) + (half n : Nat)), .int .i64 ((f : Int) + (n : Int)), .pointer (some ⟨Bl, 0, none⟩), .pointer (some ⟨Bp, 0, none⟩)] w' fun e w'' => e = .returned (.string B) ∧ Below w'.heap.size w' w'') :
    Calls Tryd.prog 63 #[.int .i64 (f : Int), .int .i64 ((f : Int) + (n : Int)), .pointer (some ⟨Bl, 0, none⟩), .pointer (some ⟨Bp, 0, none⟩)] w fun e w' => e = .returned (.string (nodeB A B)) ∧ Below w.heap.size w w' := by
  have c0 := cell_of_one hC.p
  have HT := Lib.hid hC.tab
  have HLO := Lib.hid hlo
  have HHI := Lib.hid hhi
  have S1 := Lib.hid hA
  have S2 := Lib.hid hB
  have k1 := half_pos h2
  have k2 := half_lt h2
  have i0 : (f : Int) + (n : Int) - (f : Int) = (n : Int) := by omega
  have i1 : IntKind.i64.wrap (n : Int) = (n : Int) := IntWalk.i64_in _ (by omega)
  have i2 : IntKind.i64.wrap ((f : Int) + (half n : Int)) = (f : Int) + (half n : Int) := IntWalk.i64_in _ (by omega)
  have t1 : ((n : Int) == 1) = false := beq_eq_false_iff_ne.2 (by omega)
  clear hlo hhi hA hB hC
  unfold rtF at c0
  go_enter Tryd.func63, Tryd.ntmps63
  go_wp2_with fail
  refine (split_any _ _ h2 (by omega)).mono ?_
  rintro e w1 ⟨rfl, rfl⟩
  go_wp2_with fail
  go_region_held3 (fun w' => Below w.heap.size w w' ∧ w'.cell? ⟨Bp, 0, none⟩ = some (.func (.func 63) #[] #[.pointer (some ⟨Bl, 0, none⟩), .pointer (some ⟨Bp, 0, none⟩)])) (first | (with_reducible assumption) | exact ⟨Below.drew (Below.refl _ _), c0⟩ | exact sp_next (by assumption) (by assumption)) (first | (go_at_call 63; first | ((with_reducible refine (HLO.out _ ?hb).mono ?_); (case hb => exact And.left (by assumption)); rintro e w2 ⟨rfl, hb2⟩) | ((with_reducible refine (HHI.out _ ?hb).mono ?_); (case hb => exact And.left (by assumption)); rintro e w2 ⟨rfl, hb2⟩)) | (go_at_call 64; refine (pnode_any _ _ _ S1.out S2.out (HT.out.below (And.left (by assumption)))).mono ?_; rintro e w2 ⟨rfl, hb2⟩) | fail "no arm")
  go_wp2_with fail
  go_ret
  exact ⟨rfl, And.left (by assumption)⟩
set_option maxHeartbeats 400000 in
theorem prt_one (Bl Bp f : Nat) (w : World) (v : Value) (ss : List ByteArray) (hC : CaptR Bl Bp v ss w) (hf : f < ss.length) (hn : ss.length ≤ 1099511627776) :
    Calls Tryd.prog 63 #[.int .i64 (f : Int), .int .i64 ((f : Int) + 1), .pointer (some ⟨Bl, 0, none⟩), .pointer (some ⟨Bp, 0, none⟩)] w fun e w' => e = .returned (.string ss[f]) ∧ Below w.heap.size w w' := by
  have c0 := cell_of_one hC.l
  obtain ⟨b, off, cap, rfl, h1, h3, hc⟩ := hC.ok.open_ (by omega)
  have hcell := hc f hf
  have i0 : (f : Int) + 1 - (f : Int) = 1 := by omega
  clear hC hc
  obtain ⟨x, hx⟩ : ∃ x, x = ss[f] := ⟨_, rfl⟩
  rw [← hx] at hcell ⊢
  clear hx
  obtain ⟨N, hN⟩ : ∃ N, N = ss.length := ⟨_, rfl⟩
  rw [← hN] at c0 hf
  clear hN h1
  go_enter Tryd.func63, Tryd.ntmps63
  go_wp2_with fail
  go_ret
  exact ⟨rfl, Below.refl _ _⟩
theorem rootB_part {l : List ByteArray} {f n : Nat} (h : f + n ≤ l.length) (h2 : 2 ≤ n) :
    rootB ((l.drop f).take n) = nodeB (rootB ((l.drop f).take (half n))) (rootB ((l.drop (f + half n)).take (n - half n))) := by
  have k1 := half_pos h2
  have k2 := half_lt h2
  have hl : ((l.drop f).take n).length = n := by rw [List.length_take, List.length_drop]; omega
  rw [rootB_big (by omega), hl, List.take_take, Nat.min_eq_left (by omega), List.drop_take, List.drop_drop]
theorem prt_any (Bl Bp : Nat) (v : Value) (ss : List ByteArray) (hS : Small ss) (hn : ss.length ≤ 1099511627776) : ∀ (n f : Nat) (w : World), 1 ≤ n → f + n ≤ ss.length → CaptR Bl Bp v ss w →
    Calls Tryd.prog 63 #[.int .i64 (f : Int), .int .i64 ((f : Int) + (n : Int)), .pointer (some ⟨Bl, 0, none⟩), .pointer (some ⟨Bp, 0, none⟩)] w fun e w' => e = .returned (.string (rootB ((ss.drop f).take n))) ∧ Below w.heap.size w w' := by
  intro n
  induction n using Nat.strongRecOn with
  | _ n ih =>
    intro f w h1 hf hC
    by_cases h2 : 2 ≤ n
    · have k1 := half_pos h2
      have k2 := half_lt h2
      rw [rootB_part hf h2]
      refine prt_step Bl Bp f n _ _ w v ss hC h2 (by omega) (rootB_size ((hS.drop _).take _)) (rootB_size ((hS.drop _).take _)) ?_ ?_
      · intro w' hb
        exact ih (half n) k2 f w' k1 (by omega) (hC.below hb)
      · intro w' hb
        have := ih (n - half n) (by omega) (f + half n) w' (by omega) (by omega) (hC.below hb)
        rw [show ((f + half n : Nat) : Int) = (f : Int) + (half n : Int) by omega, show (f : Int) + (half n : Int) + ((n - half n : Nat) : Int) = (f : Int) + (n : Int) by omega] at this
        exact this
    · obtain rfl : n = 1 := by omega
      have e : rootB ((ss.drop f).take 1) = ss[f] := by
        have : (ss.drop f).take 1 = [ss[f]] := by
          rw [List.drop_eq_getElem_cons (by omega)]; rfl
        rw [this, rootB_one]
      rw [e]
      exact prt_one Bl Bp f w v ss hC (by omega) hn
set_option maxHeartbeats 400000 in
theorem rootOf_nil (a : Option Addr) (cap : Nat) (w : World) (ht : TabOk w) :
    Calls Tryd.prog 43 #[.slice a 0 cap] w fun e w' => e = .returned (.string (rootB [])) ∧ Below w.heap.size w w' := by
  have HR := Lib.hid rootB_nil
  have HT := Lib.hid ht
  clear ht
  go_enter Tryd.func43, Tryd.ntmps43
  go_wp2_with fail
  refine (pempty_any _ (HT.out.below (below_lit w _))).mono ?_
  rintro e w1 ⟨rfl, hb1⟩
  go_wp2_with fail
  go_ret
  exact ⟨by rw [HR.out]; rfl, (below_lit w _).trans (hb1.mono (by simp))⟩
/-- the world in which the closure of rootOf has been laid -/
def rtW (v : Value) (w : World) : World :=
  (w.alloc (Obj.cells #[v] 35)).alloc (Obj.cells #[rtF w.heap.size (w.heap.size + 1)] 82)
theorem rtW_below (v : Value) (w : World) : Below w.heap.size w (rtW v w) := by
  unfold rtW
  exact ((Below.refl _ _).alloc (Nat.le_refl _) _).alloc (by simp) _
theorem rtW_l (v : Value) (w : World) : (rtW v w).heap[w.heap.size]? = some (.cells #[v] 35 (0, 0)) := by
  unfold rtW
  rw [Lib.alloc_old _ _ _ (by simp)]
  exact heap_last w _
theorem rtW_p (v : Value) (w : World) : (rtW v w).heap[w.heap.size + 1]? = some (.cells #[rtF w.heap.size (w.heap.size + 1)] 82 (0, 0)) := by
  unfold rtW
  generalize hW : w.alloc (Obj.cells #[v] 35) = W
  have : w.heap.size + 1 = W.heap.size := by rw [← hW]; simp
  rw [this]; exact heap_last W _
set_option maxHeartbeats 400000 in
theorem rootOf_full (v : Value) (ss : List ByteArray) (w : World) (h : StrsOk w v ss) (h0 : 0 < ss.length) (hn : ss.length ≤ 1099511627776) (hS : Small ss) (ht : TabOk w) :
    Calls Tryd.prog 43 #[v] w fun e w' => e = .returned (.string (rootB ss)) ∧ Below w.heap.size w w' := by
  obtain ⟨a, cap, rfl, hc1, hc2⟩ := h.room
  have hmf : ∀ (fn : Fn) (first cap : Array Value) (w : World), (Instr.makeFunc fn first cap).run Tryd.prog w = .ok (.func fn first cap) w := fun _ _ _ _ => rfl
  have hB := rtW_below (.slice a ss.length cap) w
  have hC : CaptR w.heap.size (w.heap.size + 1) (.slice a ss.length cap) ss (rtW (.slice a ss.length cap) w) := ⟨rtW_l _ w, rtW_p _ w, h.below hB, ht.below hB⟩
  have hF : (ss.drop 0).take ss.length = ss := by simp
  have HF := Lib.hid hF
  have c1 := cell_of_one hC.p
  have c2 := cell_of_one hC.l
  have HC := Lib.hid hC
  have HB := Lib.hid hB
  have HS := Lib.hid hS
  have t1 : ((ss.length : Int) == 0) = false := beq_eq_false_iff_ne.2 (by omega)
  clear h hC hB ht hF hS
  unfold rtW rtF at c1
  unfold rtW rtF at c2
  go_enter Tryd.func43, Tryd.ntmps43
  go_wp2_with fail
  have P := prt_any _ _ _ ss HS.out hn ss.length 0 _ h0 (by omega) HC.out
  rw [show ((0 : Nat) : Int) + (ss.length : Int) = (ss.length : Int) by omega] at P
  refine P.mono ?_
  rintro e w2 ⟨rfl, hb2⟩
  rw [HF.out]
  go_wp2_with fail
  go_ret
  exact ⟨rfl, HB.out.trans (hb2.mono HB.out.size)⟩
theorem rootOf_any (v : Value) (ss : List ByteArray) (w : World) (h : StrsOk w v ss) (hn : ss.length ≤ 1099511627776) (hS : Small ss) (ht : TabOk w) :
    Calls Tryd.prog 43 #[v] w fun e w' => e = .returned (.string (rootB ss)) ∧ Below w.heap.size w w' := by
  by_cases h0 : 0 < ss.length
  · exact rootOf_full v ss w h h0 hn hS ht
  · obtain rfl : ss = [] := List.eq_nil_of_length_eq_zero (by omega)
    obtain ⟨a, cap, rfl, _, _⟩ := h.room
    exact rootOf_nil a cap w ht
end Go.Proofs.YtcdnddjoonecdaaDoor
