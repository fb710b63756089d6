/-
  Lists of limbs in memory, a row of the call's own, the carry that a closure keeps, and the list without the zeros at its end.
-/
import Derived.Test.YtfkdhkbegfbkaaaDoorLmPure
import Derived.Test.YtfkdhkbegfbkaaaDoorNatAt
import Derived.Laws.OwnMore
import Derived.OwnWalk
import Derived.Deep.RegionHeld3
import Derived.Laws.EntriesVeiled
set_option linter.unusedVariables false
set_option maxRecDepth 100000
namespace Go.Proofs.YtfkdhkbegfbkaaaDoor
open Go.RowKit
/-- a slice that holds a list, in a block with a property -/
structure IntsIn (p : Nat → Prop) (w : World) (v : Value) (l : List Nat) : Prop where
  open_ : ∃ a cap, v = .slice a l.length cap ∧ l.length ≤ cap ∧ cap ≤ 9223372036854775807 ∧ (0 < l.length → ∃ b off, a = some ⟨b, off, none⟩ ∧ p b ∧ ∀ j, j < l.length → w.cell? ⟨b, off + j, none⟩ = some (.int .i64 ((l.getD j 0 : Nat) : Int)))
theorem cell_lt {w : World} {b j : Nat} {v : Value} (h : w.cell? ⟨b, j, none⟩ = some v) : b < w.heap.size := by
  rcases Nat.lt_or_ge b w.heap.size with h' | h'
  · exact h'
  · simp [World.cell?, Array.getElem?_eq_none h'] at h
theorem IntsIn.keep {p : Nat → Prop} {w w' : World} {v : Value} {l : List Nat} (h : IntsIn p w v l) (hk : ∀ b, p b → b < w.heap.size → w'.heap[b]? = w.heap[b]?) : IntsIn p w' v l := by
  obtain ⟨a, cap, e, h1, h2, h3⟩ := h.open_
  refine ⟨a, cap, e, h1, h2, fun h0 => ?_⟩
  obtain ⟨b, off, e2, hp, hc⟩ := h3 h0
  refine ⟨b, off, e2, hp, fun j hj => ?_⟩
  rw [← hc j hj]
  simp only [World.cell?, hk b hp (cell_lt (hc j hj))]
theorem IntsIn.below {p : Nat → Prop} {w w' : World} {v : Value} {l : List Nat} (h : IntsIn p w v l) (hb : Below w.heap.size w w') : IntsIn p w' v l := h.keep fun b _ hlt => hb.block b hlt
theorem IntsIn.weaken {p q : Nat → Prop} {w : World} {v : Value} {l : List Nat} (h : IntsIn p w v l) (hq : ∀ b, p b → b < w.heap.size → q b) : IntsIn q w v l := by
  obtain ⟨a, cap, e, h1, h2, h3⟩ := h.open_
  refine ⟨a, cap, e, h1, h2, fun h0 => ?_⟩
  obtain ⟨b, off, e2, hp, hc⟩ := h3 h0
  exact ⟨b, off, e2, hq b hp (cell_lt (hc 0 h0)), hc⟩
theorem IntsIn.nil (p : Nat → Prop) (w : World) (a : Option Addr) (cap : Nat) (h : cap ≤ 9223372036854775807) : IntsIn p w (.slice a 0 cap) [] := ⟨a, cap, rfl, Nat.zero_le _, h, fun h0 => absurd h0 (by simp)⟩
def cellsI (S : List Nat) : List Value := S.map fun d : Nat => Value.int .i64 ((d : Nat) : Int)
theorem infoI : (Tryd.prog.info? 3).map (fun i => (i.zero, i.size, i.bytes)) = some (some (.int .i64 0), 1, 8) := by kernel_rfl
/-- a row of ints of the call's own -/
def RowAt (H L : Nat) (S : List Nat) (w : World) : Prop := S.length = L ∧ w.ownsRow H 3 1 (.slice (some ⟨H, 0, none⟩) L L) L (cellsI S)
theorem RowAt.cell {H L : Nat} {S : List Nat} {w : World} (h : RowAt H L S w) (j : Nat) (hj : j < L) : w.cell? ⟨H, j, none⟩ = some (.int .i64 ((S.getD j 0 : Nat) : Int)) := by
  rw [World.ownsRow.cellAt h.2 j (by omega)]
  have hl : j < S.length := by rw [h.1]; exact hj
  simp [cellsI, List.getD, hl]
theorem RowAt.frozen {H L : Nat} {S : List Nat} {w : World} (h : RowAt H L S w) (j : Nat) : w.frozen? ⟨H, j, none⟩ = false := World.ownsRow.frozenAt h.2 j
theorem RowAt.store {H L : Nat} {S : List Nat} {w : World} (h : RowAt H L S w) (j x : Nat) : RowAt H L (S.set j x) (w.setCell ⟨H, j, none⟩ (.int .i64 (x : Int))) := by
  refine ⟨by rw [List.length_set, h.1], ?_⟩
  have := (World.ownsRow.stored h.2 j (.int .i64 (x : Int))).1
  rw [show cellsI (S.set j x) = (cellsI S).set j (.int .i64 (x : Int)) by simp [cellsI, List.map_set]]
  exact this
theorem RowAt.lt {H L : Nat} {S : List Nat} {w : World} (h : RowAt H L S w) : H < w.heap.size := (World.ownsRow.lt h.2 H rfl).2
/-- all blocks but one are as they were -/
structure Bes (B : Nat) (w w' : World) : Prop where
  os : w'.os = w.os
  tape : w'.tape = w.tape
  output : w'.output = w.output
  size : w.heap.size ≤ w'.heap.size
  block : ∀ k, k < w.heap.size → k ≠ B → w'.heap[k]? = w.heap[k]?
theorem Bes.refl (B : Nat) (w : World) : Bes B w w := ⟨rfl, rfl, rfl, Nat.le_refl _, fun _ _ _ => rfl⟩
theorem Bes.trans {B : Nat} {a b c : World} (h : Bes B a b) (k : Bes B b c) : Bes B a c :=
  ⟨k.os.trans h.os, k.tape.trans h.tape, k.output.trans h.output, Nat.le_trans h.size k.size, fun i hi hn => (k.block i (Nat.lt_of_lt_of_le hi h.size) hn).trans (h.block i hi hn)⟩
theorem Bes.of {B : Nat} {w w' : World} (h : Below w.heap.size w w') : Bes B w w' := ⟨h.os, h.tape, h.output, h.size, fun k hk _ => h.block k hk⟩
theorem Bes.below {B : Nat} {w w' : World} (h : Bes B w w') (hB : B ≤ w.heap.size) : Below B w w' := ⟨h.os, h.tape, h.output, h.size, fun k hk => h.block k (by omega) (by omega)⟩
theorem Bes.cell {B : Nat} {w w' : World} {b j : Nat} {v : Value} (h : Bes B w w') (hn : b ≠ B) (hc : w.cell? ⟨b, j, none⟩ = some v) : w'.cell? ⟨b, j, none⟩ = some v := by
  rw [← hc]; simp only [World.cell?, h.block b (cell_lt hc) hn]
theorem Bes.set (w : World) (B i : Nat) (u : Value) : Bes B w (w.setCell ⟨B, i, none⟩ u) :=
  ⟨rfl, rfl, rfl, by simp [World.setCell], fun k _ hn => Below.heap_setCell _ _ _ _ hn⟩
theorem RowAt.bes {B H L : Nat} {S : List Nat} {w w' : World} (h : RowAt H L S w) (hb : Bes B w w') (hn : H ≠ B) : RowAt H L S w' :=
  ⟨h.1, World.ownsRow.kept (row := some B) h.2 ⟨hb.os, hb.tape, hb.output, hb.size, fun k hk hne => hb.block k hk (fun e => by subst e; exact hne rfl)⟩ (.inr (by simpa [Value.ownBlock] using hn))⟩
theorem RowAt.below {H L : Nat} {S : List Nat} {w w' : World} (h : RowAt H L S w) (hb : Below w.heap.size w w') : RowAt H L S w' :=
  h.bes (B := w.heap.size) (Bes.of hb) (Nat.ne_of_lt h.lt)
/-- a row serves as a list -/
theorem RowAt.ints {H L : Nat} {S : List Nat} {w : World} (p : Nat → Prop) (h : RowAt H L S w) (hp : p H) (hL : L ≤ 1000000) : IntsIn p w (.slice (some ⟨H, 0, none⟩) L L) S :=
  ⟨some ⟨H, 0, none⟩, L, by rw [h.1], by rw [h.1]; exact Nat.le_refl _, Nat.le_trans hL (by decide), fun _ => ⟨H, 0, rfl, hp, fun j hj => by rw [Nat.zero_add]; exact h.cell j (by rw [← h.1]; exact hj)⟩⟩
/-- the cell of a closure -/
def CarAt (C c : Nat) (w : World) : Prop := w.heap[C]? = some (.cells #[.int .i64 (c : Int)] 3 (0, 0))
theorem CarAt.cell {C c : Nat} {w : World} (h : CarAt C c w) : w.cell? ⟨C, 0, none⟩ = some (.int .i64 (c : Int)) := by rw [Lib.cell_of_heap h]; rfl
theorem CarAt.frozen {C c : Nat} {w : World} (h : CarAt C c w) : w.frozen? ⟨C, 0, none⟩ = false := Lib.frozen_of_heap h 0
theorem CarAt.lt {C c : Nat} {w : World} (h : CarAt C c w) : C < w.heap.size := cell_lt h.cell
theorem CarAt.store {C c : Nat} {w : World} (h : CarAt C c w) (d : Nat) : CarAt C d (w.setCell ⟨C, 0, none⟩ (.int .i64 (d : Int))) := by
  unfold CarAt; rw [heap_setCell_same w _ 0 _ _ _ h]; rfl
theorem CarAt.bes {B C c : Nat} {w w' : World} (h : CarAt C c w) (hb : Bes B w w') (hn : C ≠ B) : CarAt C c w' := (hb.block C h.lt hn).trans h
theorem carrier_any (w : World) : Calls Tryd.prog 51 #[] w fun e w' => e = .returned (.func (.func 71) #[] #[.pointer (some ⟨w.heap.size, 0, none⟩)]) ∧ w' = w.alloc (.cells #[.int .i64 0] 3) := by
  have hmf : ∀ (fn : Fn) (first cap : Array Value) (w : World), (Instr.makeFunc fn first cap).run Tryd.prog w = .ok (.func fn first cap) w := fun _ _ _ _ => rfl
  go_enter Tryd.func51, Tryd.ntmps51
  go_wp2_with fail
  go_ret
  exact ⟨rfl, rfl⟩
theorem borrower_any (w : World) : Calls Tryd.prog 54 #[] w fun e w' => e = .returned (.func (.func 72) #[] #[.pointer (some ⟨w.heap.size, 0, none⟩)]) ∧ w' = w.alloc (.cells #[.int .i64 0] 3) := by
  have hmf : ∀ (fn : Fn) (first cap : Array Value) (w : World), (Instr.makeFunc fn first cap).run Tryd.prog w = .ok (.func fn first cap) w := fun _ _ _ _ => rfl
  go_enter Tryd.func54, Tryd.ntmps54
  go_wp2_with fail
  go_ret
  exact ⟨rfl, rfl⟩
theorem carried_any (C x c : Nat) (w : World) (hC : CarAt C c w) (hx : x + c ≤ 4000000000000000000) :
    Calls Tryd.prog 71 #[.int .i64 (x : Int), .pointer (some ⟨C, 0, none⟩)] w fun e w' => e = .returned (.int .i64 (((x + c) % Lim.B : Nat) : Int)) ∧ w' = w.setCell ⟨C, 0, none⟩ (.int .i64 (((x + c) / Lim.B : Nat) : Int)) := by
  have c0 := hC.cell
  have f0 := hC.frozen
  clear hC
  obtain ⟨d, hd⟩ : ∃ d, d = (x + c) % Lim.B := ⟨_, rfl⟩
  obtain ⟨e, he⟩ : ∃ e, e = (x + c) / Lim.B := ⟨_, rfl⟩
  rw [← hd, ← he]
  rw [Lim.B_eq] at hd he
  have i1 : IntKind.i64.wrap ((x : Int) + (c : Int)) = (x : Int) + (c : Int) := IntWalk.i64_in _ (by omega)
  have r1 : ((x : Int) + (c : Int)).tmod 1000000000 = (d : Int) := by rw [Int.tmod_eq_emod_of_nonneg (by omega)]; omega
  have r2 : ((x : Int) + (c : Int)).tdiv 1000000000 = (e : Int) := by rw [Int.tdiv_eq_ediv_of_nonneg (by omega)]; omega
  have i2 : IntKind.i64.wrap (d : Int) = (d : Int) := IntWalk.i64_in _ (by omega)
  have i3 : IntKind.i64.wrap (e : Int) = (e : Int) := IntWalk.i64_in _ (by omega)
  clear hd he
  go_enter Tryd.func71, Tryd.ntmps71
  go_wp2_with fail
  go_ret
  exact ⟨rfl, rfl⟩
theorem carried_as (C x c d e' : Nat) (w : World) (hd : d = (x + c) % Lim.B) (he : e' = (x + c) / Lim.B) (hC : CarAt C c w) (hx : x + c ≤ 4000000000000000000) :
    Calls Tryd.prog 71 #[.int .i64 (x : Int), .pointer (some ⟨C, 0, none⟩)] w fun e w' => e = .returned (.int .i64 (d : Int)) ∧ w' = w.setCell ⟨C, 0, none⟩ (.int .i64 (e' : Int)) := by
  rw [hd, he]; exact carried_any C x c w hC hx
theorem carried_zero (C c : Nat) (w : World) (hC : CarAt C c w) (hc : c < Lim.B) :
    Calls Tryd.prog 71 #[.int .i64 0, .pointer (some ⟨C, 0, none⟩)] w fun e w' => e = .returned (.int .i64 (c : Int)) ∧ w' = w.setCell ⟨C, 0, none⟩ (.int .i64 ((0 : Nat) : Int)) :=
  carried_as C 0 c c 0 w (by rw [Nat.zero_add, Nat.mod_eq_of_lt hc]) (by rw [Nat.zero_add, Nat.div_eq_of_lt hc]) hC (by rw [Lim.B_eq] at hc; omega)
theorem less_any (C x y c : Nat) (w : World) (hC : CarAt C c w) (hx : x < Lim.B) (hy : y < Lim.B) (hc : c ≤ 1) :
    Calls Tryd.prog 72 #[.int .i64 (x : Int), .int .i64 (y : Int), .pointer (some ⟨C, 0, none⟩)] w fun e w' => e = .returned (.int .i64 (((Lim.B + x - y - c) % Lim.B : Nat) : Int)) ∧ w' = w.setCell ⟨C, 0, none⟩ (.int .i64 ((1 - (Lim.B + x - y - c) / Lim.B : Nat) : Int)) := by
  have c0 := hC.cell
  have f0 := hC.frozen
  clear hC
  obtain ⟨d, hd⟩ : ∃ d, d = (Lim.B + x - y - c) % Lim.B := ⟨_, rfl⟩
  obtain ⟨e, he⟩ : ∃ e, e = (Lim.B + x - y - c) / Lim.B := ⟨_, rfl⟩
  obtain ⟨b, hb⟩ : ∃ b, b = 1 - e := ⟨_, rfl⟩
  rw [← hd, ← he, ← hb]
  rw [Lim.B_eq] at hd he hx hy
  have he1 : e ≤ 1 := by omega
  have i1 : IntKind.i64.wrap ((1000000000 : Int) + (x : Int)) = 1000000000 + (x : Int) := IntWalk.i64_in _ (by omega)
  have i2 : IntKind.i64.wrap ((1000000000 : Int) + (x : Int) - (y : Int)) = 1000000000 + (x : Int) - (y : Int) := IntWalk.i64_in _ (by omega)
  have i3 : IntKind.i64.wrap ((1000000000 : Int) + (x : Int) - (y : Int) - (c : Int)) = 1000000000 + (x : Int) - (y : Int) - (c : Int) := IntWalk.i64_in _ (by omega)
  have r1 : ((1000000000 : Int) + (x : Int) - (y : Int) - (c : Int)).tmod 1000000000 = (d : Int) := by rw [Int.tmod_eq_emod_of_nonneg (by omega)]; omega
  have r2 : ((1000000000 : Int) + (x : Int) - (y : Int) - (c : Int)).tdiv 1000000000 = (e : Int) := by rw [Int.tdiv_eq_ediv_of_nonneg (by omega)]; omega
  have i4 : IntKind.i64.wrap (d : Int) = (d : Int) := IntWalk.i64_in _ (by omega)
  have i5 : IntKind.i64.wrap (e : Int) = (e : Int) := IntWalk.i64_in _ (by omega)
  have i6 : IntKind.i64.wrap ((1 : Int) - (e : Int)) = (b : Int) := by rw [IntWalk.i64_in _ (by omega)]; omega
  clear hd he hb
  go_enter Tryd.func72, Tryd.ntmps72
  go_wp2_with fail
  go_ret
  exact ⟨rfl, rfl⟩
theorem less_as (C x y c d e' : Nat) (w : World) (hd : d = (Lim.B + x - y - c) % Lim.B) (he : e' = 1 - (Lim.B + x - y - c) / Lim.B) (hC : CarAt C c w) (hx : x < Lim.B) (hy : y < Lim.B) (hc : c ≤ 1) :
    Calls Tryd.prog 72 #[.int .i64 (x : Int), .int .i64 (y : Int), .pointer (some ⟨C, 0, none⟩)] w fun e w' => e = .returned (.int .i64 (d : Int)) ∧ w' = w.setCell ⟨C, 0, none⟩ (.int .i64 (e' : Int)) := by
  rw [hd, he]; exact less_any C x y c w hC hx hy hc
theorem less_zero (C x c d e' : Nat) (w : World) (hd : d = (Lim.B + x - 0 - c) % Lim.B) (he : e' = 1 - (Lim.B + x - 0 - c) / Lim.B) (hC : CarAt C c w) (hx : x < Lim.B) (hc : c ≤ 1) :
    Calls Tryd.prog 72 #[.int .i64 (x : Int), .int .i64 0, .pointer (some ⟨C, 0, none⟩)] w fun e w' => e = .returned (.int .i64 (d : Int)) ∧ w' = w.setCell ⟨C, 0, none⟩ (.int .i64 (e' : Int)) :=
  less_as C x 0 c d e' w hd he hC hx Lim.B_pos hc
set_option maxHeartbeats 1000000 in
theorem trimmed_any (p : Nat → Prop) (v : Value) (l : List Nat) (w : World) (h : IntsIn p w v l) (hl : Lim.Lo l) :
    Calls Tryd.prog 52 #[v] w fun e w' => ∃ v', e = .returned v' ∧ IntsIn p w v' (Lim.ls (Lim.lv l)) ∧ w = w' := by
  have hfin : ∀ n, n ≤ l.length → Lim.lv (l.take n) = Lim.lv l → (0 < n → l.getD (n - 1) 0 ≠ 0) → ∀ a cap, v = .slice a l.length cap → ∃ v', (.slice a n cap : Value) = v' ∧ IntsIn p w v' (Lim.ls (Lim.lv l)) := by
    intro n hn hv hz a cap hva
    obtain ⟨a', cap', e, h1, h2, h3⟩ := h.open_
    rw [e] at hva
    cases hva
    refine ⟨_, rfl, ?_⟩
    rw [← Lim.trim_done hl hn hv hz]
    have hlen : (l.take n).length = n := by rw [List.length_take]; omega
    refine ⟨a, cap, by rw [hlen], by rw [hlen]; omega, h2, fun h0 => ?_⟩
    rw [hlen] at h0 ⊢
    obtain ⟨b, off, e2, hp, hc⟩ := h3 (by omega)
    refine ⟨b, off, e2, hp, fun j hj => ?_⟩
    rw [hc j (by omega)]
    simp [List.getD, hj]
  obtain ⟨a, cap, rfl, h1, h2, h3⟩ := h.open_
  have HF := Lib.hid hfin
  have H3 := Lib.hid h3
  have HL := Lib.hid hl
  clear hfin h3 h hl
  obtain ⟨L, hL⟩ : ∃ L, L = l.length := ⟨_, rfl⟩
  rw [← hL] at h1 ⊢
  have EL := Lib.hid hL
  clear hL
  go_enter Tryd.func52, Tryd.ntmps52
  go_wp2_with fail
  go_loop [3] (fun i => ∃ n : Nat, n ≤ L ∧ i = .int .i64 n ∧ Hid (Lim.lv (l.take n) = Lim.lv l)) (fun i => (intOf i).toNat)
  case atStart => exact ⟨L, Nat.le_refl _, rfl, Lib.hid (by rw [EL.out, List.take_length])⟩
  case round =>
    obtain ⟨n, hn, rfl, hv⟩ := hrel
    by_cases h0 : 0 < n
    · obtain ⟨k, rfl⟩ : ∃ k, n = k + 1 := ⟨n - 1, by omega⟩
      obtain ⟨b, off, rfl, hp, hc⟩ := H3.out (by rw [← EL.out]; omega)
      have hck := hc k (by rw [← EL.out]; omega)
      have HC := Lib.hid hc
      clear hc
      obtain ⟨x, hx⟩ : ∃ x, x = l.getD k 0 := ⟨_, rfl⟩
      rw [← hx] at hck
      have i1 : ((k + 1 : Nat) : Int) - 1 = (k : Int) := by omega
      have i2 : IntKind.i64.wrap (k : Int) = (k : Int) := IntWalk.i64_in _ (by omega)
      by_cases hz : x = 0
      · subst hz
        have HX := Lib.hid hx
        clear hx
        go_wp2_with fail
        go_round
        case rel => exact ⟨k, by omega, by go_num, Lib.hid (Lim.trim_step (by rw [← EL.out]; omega) hv.out HX.out.symm)⟩
        case measure => simp [intOf]
      · have hz2 : ((x : Int) == 0) = false := beq_eq_false_iff_ne.2 (by omega)
        have HX := Lib.hid hx
        clear hx
        go_wp2_with fail
        go_ret
        obtain ⟨v', e1, e2⟩ := HF.out (k + 1) (by rw [← EL.out]; omega) hv.out (fun _ => by rw [Nat.add_sub_cancel, ← HX.out]; exact hz) _ _ rfl
        exact ⟨v', by rw [← e1]; rfl, e2, rfl⟩
    · obtain rfl : n = 0 := by omega
      go_wp2_with fail
      go_ret
      obtain ⟨v', e1, e2⟩ := HF.out 0 (by omega) hv.out (fun h => absurd h (by omega)) _ _ rfl
      exact ⟨v', by rw [← e1]; rfl, e2, rfl⟩
end Go.Proofs.YtfkdhkbegfbkaaaDoor
