/-
  The program's interval package: the element of a list that no other one comes before.
-/
import Derived.Test.YtbcoblpnihdhgaaDoorIvPA
import Derived.Test.YtbcoblpnihdhgaaDoorIvOpen
import Derived.Deep.RegionHeld3
import Derived.Deep.DeepCutAuto
set_option linter.unusedVariables false
set_option maxRecDepth 100000
namespace Go.Proofs.YtbcoblpnihdhgaaDoor
open Go.RowKit
open Rt
/-- the call answers with a number -/
def GivesN (r : Raw) (w : World) (e : Ending) (w' : World) : Prop := e = .returned (.agg #[.bool r.neg, .string r.num, .string r.den]) ∧ Below w.heap.size w w'
/-- numbers that lie one after the other, whole -/
def RowR (w : World) (b : Nat) (l : List Raw) : Prop := ∀ j (hj : j < l.length), w.cell? ⟨b, j * 3, none⟩ = some (.bool l[j].neg) ∧ w.cell? ⟨b, j * 3 + 1, none⟩ = some (.string l[j].num) ∧ w.cell? ⟨b, j * 3 + 2, none⟩ = some (.string l[j].den)
theorem cell_lt5 {w : World} {a : Addr} {x : Value} (h : w.cell? a = some x) : a.block < w.heap.size := by
  rcases Nat.lt_or_ge a.block w.heap.size with h' | h'
  · exact h'
  · simp [World.cell?, Array.getElem?_eq_none h'] at h
theorem cell_bel {w w' : World} (hb : Below w.heap.size w w') {a : Addr} {x : Value} (hc : w.cell? a = some x) : w'.cell? a = some x := (hb.cell (p := a) (cell_lt5 hc)).trans hc
theorem RowR.bel {w w' : World} {b : Nat} {l : List Raw} (h : RowR w b l) (hb : Below w.heap.size w w') : RowR w' b l := fun j hj => by
  obtain ⟨h0, h1, h2⟩ := h j hj
  exact ⟨cell_bel hb h0, cell_bel hb h1, cell_bel hb h2⟩
theorem ivsCell5 {w : World} {b off : Nat} {l : List Iv} (h : IvsIn w b off l) (j : Nat) (hj : j < l.length) :
    w.cell? ⟨b, off + j * 6, none⟩ = some (.bool l[j].low.neg) ∧ w.cell? ⟨b, off + j * 6 + 1, none⟩ = some (.string l[j].low.num) ∧ w.cell? ⟨b, off + j * 6 + 2, none⟩ = some (.string l[j].low.den) ∧
    w.cell? ⟨b, off + j * 6 + 3, none⟩ = some (.bool l[j].high.neg) ∧ w.cell? ⟨b, off + j * 6 + 4, none⟩ = some (.string l[j].high.num) ∧ w.cell? ⟨b, off + j * 6 + 5, none⟩ = some (.string l[j].high.den) :=
  ⟨h j hj 0 (by omega), h j hj 1 (by omega), h j hj 2 (by omega), h j hj 3 (by omega), h j hj 4 (by omega), h j hj 5 (by omega)⟩
theorem sel_next {α : Type} (d : α) (bf : α → α → Bool) (l : List α) (k : Nat) (h : k < l.length) (el fd : α) (he : el = l[k]) (hf : fd = sel d bf (l.take k)) :
    sel d bf (l.take (k + 1)) = if decide (k = 0) || bf el fd then el else fd := by
  rw [List.take_succ_eq_append_getElem h, sel_snoc, ← he, ← hf]
  congr 3
  cases k with
  | zero => simp
  | succ k =>
    rw [decide_eq_false (by omega)]
    cases l with
    | nil => simp at h
    | cons x t => simp
structure CallR (F : Nat) (bf : Raw → Raw → Bool) : Prop where
  enter : ∀ (x y : Raw) (w : World), (callFunc F #[.agg #[.bool x.neg, .string x.num, .string x.den], .agg #[.bool y.neg, .string y.num, .string y.den]]).run Tryd.prog w = .ok (.enter F #[.agg #[.bool x.neg, .string x.num, .string x.den], .agg #[.bool y.neg, .string y.num, .string y.den]]) w
  calls : ∀ (x y : Raw) (w : World), Calls Tryd.prog F #[.agg #[.bool x.neg, .string x.num, .string x.den], .agg #[.bool y.neg, .string y.num, .string y.den]] w (GivesB (bf x y) w)
structure CallI (F : Nat) (bf : Iv → Iv → Bool) : Prop where
  enter : ∀ (x y : Iv) (w : World), (callFunc F #[.agg #[.bool x.low.neg, .string x.low.num, .string x.low.den, .bool x.high.neg, .string x.high.num, .string x.high.den], .agg #[.bool y.low.neg, .string y.low.num, .string y.low.den, .bool y.high.neg, .string y.high.num, .string y.high.den]]).run Tryd.prog w = .ok (.enter F #[.agg #[.bool x.low.neg, .string x.low.num, .string x.low.den, .bool x.high.neg, .string x.high.num, .string x.high.den], .agg #[.bool y.low.neg, .string y.low.num, .string y.low.den, .bool y.high.neg, .string y.high.num, .string y.high.den]]) w
  calls : ∀ (x y : Iv) (w : World), Calls Tryd.prog F #[.agg #[.bool x.low.neg, .string x.low.num, .string x.low.den, .bool x.high.neg, .string x.high.num, .string x.high.den], .agg #[.bool y.low.neg, .string y.low.num, .string y.low.den, .bool y.high.neg, .string y.high.num, .string y.high.den]] w (GivesB (bf x y) w)
theorem results_rat5 {fn : Func} {p : Tmp} (h : fn.results = #[.cell p 24]) (tmps : Array Value) (w : World) (g : Nat) (r : Raw)
    (hp : tmps.getD p undef = .pointer (some ⟨g, 0, none⟩)) (hg : RatAt g r w) :
    (results fn tmps).run Tryd.prog w = .ok (.agg #[.bool r.neg, .string r.num, .string r.den]) w := by
  have hp' : tmps[p]?.getD undef = .pointer (some ⟨g, 0, none⟩) := by simpa using hp
  simp [results, h, hp', asAddr, run_loadVar_row w g 24 24 _ (0, 0) _ hg.cells Tryd.underlying24 rfl (by kernel_rfl)]
set_option maxHeartbeats 4000000 in
theorem pfirstR_any (F : Nat) (bf : Raw → Raw → Bool) (b cap : Nat) (l : List Raw) (w : World) (hF : CallR F bf) (h0l : 0 < l.length) (hl : l.length ≤ cap) (hcap : cap ≤ maxLen) (hc : RowR w b l) :
    Calls Tryd.prog 24 #[.slice (some ⟨b, 0, none⟩) l.length cap, .func (.func F) #[] #[]] w (GivesN (sel noRaw bf l) w) := by
  have HF := Lib.hid hF
  have HC := Lib.hid hc
  clear hF hc
  unfold maxLen at hcap
  have D0 := Lib.hid (Below.refl w.heap.size w)
  go_enter Tryd.func24, Tryd.ntmps24
  go_wp2_with fail
  obtain ⟨B1, hB1⟩ : ∃ B, B = w.heap.size := ⟨_, rfl⟩
  obtain ⟨W1_0, hW1_0⟩ : ∃ W, W = w.alloc (Obj.cells #[Value.bool false, Value.string ⟨#[]⟩, Value.string ⟨#[]⟩] 24) := ⟨_, rfl⟩
  have hb : Below w.heap.size w W1_0 := by rw [hW1_0]; exact (Below.refl _ _).alloc (Nat.le_refl _) _
  have hzW1_0 : w.heap.size = B1 := by rw [hB1]
  have hlW1_0 : RatAt (B1) noRaw W1_0 := by rw [← hzW1_0, hW1_0]; exact ⟨heap_lastM _ _⟩
  have D1 := Lib.hid (D0.out.trans (hb.mono D0.out.size))
  clear hb
  have z_1 := Lib.hid hlW1_0
  clear hlW1_0
  obtain ⟨W1_1, hW1_1⟩ : ∃ W, W = W1_0.alloc (Obj.cells #[Value.bool false, Value.string ⟨#[]⟩, Value.string ⟨#[]⟩] 24) := ⟨_, rfl⟩
  have hb : Below W1_0.heap.size W1_0 W1_1 := by rw [hW1_1]; exact (Below.refl _ _).alloc (Nat.le_refl _) _
  have hzW1_1 : W1_0.heap.size = B1 + 1 := by rw [hW1_0]; simp [hzW1_0]
  have hlW1_1 : RatAt (B1 + 1) noRaw W1_1 := by rw [← hzW1_1, hW1_1]; exact ⟨heap_lastM _ _⟩
  have D2 := Lib.hid (D1.out.trans (hb.mono D1.out.size))
  have z_2 := Lib.hid (z_1.out.bel hb)
  clear D1 z_1
  clear hb
  have f_2 := Lib.hid hlW1_1
  clear hlW1_1
  rw [← hW1_0]
  rw [← hW1_1]
  simp only [← hB1]
  have HW1_0 := Lib.hid hW1_0
  clear hW1_0 hzW1_0
  have HW1_1 := Lib.hid hW1_1
  clear hW1_1 hzW1_1
  have HB1 := Lib.hid hB1
  clear hB1
  have hle : w.heap.size ≤ B1 + 1 := by have := HB1.out; omega
  have HLE := Lib.hid hle; clear hle
  go_loopw [10] (fun i wr => ∃ k : Nat, k ≤ l.length ∧ i = .int .i64 k ∧ Hid (Below w.heap.size w wr) ∧ Hid (RatAt (B1) noRaw wr) ∧ Hid (RatAt (B1 + 1) (sel noRaw bf (l.take k)) wr)) (fun i _ => l.length - (intOf i).toNat)
  case atStart => exact ⟨0, by omega, rfl, D2, z_2, f_2⟩
  case round =>
    obtain ⟨k, hk, rfl, hB, hz, hf⟩ := hrel
    clear D2 z_2 f_2
    obtain ⟨fd, hfd⟩ : ∃ x, x = sel noRaw bf (l.take k) := ⟨_, rfl⟩
    rw [← hfd] at hf
    by_cases hlt : k < l.length
    ·
      obtain ⟨el, hel⟩ : ∃ x, x = l[k] := ⟨_, rfl⟩
      have hs := sel_next noRaw bf l k hlt el fd hel hfd
      have HS := Lib.hid hs; clear hs
      obtain ⟨e0, e1, e2⟩ := (HC.out.bel hB.out) k hlt
      rw [← hel] at e0 e1 e2
      have HEL := Lib.hid hel; have HFD := Lib.hid hfd; clear hel hfd
      by_cases h0 : k = 0
      ·
        have q0 : ((k : Int) == 0) = true := by subst h0; rfl
        have H0 := Lib.hid h0; clear h0
        go_upto_region 6 with fail
        have HN1 := Lib.hid (blk_lt hz.out.cells); have HN2 := Lib.hid (blk_lt hf.out.cells)
        obtain ⟨B6, hB6⟩ : ∃ B, B = wr.heap.size := ⟨_, rfl⟩
        obtain ⟨W6_0, hW6_0⟩ : ∃ W, W = wr.alloc (Obj.cells #[Value.bool el.neg, Value.string el.num, Value.string el.den] 24) := ⟨_, rfl⟩
        have hb : Below wr.heap.size wr W6_0 := by rw [hW6_0]; exact (Below.refl _ _).alloc (Nat.le_refl _) _
        have hzW6_0 : wr.heap.size = B6 := by rw [hB6]
        have hlW6_0 : RatAt (B6) el W6_0 := by rw [← hzW6_0, hW6_0]; exact ⟨heap_lastM _ _⟩
        have D51 := Lib.hid (hB.out.trans (hb.mono hB.out.size))
        have z_51 := Lib.hid (hz.out.bel hb)
        have f_51 := Lib.hid (hf.out.bel hb)
        clear hB hz hf
        clear hb
        have e_51 := Lib.hid hlW6_0
        clear hlW6_0
        rw [← hW6_0]
        simp only [← hB6]
        have HW6_0 := Lib.hid hW6_0
        clear hW6_0 hzW6_0
        have HB6 := Lib.hid hB6
        clear hB6
        have hN : Hid (B1 < B6 ∧ B1 + 1 < B6) := Lib.hid (by have h1 := HN1.out; have h2 := HN2.out; have h3 := HB6.out; exact ⟨by omega, by omega⟩)
        have hle := HLE.out
        have fc0 := f_51.out.c0
        have ff0 := f_51.out.fz 0
        have fc1 := f_51.out.c1
        have ff1 := f_51.out.fz 1
        have fc2 := f_51.out.c2
        have ff2 := f_51.out.fz 2
        have fz := blk_lt f_51.out.cells
        have ec0 := e_51.out.c0
        have ef0 := e_51.out.fz 0
        have ec1 := e_51.out.c1
        have ef1 := e_51.out.fz 1
        have ec2 := e_51.out.c2
        have ef2 := e_51.out.fz 2
        have ez := blk_lt e_51.out.cells
        go_upto_region 7 with fail
        obtain ⟨X52, hX52⟩ : ∃ W, W = ((((((W6_0).setCell ⟨B1 + 1, 0, none⟩ (.bool el.neg))).setCell ⟨B1 + 1, 1, none⟩ (.string el.num))).setCell ⟨B1 + 1, 2, none⟩ (.string el.den)) := ⟨_, rfl⟩
        have hbes : Bes (B1 + 1) W6_0 X52 := by rw [hX52]; exact (((Bes.set _ (B1 + 1) 0 _).trans (Bes.set _ (B1 + 1) 1 _)).trans (Bes.set _ (B1 + 1) 2 _))
        have D52 : Hid (Below w.heap.size w X52) := Lib.hid (by rw [hX52]; exact (((D51.out.setCell (p := ⟨B1 + 1, 0, none⟩) hle _).setCell (p := ⟨B1 + 1, 1, none⟩) hle _).setCell (p := ⟨B1 + 1, 2, none⟩) hle _))
        have z_52 := Lib.hid (z_51.out.bes hbes (by have := hN.out; omega))
        have f_52 : Hid (RatAt (B1 + 1) el X52) := Lib.hid (by rw [hX52]; exact f_51.out.set el)
        have e_52 := Lib.hid (e_51.out.bes hbes (by have := hN.out; omega))
        clear hbes D51 z_51 f_51 e_51
        rw [← hX52]
        have HX52 := Lib.hid hX52; clear hX52
        clear fc0 ff0 fc1 ff1 fc2 ff2 fz ec0 ef0 ec1 ef1 ec2 ef2 ez
        clear hle
        go_wp2_with fail
        go_roundw
        case rel => exact ⟨k + 1, by omega, by go_num, D52, z_52, Lib.hid (by rw [show sel noRaw bf (l.take (k + 1)) = el by rw [HS.out, decide_eq_true H0.out]; rfl]; exact f_52.out)⟩
        case measure => simp [intOf]; omega
      ·
        have q0 : ((k : Int) == 0) = false := by rw [beq_eq_false_iff_ne]; omega
        have H0 := Lib.hid h0; clear h0
        go_upto_region 5 with fail
        have HN1 := Lib.hid (blk_lt hz.out.cells); have HN2 := Lib.hid (blk_lt hf.out.cells)
        obtain ⟨B6, hB6⟩ : ∃ B, B = wr.heap.size := ⟨_, rfl⟩
        obtain ⟨W6_0, hW6_0⟩ : ∃ W, W = wr.alloc (Obj.cells #[Value.bool el.neg, Value.string el.num, Value.string el.den] 24) := ⟨_, rfl⟩
        have hb : Below wr.heap.size wr W6_0 := by rw [hW6_0]; exact (Below.refl _ _).alloc (Nat.le_refl _) _
        have hzW6_0 : wr.heap.size = B6 := by rw [hB6]
        have hlW6_0 : RatAt (B6) el W6_0 := by rw [← hzW6_0, hW6_0]; exact ⟨heap_lastM _ _⟩
        have D51 := Lib.hid (hB.out.trans (hb.mono hB.out.size))
        have z_51 := Lib.hid (hz.out.bel hb)
        have f_51 := Lib.hid (hf.out.bel hb)
        clear hB hz hf
        clear hb
        have e_51 := Lib.hid hlW6_0
        clear hlW6_0
        rw [← hW6_0]
        simp only [← hB6]
        have HW6_0 := Lib.hid hW6_0
        clear hW6_0 hzW6_0
        have HB6 := Lib.hid hB6
        clear hB6
        have hN : Hid (B1 < B6 ∧ B1 + 1 < B6) := Lib.hid (by have h1 := HN1.out; have h2 := HN2.out; have h3 := HB6.out; exact ⟨by omega, by omega⟩)
        have fc0 := f_51.out.c0
        have fc1 := f_51.out.c1
        have fc2 := f_51.out.c2
        have ec0 := e_51.out.c0
        have ec1 := e_51.out.c1
        have ec2 := e_51.out.c2
        have hcf := HF.out.enter el fd
        go_wp2_with fail
        clear fc0 fc1 fc2 ec0 ec1 ec2 hcf
        refine (HF.out.calls el fd _).mono ?_
        rintro e v52 ⟨rfl, hb⟩
        have D52 := Lib.hid (D51.out.trans (hb.mono D51.out.size))
        have z_52 := Lib.hid (z_51.out.bel hb)
        have f_52 := Lib.hid (f_51.out.bel hb)
        have e_52 := Lib.hid (e_51.out.bel hb)
        clear D51 z_51 f_51 e_51
        clear hb
        rcases Bool.eq_false_or_eq_true (bf el fd) with hbf | hbf
        ·
          rw [hbf]; have HBF := Lib.hid hbf; clear hbf
          have hle := HLE.out
          have fc0 := f_52.out.c0
          have ff0 := f_52.out.fz 0
          have fc1 := f_52.out.c1
          have ff1 := f_52.out.fz 1
          have fc2 := f_52.out.c2
          have ff2 := f_52.out.fz 2
          have fz := blk_lt f_52.out.cells
          have ec0 := e_52.out.c0
          have ef0 := e_52.out.fz 0
          have ec1 := e_52.out.c1
          have ef1 := e_52.out.fz 1
          have ec2 := e_52.out.c2
          have ef2 := e_52.out.fz 2
          have ez := blk_lt e_52.out.cells
          go_upto_region 7 with fail
          obtain ⟨X53, hX53⟩ : ∃ W, W = ((((((v52).setCell ⟨B1 + 1, 0, none⟩ (.bool el.neg))).setCell ⟨B1 + 1, 1, none⟩ (.string el.num))).setCell ⟨B1 + 1, 2, none⟩ (.string el.den)) := ⟨_, rfl⟩
          have hbes : Bes (B1 + 1) v52 X53 := by rw [hX53]; exact (((Bes.set _ (B1 + 1) 0 _).trans (Bes.set _ (B1 + 1) 1 _)).trans (Bes.set _ (B1 + 1) 2 _))
          have D53 : Hid (Below w.heap.size w X53) := Lib.hid (by rw [hX53]; exact (((D52.out.setCell (p := ⟨B1 + 1, 0, none⟩) hle _).setCell (p := ⟨B1 + 1, 1, none⟩) hle _).setCell (p := ⟨B1 + 1, 2, none⟩) hle _))
          have z_53 := Lib.hid (z_52.out.bes hbes (by have := hN.out; omega))
          have f_53 : Hid (RatAt (B1 + 1) el X53) := Lib.hid (by rw [hX53]; exact f_52.out.set el)
          have e_53 := Lib.hid (e_52.out.bes hbes (by have := hN.out; omega))
          clear hbes D52 z_52 f_52 e_52
          rw [← hX53]
          have HX53 := Lib.hid hX53; clear hX53
          clear fc0 ff0 fc1 ff1 fc2 ff2 fz ec0 ef0 ec1 ef1 ec2 ef2 ez
          clear hle
          go_wp2_with fail
          go_roundw
          case rel => exact ⟨k + 1, by omega, by go_num, D53, z_53, Lib.hid (by rw [show sel noRaw bf (l.take (k + 1)) = el by rw [HS.out, decide_eq_false H0.out, HBF.out]; rfl]; exact f_53.out)⟩
          case measure => simp [intOf]; omega
        ·
          rw [hbf]; have HBF := Lib.hid hbf; clear hbf
          go_wp2_with fail
          go_roundw
          case rel => exact ⟨k + 1, by omega, by go_num, D52, z_52, Lib.hid (by rw [show sel noRaw bf (l.take (k + 1)) = fd by rw [HS.out, decide_eq_false H0.out, HBF.out]; rfl]; exact f_52.out)⟩
          case measure => simp [intOf]; omega
    ·
      have hfe : fd = sel noRaw bf l := by rw [hfd, List.take_of_length_le (by omega)]
      have HFE := Lib.hid hfe; clear hfe hfd
      have hle : w.heap.size ≤ B1 := by have := HB1.out; omega
      have fc0 := hf.out.c0
      have fc1 := hf.out.c1
      have fc2 := hf.out.c2
      have zc0 := hz.out.c0
      have zf0 := hz.out.fz 0
      have zc1 := hz.out.c1
      have zf1 := hz.out.fz 1
      have zc2 := hz.out.c2
      have zf2 := hz.out.fz 2
      go_wp2_with fail
      (try simp only [Exit.inBlock, Exit.then])
      refine bodyPost_ret (results_rat5 rfl _ _ B1 fd rfl (hz.out.set fd)) rfl ?_; rw [← HFE.out]; exact ⟨rfl, (((hB.out.setCell (p := ⟨B1, 0, none⟩) hle _).setCell (p := ⟨B1, 1, none⟩) hle _).setCell (p := ⟨B1, 2, none⟩) hle _)⟩
set_option maxHeartbeats 4000000 in
theorem pfirstI_any (F : Nat) (bf : Iv → Iv → Bool) (b off cap : Nat) (l : List Iv) (w : World) (hF : CallI F bf) (h0l : 0 < l.length) (hl : l.length ≤ cap) (hcap : cap ≤ maxLen) (hc : IvsIn w b off l) :
    Calls Tryd.prog 29 #[.slice (some ⟨b, off, none⟩) l.length cap, .func (.func F) #[] #[]] w (GivesV (sel noI bf l) w) := by
  have HF := Lib.hid hF
  have HC := Lib.hid hc
  clear hF hc
  unfold maxLen at hcap
  have D0 := Lib.hid (Below.refl w.heap.size w)
  go_enter Tryd.func29, Tryd.ntmps29
  go_wp2_with fail
  obtain ⟨B1, hB1⟩ : ∃ B, B = w.heap.size := ⟨_, rfl⟩
  obtain ⟨W1_0, hW1_0⟩ : ∃ W, W = w.alloc (Obj.cells #[Value.bool false, Value.string ⟨#[]⟩, Value.string ⟨#[]⟩, Value.bool false, Value.string ⟨#[]⟩, Value.string ⟨#[]⟩] 26) := ⟨_, rfl⟩
  have hb : Below w.heap.size w W1_0 := by rw [hW1_0]; exact (Below.refl _ _).alloc (Nat.le_refl _) _
  have hzW1_0 : w.heap.size = B1 := by rw [hB1]
  have hlW1_0 : IvAt (B1) noI W1_0 := by rw [← hzW1_0, hW1_0]; exact ⟨heap_lastM _ _⟩
  have D1 := Lib.hid (D0.out.trans (hb.mono D0.out.size))
  clear hb
  have z_1 := Lib.hid hlW1_0
  clear hlW1_0
  obtain ⟨W1_1, hW1_1⟩ : ∃ W, W = W1_0.alloc (Obj.cells #[Value.bool false, Value.string ⟨#[]⟩, Value.string ⟨#[]⟩, Value.bool false, Value.string ⟨#[]⟩, Value.string ⟨#[]⟩] 26) := ⟨_, rfl⟩
  have hb : Below W1_0.heap.size W1_0 W1_1 := by rw [hW1_1]; exact (Below.refl _ _).alloc (Nat.le_refl _) _
  have hzW1_1 : W1_0.heap.size = B1 + 1 := by rw [hW1_0]; simp [hzW1_0]
  have hlW1_1 : IvAt (B1 + 1) noI W1_1 := by rw [← hzW1_1, hW1_1]; exact ⟨heap_lastM _ _⟩
  have D2 := Lib.hid (D1.out.trans (hb.mono D1.out.size))
  have z_2 := Lib.hid (z_1.out.bel hb)
  clear D1 z_1
  clear hb
  have f_2 := Lib.hid hlW1_1
  clear hlW1_1
  rw [← hW1_0]
  rw [← hW1_1]
  simp only [← hB1]
  have HW1_0 := Lib.hid hW1_0
  clear hW1_0 hzW1_0
  have HW1_1 := Lib.hid hW1_1
  clear hW1_1 hzW1_1
  have HB1 := Lib.hid hB1
  clear hB1
  have hle : w.heap.size ≤ B1 + 1 := by have := HB1.out; omega
  have HLE := Lib.hid hle; clear hle
  go_loopw [10] (fun i wr => ∃ k : Nat, k ≤ l.length ∧ i = .int .i64 k ∧ Hid (Below w.heap.size w wr) ∧ Hid (IvAt (B1) noI wr) ∧ Hid (IvAt (B1 + 1) (sel noI bf (l.take k)) wr)) (fun i _ => l.length - (intOf i).toNat)
  case atStart => exact ⟨0, by omega, rfl, D2, z_2, f_2⟩
  case round =>
    obtain ⟨k, hk, rfl, hB, hz, hf⟩ := hrel
    clear D2 z_2 f_2
    obtain ⟨fd, hfd⟩ : ∃ x, x = sel noI bf (l.take k) := ⟨_, rfl⟩
    rw [← hfd] at hf
    by_cases hlt : k < l.length
    ·
      obtain ⟨el, hel⟩ : ∃ x, x = l[k] := ⟨_, rfl⟩
      have hs := sel_next noI bf l k hlt el fd hel hfd
      have HS := Lib.hid hs; clear hs
      obtain ⟨e0, e1, e2, e3, e4, e5⟩ := ivsCell5 (HC.out.bel hB.out) k hlt
      rw [← hel] at e0 e1 e2 e3 e4 e5
      have HEL := Lib.hid hel; have HFD := Lib.hid hfd; clear hel hfd
      by_cases h0 : k = 0
      ·
        have q0 : ((k : Int) == 0) = true := by subst h0; rfl
        have H0 := Lib.hid h0; clear h0
        go_upto_region 6 with fail
        have HN1 := Lib.hid (blk_lt hz.out.cells); have HN2 := Lib.hid (blk_lt hf.out.cells)
        obtain ⟨B6, hB6⟩ : ∃ B, B = wr.heap.size := ⟨_, rfl⟩
        obtain ⟨W6_0, hW6_0⟩ : ∃ W, W = wr.alloc (Obj.cells #[Value.bool el.low.neg, Value.string el.low.num, Value.string el.low.den, Value.bool el.high.neg, Value.string el.high.num, Value.string el.high.den] 26) := ⟨_, rfl⟩
        have hb : Below wr.heap.size wr W6_0 := by rw [hW6_0]; exact (Below.refl _ _).alloc (Nat.le_refl _) _
        have hzW6_0 : wr.heap.size = B6 := by rw [hB6]
        have hlW6_0 : IvAt (B6) el W6_0 := by rw [← hzW6_0, hW6_0]; exact ⟨heap_lastM _ _⟩
        have D51 := Lib.hid (hB.out.trans (hb.mono hB.out.size))
        have z_51 := Lib.hid (hz.out.bel hb)
        have f_51 := Lib.hid (hf.out.bel hb)
        clear hB hz hf
        clear hb
        have e_51 := Lib.hid hlW6_0
        clear hlW6_0
        rw [← hW6_0]
        simp only [← hB6]
        have HW6_0 := Lib.hid hW6_0
        clear hW6_0 hzW6_0
        have HB6 := Lib.hid hB6
        clear hB6
        have hN : Hid (B1 < B6 ∧ B1 + 1 < B6) := Lib.hid (by have h1 := HN1.out; have h2 := HN2.out; have h3 := HB6.out; exact ⟨by omega, by omega⟩)
        have hle := HLE.out
        have fc0 := f_51.out.c0
        have ff0 := f_51.out.fz 0
        have fc1 := f_51.out.c1
        have ff1 := f_51.out.fz 1
        have fc2 := f_51.out.c2
        have ff2 := f_51.out.fz 2
        have fc3 := f_51.out.c3
        have ff3 := f_51.out.fz 3
        have fc4 := f_51.out.c4
        have ff4 := f_51.out.fz 4
        have fc5 := f_51.out.c5
        have ff5 := f_51.out.fz 5
        have fz := blk_lt f_51.out.cells
        have ec0 := e_51.out.c0
        have ef0 := e_51.out.fz 0
        have ec1 := e_51.out.c1
        have ef1 := e_51.out.fz 1
        have ec2 := e_51.out.c2
        have ef2 := e_51.out.fz 2
        have ec3 := e_51.out.c3
        have ef3 := e_51.out.fz 3
        have ec4 := e_51.out.c4
        have ef4 := e_51.out.fz 4
        have ec5 := e_51.out.c5
        have ef5 := e_51.out.fz 5
        have ez := blk_lt e_51.out.cells
        go_upto_region 7 with fail
        obtain ⟨X52, hX52⟩ : ∃ W, W = ((((((((((((W6_0).setCell ⟨B1 + 1, 0, none⟩ (.bool el.low.neg))).setCell ⟨B1 + 1, 1, none⟩ (.string el.low.num))).setCell ⟨B1 + 1, 2, none⟩ (.string el.low.den))).setCell ⟨B1 + 1, 3, none⟩ (.bool el.high.neg))).setCell ⟨B1 + 1, 4, none⟩ (.string el.high.num))).setCell ⟨B1 + 1, 5, none⟩ (.string el.high.den)) := ⟨_, rfl⟩
        have hbes : Bes (B1 + 1) W6_0 X52 := by rw [hX52]; exact ((((((Bes.set _ (B1 + 1) 0 _).trans (Bes.set _ (B1 + 1) 1 _)).trans (Bes.set _ (B1 + 1) 2 _)).trans (Bes.set _ (B1 + 1) 3 _)).trans (Bes.set _ (B1 + 1) 4 _)).trans (Bes.set _ (B1 + 1) 5 _))
        have D52 : Hid (Below w.heap.size w X52) := Lib.hid (by rw [hX52]; exact ((((((D51.out.setCell (p := ⟨B1 + 1, 0, none⟩) hle _).setCell (p := ⟨B1 + 1, 1, none⟩) hle _).setCell (p := ⟨B1 + 1, 2, none⟩) hle _).setCell (p := ⟨B1 + 1, 3, none⟩) hle _).setCell (p := ⟨B1 + 1, 4, none⟩) hle _).setCell (p := ⟨B1 + 1, 5, none⟩) hle _))
        have z_52 := Lib.hid (z_51.out.bes hbes (by have := hN.out; omega))
        have f_52 : Hid (IvAt (B1 + 1) el X52) := Lib.hid (by rw [hX52]; exact f_51.out.set el)
        have e_52 := Lib.hid (e_51.out.bes hbes (by have := hN.out; omega))
        clear hbes D51 z_51 f_51 e_51
        rw [← hX52]
        have HX52 := Lib.hid hX52; clear hX52
        clear fc0 ff0 fc1 ff1 fc2 ff2 fc3 ff3 fc4 ff4 fc5 ff5 fz ec0 ef0 ec1 ef1 ec2 ef2 ec3 ef3 ec4 ef4 ec5 ef5 ez
        clear hle
        go_wp2_with fail
        go_roundw
        case rel => exact ⟨k + 1, by omega, by go_num, D52, z_52, Lib.hid (by rw [show sel noI bf (l.take (k + 1)) = el by rw [HS.out, decide_eq_true H0.out]; rfl]; exact f_52.out)⟩
        case measure => simp [intOf]; omega
      ·
        have q0 : ((k : Int) == 0) = false := by rw [beq_eq_false_iff_ne]; omega
        have H0 := Lib.hid h0; clear h0
        go_upto_region 5 with fail
        have HN1 := Lib.hid (blk_lt hz.out.cells); have HN2 := Lib.hid (blk_lt hf.out.cells)
        obtain ⟨B6, hB6⟩ : ∃ B, B = wr.heap.size := ⟨_, rfl⟩
        obtain ⟨W6_0, hW6_0⟩ : ∃ W, W = wr.alloc (Obj.cells #[Value.bool el.low.neg, Value.string el.low.num, Value.string el.low.den, Value.bool el.high.neg, Value.string el.high.num, Value.string el.high.den] 26) := ⟨_, rfl⟩
        have hb : Below wr.heap.size wr W6_0 := by rw [hW6_0]; exact (Below.refl _ _).alloc (Nat.le_refl _) _
        have hzW6_0 : wr.heap.size = B6 := by rw [hB6]
        have hlW6_0 : IvAt (B6) el W6_0 := by rw [← hzW6_0, hW6_0]; exact ⟨heap_lastM _ _⟩
        have D51 := Lib.hid (hB.out.trans (hb.mono hB.out.size))
        have z_51 := Lib.hid (hz.out.bel hb)
        have f_51 := Lib.hid (hf.out.bel hb)
        clear hB hz hf
        clear hb
        have e_51 := Lib.hid hlW6_0
        clear hlW6_0
        rw [← hW6_0]
        simp only [← hB6]
        have HW6_0 := Lib.hid hW6_0
        clear hW6_0 hzW6_0
        have HB6 := Lib.hid hB6
        clear hB6
        have hN : Hid (B1 < B6 ∧ B1 + 1 < B6) := Lib.hid (by have h1 := HN1.out; have h2 := HN2.out; have h3 := HB6.out; exact ⟨by omega, by omega⟩)
        have fc0 := f_51.out.c0
        have fc1 := f_51.out.c1
        have fc2 := f_51.out.c2
        have fc3 := f_51.out.c3
        have fc4 := f_51.out.c4
        have fc5 := f_51.out.c5
        have ec0 := e_51.out.c0
        have ec1 := e_51.out.c1
        have ec2 := e_51.out.c2
        have ec3 := e_51.out.c3
        have ec4 := e_51.out.c4
        have ec5 := e_51.out.c5
        have hcf := HF.out.enter el fd
        go_wp2_with fail
        clear fc0 fc1 fc2 fc3 fc4 fc5 ec0 ec1 ec2 ec3 ec4 ec5 hcf
        refine (HF.out.calls el fd _).mono ?_
        rintro e v52 ⟨rfl, hb⟩
        have D52 := Lib.hid (D51.out.trans (hb.mono D51.out.size))
        have z_52 := Lib.hid (z_51.out.bel hb)
        have f_52 := Lib.hid (f_51.out.bel hb)
        have e_52 := Lib.hid (e_51.out.bel hb)
        clear D51 z_51 f_51 e_51
        clear hb
        rcases Bool.eq_false_or_eq_true (bf el fd) with hbf | hbf
        ·
          rw [hbf]; have HBF := Lib.hid hbf; clear hbf
          have hle := HLE.out
          have fc0 := f_52.out.c0
          have ff0 := f_52.out.fz 0
          have fc1 := f_52.out.c1
          have ff1 := f_52.out.fz 1
          have fc2 := f_52.out.c2
          have ff2 := f_52.out.fz 2
          have fc3 := f_52.out.c3
          have ff3 := f_52.out.fz 3
          have fc4 := f_52.out.c4
          have ff4 := f_52.out.fz 4
          have fc5 := f_52.out.c5
          have ff5 := f_52.out.fz 5
          have fz := blk_lt f_52.out.cells
          have ec0 := e_52.out.c0
          have ef0 := e_52.out.fz 0
          have ec1 := e_52.out.c1
          have ef1 := e_52.out.fz 1
          have ec2 := e_52.out.c2
          have ef2 := e_52.out.fz 2
          have ec3 := e_52.out.c3
          have ef3 := e_52.out.fz 3
          have ec4 := e_52.out.c4
          have ef4 := e_52.out.fz 4
          have ec5 := e_52.out.c5
          have ef5 := e_52.out.fz 5
          have ez := blk_lt e_52.out.cells
          go_upto_region 7 with fail
          obtain ⟨X53, hX53⟩ : ∃ W, W = ((((((((((((v52).setCell ⟨B1 + 1, 0, none⟩ (.bool el.low.neg))).setCell ⟨B1 + 1, 1, none⟩ (.string el.low.num))).setCell ⟨B1 + 1, 2, none⟩ (.string el.low.den))).setCell ⟨B1 + 1, 3, none⟩ (.bool el.high.neg))).setCell ⟨B1 + 1, 4, none⟩ (.string el.high.num))).setCell ⟨B1 + 1, 5, none⟩ (.string el.high.den)) := ⟨_, rfl⟩
          have hbes : Bes (B1 + 1) v52 X53 := by rw [hX53]; exact ((((((Bes.set _ (B1 + 1) 0 _).trans (Bes.set _ (B1 + 1) 1 _)).trans (Bes.set _ (B1 + 1) 2 _)).trans (Bes.set _ (B1 + 1) 3 _)).trans (Bes.set _ (B1 + 1) 4 _)).trans (Bes.set _ (B1 + 1) 5 _))
          have D53 : Hid (Below w.heap.size w X53) := Lib.hid (by rw [hX53]; exact ((((((D52.out.setCell (p := ⟨B1 + 1, 0, none⟩) hle _).setCell (p := ⟨B1 + 1, 1, none⟩) hle _).setCell (p := ⟨B1 + 1, 2, none⟩) hle _).setCell (p := ⟨B1 + 1, 3, none⟩) hle _).setCell (p := ⟨B1 + 1, 4, none⟩) hle _).setCell (p := ⟨B1 + 1, 5, none⟩) hle _))
          have z_53 := Lib.hid (z_52.out.bes hbes (by have := hN.out; omega))
          have f_53 : Hid (IvAt (B1 + 1) el X53) := Lib.hid (by rw [hX53]; exact f_52.out.set el)
          have e_53 := Lib.hid (e_52.out.bes hbes (by have := hN.out; omega))
          clear hbes D52 z_52 f_52 e_52
          rw [← hX53]
          have HX53 := Lib.hid hX53; clear hX53
          clear fc0 ff0 fc1 ff1 fc2 ff2 fc3 ff3 fc4 ff4 fc5 ff5 fz ec0 ef0 ec1 ef1 ec2 ef2 ec3 ef3 ec4 ef4 ec5 ef5 ez
          clear hle
          go_wp2_with fail
          go_roundw
          case rel => exact ⟨k + 1, by omega, by go_num, D53, z_53, Lib.hid (by rw [show sel noI bf (l.take (k + 1)) = el by rw [HS.out, decide_eq_false H0.out, HBF.out]; rfl]; exact f_53.out)⟩
          case measure => simp [intOf]; omega
        ·
          rw [hbf]; have HBF := Lib.hid hbf; clear hbf
          go_wp2_with fail
          go_roundw
          case rel => exact ⟨k + 1, by omega, by go_num, D52, z_52, Lib.hid (by rw [show sel noI bf (l.take (k + 1)) = fd by rw [HS.out, decide_eq_false H0.out, HBF.out]; rfl]; exact f_52.out)⟩
          case measure => simp [intOf]; omega
    ·
      have hfe : fd = sel noI bf l := by rw [hfd, List.take_of_length_le (by omega)]
      have HFE := Lib.hid hfe; clear hfe hfd
      have hle : w.heap.size ≤ B1 := by have := HB1.out; omega
      have fc0 := hf.out.c0
      have fc1 := hf.out.c1
      have fc2 := hf.out.c2
      have fc3 := hf.out.c3
      have fc4 := hf.out.c4
      have fc5 := hf.out.c5
      have zc0 := hz.out.c0
      have zf0 := hz.out.fz 0
      have zc1 := hz.out.c1
      have zf1 := hz.out.fz 1
      have zc2 := hz.out.c2
      have zf2 := hz.out.fz 2
      have zc3 := hz.out.c3
      have zf3 := hz.out.fz 3
      have zc4 := hz.out.c4
      have zf4 := hz.out.fz 4
      have zc5 := hz.out.c5
      have zf5 := hz.out.fz 5
      go_wp2_with fail
      (try simp only [Exit.inBlock, Exit.then])
      refine bodyPost_ret (results_iv1 rfl _ _ B1 fd rfl (hz.out.set fd)) rfl ?_; rw [← HFE.out]; exact ⟨rfl, ((((((hB.out.setCell (p := ⟨B1, 0, none⟩) hle _).setCell (p := ⟨B1, 1, none⟩) hle _).setCell (p := ⟨B1, 2, none⟩) hle _).setCell (p := ⟨B1, 3, none⟩) hle _).setCell (p := ⟨B1, 4, none⟩) hle _).setCell (p := ⟨B1, 5, none⟩) hle _)⟩
end Go.Proofs.YtbcoblpnihdhgaaDoor
