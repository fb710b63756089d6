/-
  The reference's products of layer 3.
-/
import Derived.Test.YtfkdhkbegfbkaaaDoorNatInt
import Derived.Test.YtfkdhkbegfbkaaaDoorNatMulP
import Derived.StillTailTactics
set_option linter.unusedVariables false
set_option maxRecDepth 100000
namespace Go.Proofs.YtfkdhkbegfbkaaaDoor
open Go.RowKit
def intCells (S : List Nat) : List Value := S.map fun d : Nat => Value.int .i64 ((d : Nat) : Int)
theorem infoInt : (Tryd.prog.info? 3).map (fun i => (i.zero, i.size, i.bytes)) = some (some (.int .i64 0), 1, 8) := by kernel_rfl
/-- the row of sums -/
def SumAt (H L : Nat) (S : List Nat) (w : World) : Prop := S.length = L ∧ w.ownsRow H 3 1 (.slice (some ⟨H, 0, none⟩) L L) L (intCells S)
theorem SumAt.cell {H L : Nat} {S : List Nat} {w : World} (h : SumAt H L S w) (j : Nat) (hj : j < L) : w.cell? ⟨H, j, none⟩ = some (.int .i64 ((S.getD j 0 : Nat) : Int)) := by
  rw [World.ownsRow.cellAt h.2 j (by omega)]
  have hl : j < S.length := by rw [h.1]; exact hj
  simp [intCells, List.getD, hl]
theorem SumAt.frozen {H L : Nat} {S : List Nat} {w : World} (h : SumAt H L S w) (j : Nat) : w.frozen? ⟨H, j, none⟩ = false := World.ownsRow.frozenAt h.2 j
theorem SumAt.store {H L : Nat} {S : List Nat} {w : World} (h : SumAt H L S w) (j x : Nat) : SumAt H L (S.set j x) (w.setCell ⟨H, j, none⟩ (.int .i64 (x : Int))) := by
  refine ⟨by rw [List.length_set, h.1], ?_⟩
  have := (World.ownsRow.stored h.2 j (.int .i64 (x : Int))).1
  rw [show intCells (S.set j x) = (intCells S).set j (.int .i64 (x : Int)) by simp [intCells, List.map_set]]
  exact this
/-- the row of digits that are written one after the other -/
def OutAt (B G L : Nat) (Z : List Nat) (w : World) : Prop := Z.length = L ∧ w.ownsRow B 5 1 (.slice (some ⟨G, 0, none⟩) L L) L (numCells Z)
theorem OutAt.frozen {B G L : Nat} {Z : List Nat} {w : World} (h : OutAt B G L Z w) (j : Nat) : w.frozen? ⟨G, j, none⟩ = false := World.ownsRow.frozenAt h.2 j
theorem OutAt.cell {B G L : Nat} {Z : List Nat} {w : World} (h : OutAt B G L Z w) (j : Nat) (hj : j < L) : w.cell? ⟨G, j, none⟩ = some (.int .u8 ((Z.getD j 0 : Nat) : Int)) := by
  rw [World.ownsRow.cellAt h.2 j (by omega)]
  have hl : j < Z.length := by rw [h.1]; exact hj
  simp [numCells, List.getD, hl]
theorem OutAt.store {B G L : Nat} {Z : List Nat} {w : World} (h : OutAt B G L Z w) (j x : Nat) : OutAt B G L (Z.set j x) (w.setCell ⟨G, j, none⟩ (.int .u8 (x : Int))) := by
  refine ⟨by rw [List.length_set, h.1], ?_⟩
  have := (World.ownsRow.stored h.2 j (.int .u8 (x : Int))).1
  rw [show numCells (Z.set j x) = (numCells Z).set j (.int .u8 (x : Int)) by simp [numCells, List.map_set]]
  exact this
theorem SumAt.beside {H L B G L' : Nat} {S Z : List Nat} {w : World} (h : SumAt H L S w) (ho : OutAt B G L' Z w) (hne : H ≠ G) (j x : Nat) : SumAt H L S (w.setCell ⟨G, j, none⟩ (.int .u8 (x : Int))) :=
  ⟨h.1, World.ownsRow.kept h.2 (World.ownsRow.stored ho.2 j _).2 (by right; simpa [Value.ownBlock] using hne)⟩
theorem out_next {D : List Nat} {L i d : Nat} (hD : D.length = i) (hi : i < L) : (D ++ List.replicate (L - i) 0).set i d = (D ++ [d]) ++ List.replicate (L - (i + 1)) 0 := by
  obtain ⟨r, hr⟩ : ∃ r, L - i = r + 1 := ⟨L - i - 1, by omega⟩
  rw [show L - (i + 1) = r by omega, hr, List.replicate_succ]
  subst hD
  simp
theorem refat_still (s : ByteArray) (p x : Nat) (w : World) (hs : s.size ≤ 1099511627776) (hd : Dec.AllD (tl s)) (hx : x = Dec.place (tl s) p) :
    Calls Tryd.prog 53 #[.string s, .int .i64 (p : Int)] w fun e w' => e = .returned (.int .i64 (x : Nat)) ∧ w' = w :=
  Calls.mono (refat_any s p w hs hd) (fun e w' h => ⟨by rw [hx]; exact h.1, h.2.symm⟩)
set_option maxRecDepth 100000 in
set_option maxHeartbeats 4000000 in
theorem refmul_any (s t : ByteArray) (w : World) (hs0 : 0 < s.size) (ht0 : 0 < t.size) (hs : s.size ≤ 1000) (ht : t.size ≤ 1000) (hds : Dec.AllD (tl s)) (hdt : Dec.AllD (tl t)) :
    Calls Tryd.prog 40 #[.string s, .string t] w fun e w' => e = .returned (.string (bx (Dec.digs (Dec.val (tl s) * Dec.val (tl t))))) ∧ Below w.heap.size w w' := by
  obtain ⟨j0, hj0, jz0, jz1, jz2⟩ := info_parts infoInt
  have HDS := Lib.hid hds
  have HDT := Lib.hid hdt
  obtain ⟨L, hL⟩ : ∃ L, L = s.size + t.size + 1 := ⟨_, rfl⟩
  have HL := Lib.hid hL
  clear hL
  have i1 : IntKind.i64.wrap ((s.size : Int) + (t.size : Int)) = (s.size : Int) + (t.size : Int) := IntWalk.i64_in _ (by omega)
  have i2 : IntKind.i64.wrap ((s.size : Int) + (t.size : Int) + 1) = (s.size : Int) + (t.size : Int) + 1 := IntWalk.i64_in _ (by omega)
  clear hds hdt
  go_enter Tryd.func40, Tryd.ntmps40
  go_wp2_with (at_make; refine wpList_make_full _ rfl _ _ 44 rfl w.heap.size 3 j0 (.int .i64 0) 1 Tryd.underlying44 hj0 jz0 jz1 _ _ _ _ L rfl rfl (by have := HL.out; omega) (by have := HL.out; omega) (by rw [jz2]; have := HL.out; omega) (by unfold maxLen; have := HL.out; omega) (Nat.le_refl _) ?_)
  intro w1 hown hgrow
  have hB1 : Below w.heap.size w w1 := (Below.refl _ _).grown hgrow (Nat.le_refl _) (fun k h => by cases h)
  have hS1 : Hid (SumAt w.heap.size L (List.replicate L 0) w1) := Lib.hid (by
    refine ⟨by simp, ?_⟩
    have e : (madeCells #[Value.int .i64 0] L).toList = intCells (List.replicate L 0) := by
      rw [toList_madeCells_one]; simp [intCells]
    rw [← e]; exact hown)
  clear hown hgrow
  go_wp2_with fail
  go_loopw [6] (fun ii wr => ∃ (i m : Nat) (S : List Nat), i ≤ s.size ∧ ii = .int .i64 (i : Int) ∧ m ≤ 81000 * i ∧ Hid (Dec.Muls (Dec.val (tl s)) (Dec.val (tl t)) i 0 S m) ∧ Hid (SumAt w.heap.size L S wr) ∧ Below w.heap.size w wr) (fun ii _ => s.size - (intOf ii).toNat)
  case atStart => exact ⟨0, 0, _, by omega, rfl, by omega, Lib.hid (Dec.Muls.zero _ _ L), hS1, hB1⟩
  case round =>
    obtain ⟨i, m, S, hi, rfl, hm, hM, hS, hB⟩ := hrel
    clear hS1 hB1
    by_cases hlt : i < s.size
    · go_wp2_with fail
      go_loopw [7] (fun kk wq => ∃ (k m : Nat) (S : List Nat), k ≤ t.size ∧ kk = .int .i64 (k : Int) ∧ m ≤ 81000 * i + 81 * k ∧ Hid (Dec.Muls (Dec.val (tl s)) (Dec.val (tl t)) i k S m) ∧ Hid (SumAt w.heap.size L S wq) ∧ Below w.heap.size w wq) (fun kk _ => t.size - (intOf kk).toNat)
      case atStart => exact ⟨0, m, S, by omega, rfl, by omega, hM, hS, hB⟩
      case round =>
        clear hM hS hB
        obtain ⟨k, m, S, hk, rfl, hm, hM, hS, hB⟩ := hrel
        by_cases hklt : k < t.size
        · have hjL : i + k < L := by have := HL.out; omega
          obtain ⟨c, hc⟩ : ∃ c, c = S.getD (i + k) 0 := ⟨_, rfl⟩
          have hcell := hS.out.cell (i + k) hjL
          rw [← hc] at hcell
          have etn : ((i : Int) + (k : Int)).toNat = i + k := by omega
          rw [← etn] at hcell
          have hfz := hS.out.frozen (i + k)
          rw [← etn] at hfz
          have ETN := Lib.hid etn
          clear etn
          have hcm : c ≤ m := by rw [hc]; exact hM.out.bound (i + k)
          obtain ⟨p, hp⟩ : ∃ p, p = Dec.place (tl s) i := ⟨_, rfl⟩
          obtain ⟨q, hq⟩ : ∃ q, q = Dec.place (tl t) k := ⟨_, rfl⟩
          have hp10 : p < 10 := by rw [hp]; exact place_lt _ _
          have hq10 : q < 10 := by rw [hq]; exact place_lt _ _
          obtain ⟨pq, hpq⟩ : ∃ pq, pq = p * q := ⟨_, rfl⟩
          have hpq81 : pq ≤ 81 := by rw [hpq]; have : p * q ≤ 9 * 9 := Nat.mul_le_mul (by omega) (by omega); omega
          have e1 : IntKind.i64.wrap ((i : Int) + (k : Int)) = (i : Int) + (k : Int) := IntWalk.i64_in _ (by omega)
          have HC := Lib.hid hc
          clear hc
          have e0 : (0 : Int) ≤ (i : Int) + (k : Int) := by omega
          have e2 : (i : Int) + (k : Int) < (L : Int) := by omega
          have e3 : (p : Int) * (q : Int) = (pq : Int) := by rw [hpq]; simp
          have e4 : IntKind.i64.wrap (pq : Int) = (pq : Int) := IntWalk.i64_in _ (by omega)
          have e5 : IntKind.i64.wrap ((c : Int) + (pq : Int)) = (c : Int) + (pq : Int) := IntWalk.i64_in _ (by omega)
          have HP := Lib.hid hp
          have HQ := Lib.hid hq
          have HPQ := Lib.hid hpq
          clear hp hq hpq
          go_wp2_with fail
          go_still_tail 19, (by kernel_rfl)
          still_call (refat_still s i p _ (by omega) HDS.out HP.out)
          repeat still_step
          still_call (refat_still t k q _ (by omega) HDT.out HQ.out)
          repeat still_step
          try refine wpStill_nil ?_
          change wpList _ _ _ _ _ wr.drew
          have hS2 : Hid (SumAt w.heap.size L S wr.drew) := hS
          have hB2 : Below w.heap.size w wr.drew := hB.drew
          have hc2 : wr.drew.cell? ⟨w.heap.size, ((i : Int) + (k : Int)).toNat, none⟩ = some (.int .i64 (c : Int)) := hcell
          have hf2 : wr.drew.frozen? ⟨w.heap.size, ((i : Int) + (k : Int)).toNat, none⟩ = false := hfz
          clear hcell hfz
          generalize wr.drew = wd at hS2 hB2 hc2 hf2 ⊢
          go_wp2_with fail
          refine ⟨⟨k + 1, m + 81, S.set (i + k) (c + pq), by omega, by simp, by omega, ?_, ?_, ?_⟩, by simp [intOf]; omega⟩
          · refine Lib.hid ?_
            rw [HPQ.out, HP.out, HQ.out, HC.out]
            exact hM.out.step (by rw [hS.out.1]; exact hjL)
          · refine Lib.hid ?_
            have := hS2.out.store (i + k) (c + pq)
            rw [show ((c : Int) + (pq : Int)) = ((c + pq : Nat) : Int) by simp]
            exact this
          · exact hB2.setCell (Nat.le_refl _) _
        · have hkt : k = t.size := by omega
          go_wp2_with fail
          refine ⟨⟨i + 1, m, S, by omega, by simp, by omega, ?_, hS, hB⟩, by simp [intOf]; omega⟩
          exact Lib.hid (hM.out.row (by rw [hkt]; exact val_bound HDT.out (Nat.le_refl _)))
    · have hit : i = s.size := by omega
      have hval : Dec.valR S = Dec.val (tl s) * Dec.val (tl t) := hM.out.done (by rw [hit]; exact val_bound HDS.out (Nat.le_refl _))
      have HV := Lib.hid hval
      have hm2 : m ≤ 81000000 := by omega
      have hbnd : ∀ j, S.getD j 0 ≤ 81000000 := fun j => Nat.le_trans (hM.out.bound j) hm2
      have HBN := Lib.hid hbnd
      clear hval hbnd
      obtain ⟨i0, hi0, hz0, hz1, hz2⟩ := info_parts infoByte
      have hL2 : L ≤ 2001 := by have := HL.out; omega
      have hL1 : 0 < L := by have := HL.out; omega
      clear hM
      go_wp2_with (at_make; refine wpList_make_full _ rfl _ _ 56 rfl w.heap.size 5 i0 (.int .u8 0) 1 Tryd.underlying56 hi0 hz0 hz1 _ _ _ _ L rfl rfl rfl rfl (by rw [hz2]; omega) (by unfold maxLen; omega) hB.size ?_)
      intro w2 hown hgrow
      obtain ⟨G, hG⟩ : ∃ G, G = wr.heap.size := ⟨_, rfl⟩
      have hHG : w.heap.size < G := by rw [hG]; exact (World.ownsRow.lt hS.out.2 w.heap.size rfl).2
      rw [← hG] at hown ⊢
      have hB2 : Below w.heap.size w w2 := hB.grown hgrow hB.size (fun k h => by cases h)
      have hS2 : Hid (SumAt w.heap.size L S w2) := Lib.hid ⟨hS.out.1, World.ownsRow.kept hS.out.2 hgrow (by right; simp [Value.ownBlock])⟩
      have hO2 : Hid (OutAt w.heap.size G L ([] ++ List.replicate L 0) w2) := Lib.hid (by
        refine ⟨by simp, ?_⟩
        have e : (madeCells #[Value.int .u8 0] L).toList = numCells ([] ++ List.replicate L 0) := by
          rw [toList_madeCells_one]; simp [numCells]
        rw [← e]; exact hown)
      clear hown hgrow hS hB hG
      go_wp2_with fail
      go_loopw [9, 10] (fun cc ii wr => ∃ (i c : Nat) (D : List Nat), i ≤ L ∧ ii = .int .i64 (i : Int) ∧ cc = .int .i64 (c : Int) ∧ c ≤ 81000000 ∧ Hid (Dec.Carr S i D c) ∧ Hid (SumAt w.heap.size L S wr) ∧ Hid (OutAt w.heap.size G L (D ++ List.replicate (L - i) 0) wr) ∧ Below w.heap.size w wr) (fun _ ii _ => L - (intOf ii).toNat)
      case atStart => exact ⟨0, 0, [], by omega, rfl, rfl, by omega, Lib.hid (Dec.Carr.zero _), hS2, hO2, hB2⟩
      case round =>
        clear hS2 hO2 hB2
        obtain ⟨i, c, D, hi, rfl, rfl, hcm, hC, hS, hO, hB⟩ := hrel
        by_cases hlt : i < L
        · obtain ⟨x, hx⟩ : ∃ x, x = S.getD i 0 := ⟨_, rfl⟩
          have hcell := hS.out.cell i hlt
          rw [← hx] at hcell
          have hfz := hO.out.frozen i
          have hoc := hO.out.cell i hlt
          generalize (D ++ List.replicate (L - i) 0).getD i 0 = z0 at hoc
          have hx81 : x ≤ 81000000 := by rw [hx]; exact HBN.out i
          obtain ⟨d, hd⟩ : ∃ d, d = (x + c) % 10 := ⟨_, rfl⟩
          obtain ⟨e', he⟩ : ∃ e', e' = (x + c) / 10 := ⟨_, rfl⟩
          have hd10 : d < 10 := by rw [hd]; exact Nat.mod_lt _ (by omega)
          have he1 : e' ≤ 81000000 := by omega
          have hA : Hid (Dec.Carr S (i + 1) (D ++ [d]) e') := Lib.hid (by rw [hd, he, hx]; exact hC.out.next (by rw [hS.out.1]; exact hlt))
          have w1 : IntKind.i64.wrap ((x : Int) + (c : Int)) = (x : Int) + (c : Int) := IntWalk.i64_in _ (by omega)
          have r1 : ((x : Int) + (c : Int)).tmod 10 = (d : Int) := by rw [Int.tmod_eq_emod_of_nonneg (by omega)]; omega
          have r2 : ((x : Int) + (c : Int)).tdiv 10 = (e' : Int) := by rw [Int.tdiv_eq_ediv_of_nonneg (by omega)]; omega
          have w3 := u8_in hd10
          have w4 : IntKind.i64.wrap ((i : Int) + 1) = (i : Int) + 1 := IntWalk.i64_in _ (by omega)
          have w5 : IntKind.i64.wrap (d : Int) = (d : Int) := IntWalk.i64_in _ (by omega)
          have w6 : IntKind.i64.wrap (e' : Int) = (e' : Int) := IntWalk.i64_in _ (by omega)
          clear hx hd he
          go_wp2_with fail
          refine ⟨⟨i + 1, e', D ++ [d], by omega, by simp, rfl, he1, hA, ?_, ?_, ?_⟩, by simp [intOf]; omega⟩
          · exact Lib.hid (hS.out.beside hO.out (by omega) i d)
          · refine Lib.hid ?_
            rw [← out_next hC.out.len hlt]
            exact hO.out.store i d
          · exact hB.setCell (Nat.le_of_lt hHG) _
        · obtain rfl : L = i := by omega

          have hDl : D.length = L := hC.out.len
          have hv2 : Dec.valR D = Dec.valR S := Dec.Carr.done (by rw [hS.out.1]; exact hC.out) (by
            rw [HV.out, hS.out.1, HL.out]
            have h1 := val_bound (k := s.size) HDS.out (Nat.le_refl _)
            have h2 := val_bound (k := t.size) HDT.out (Nat.le_refl _)
            have h3 : Dec.val (tl s) * Dec.val (tl t) ≤ 10 ^ s.size * 10 ^ t.size := Nat.mul_le_mul (by omega) (by omega)
            rw [← Nat.pow_add] at h3
            exact Nat.lt_of_le_of_lt h3 (Nat.pow_lt_pow_right (by omega) (by omega)))
          have HW := Lib.hid (hv2.trans HV.out)
          have hOw : OwnN w.heap.size wr (.slice (some ⟨G, 0, none⟩) L L) D := by
            have := hO.out.2
            simp only [Nat.sub_self, List.replicate_zero, List.append_nil] at this
            unfold OwnN
            rw [hDl]; exact this
          have HD0 : Hid (0 < D.length) := Lib.hid (by omega)
          have HDL : Hid (D.length ≤ 1099511627776) := Lib.hid (by omega)
          have HSM := Lib.hid hC.out.small
          clear hv2 hDl hC hO hS
          go_wp2_with fail
          refine (reftext_any _ _ D _ hOw HD0.out HDL.out HSM.out).mono ?_
          rintro e w3 ⟨rfl, hb3⟩
          rw [HW.out]
          go_wp2_with fail
          go_ret
          exact ⟨rfl, hB.trans (hb3.mono hB.size)⟩
end Go.Proofs.YtfkdhkbegfbkaaaDoor
