/-
  The walk of the statement that the path of an element proves it, and without an element, or with another one at its end, does not.
-/
import Derived.Test.YtbiekbppenccdaaDoorTreeWBinds
import Derived.Deep.RegionHeld3
import Derived.BigQuiet
set_option linter.unusedVariables false
namespace Go.Proofs.YtbiekbppenccdaaDoor
open Go.RowKit
theorem path_own (v : Value) (l : List ByteArray) (m : Nat) (w : World) (h : StrsOk w v l) (hl : l.length ≤ 1099511627775) (hd : digsB l = true) (hm : m < l.length) (ht : TabOk w) :
    Calls Tryd.prog 13 #[v, .int .i64 (m : Int)] w fun e w' => ∃ u, e = .returned (.tuple #[u, .int .i64 0]) ∧ OwnS w.heap.size w' u (pathB l m) ∧ Below w.heap.size w w' := by
  have ok : pathOk l m = true := (pathOk_iff l m).2 ⟨hd, by omega, by omega⟩
  refine (pPath_any v l m w h (by omega) ht).mono ?_
  rintro e w' ⟨u, h1, h2, h3⟩
  rw [ok] at h1
  rw [pathS_yes ok] at h2
  exact ⟨u, h1, h2, h3⟩
/-- the same for an operation that is guarded, and wanted -/
theorem step_cat_if (w : World) {ops : Array Oper} {o : Oper} {a : Act} {K : Act → World → Prop} {Q : Exit → Act → World → Prop} {E : Prop} (hgd : Region.wanted o (yielded ops a.tmps) = true) (s x : Operand)
    (ho : o.op = .call { callee := .builtin .append, args := #[s, x], argTypes := #[22, 22] })
    (B B2 : Nat) (u1 u2 : Value) (P1 P2 : List ByteArray) (hs : a.eval s = u1) (hx : a.eval x = u2) (h1 : OwnS B w u1 P1) (h2 : OwnS B2 w u2 P2) (hn : P1.length + P2.length ≤ 1099511627776) (hB : B ≤ w.heap.size)
    (h : ∀ v' w', OwnS B w' v' (P1 ++ P2) → w.grownBy w' u1.ownBlock → K (a.put o.dst v') w') :
    if Region.wanted o (yielded ops a.tmps) = true then Oper.wp Tryd.prog o a w K Q else E := by
  rw [if_pos hgd]
  exact wp_cat w s x ho B B2 u1 u2 P1 P2 hs hx h1 h2 hn hB h
theorem sp_alloc {w w' : World} {a : Addr} {v : Value} {o : Obj} (h : Below w.heap.size w w' ∧ w'.cell? a = some v) : Below w.heap.size w (w'.alloc o) ∧ (w'.alloc o).cell? a = some v := sp_next (below_lit w' o) h
theorem snoc_len {Q : List ByteArray} (h : ∀ s ∈ Q, s.size ≤ maxLen) : ∀ s ∈ Q ++ [emptyB], s.size ≤ maxLen := fun s hs => (List.mem_append.1 hs).elim (h s) (fun h => by simp only [List.mem_singleton] at h; subst h; exact dig_len isB_empty)
theorem own_empty (w : World) (B : Nat) (hB : B ≤ w.heap.size) : OwnS B (w.alloc (Obj.cells #[] 9)) (.slice (some ⟨w.heap.size, 0, none⟩) 0 0) [] :=
  World.ownsRow_lit w #[] 0 hB (by unfold maxLen; omega) rfl
theorem inc_yes {l : List ByteArray} {m : Nat} (hd : digsB l = true) (hl : l.length ≤ 20) (hm : m < l.length) : checkB (rootS l) l.length m l[m] (pathB l m) = true := by
  rw [checkB_iff]
  simp only [Int.toNat_natCast]
  refine ⟨by omega, by omega, by omega, pathB_len _ l m rfl, pathB_digs _ l m rfl hd, digsB_is hd _ (List.getElem_mem hm), ?_⟩
  have := upB_path _ l m rfl hm
  rw [show l.getD m emptyB = l[m] by simp [List.getD, hm]] at this
  rw [this, rootS_yes hd]
theorem inc_more {root x : ByteArray} {l : List ByteArray} {m : Nat} : checkB root l.length m x (pathB l m ++ [emptyB]) = false := by
  cases e : checkB root l.length m x (pathB l m ++ [emptyB]) with
  | false => rfl
  | true =>
    have := check_len e
    rw [List.length_append, pathB_len _ l m rfl] at this
    simp at this
theorem inc_less {root x y : ByteArray} {l q : List ByteArray} {m : Nat} (h : pathB l m = q ++ [y]) : checkB root l.length m x q = false := by
  cases e : checkB root l.length m x q with
  | false => rfl
  | true =>
    have h1 := check_len e
    have h2 := pathB_len _ l m rfl
    rw [h, List.length_append, ← h1] at h2
    simp at h2
theorem inc_len {l : List ByteArray} {m : Nat} : (pathB l m).length ≤ digitsN l.length := by rw [pathB_len _ l m rfl]; exact lenB_digits _ _
theorem inc_none {l : List ByteArray} {m : Nat} (h : 0 < l.length) : pathB l m = [] ↔ l.length = 1 := by
  rw [← lenB_zero_iff (i := m) h, ← pathB_len _ l m rfl]
  exact ⟨fun e => by rw [e]; rfl, fun e => List.eq_nil_of_length_eq_zero e⟩

set_option maxRecDepth 100000 in
set_option maxHeartbeats 4000000 in
theorem walkInc1 (v : Value) (l : List ByteArray) (r : Int) (w : World) (hv : Hid (StrsOk w v l)) (ht : Hid (TabOk w)) (g : goodT l = false) :
    Calls Tryd.prog 4 #[v, .int .u8 r] w fun e w' => e = .returned (.bool true) ∧ Below w.heap.size w w' := by
  have FG := Lib.hid g
  clear g
  have HT0 := ht
  have HV0 := hv
  clear ht hv
  have D0 := Below.refl w.heap.size w
  go_enter Tryd.func4, Tryd.ntmps4
  go_wp2_with fail
  refine (thead_any _ HT0.out).mono ?_
  rintro e w1 ⟨rfl, hb⟩
  have HT1 := TabOk.kept HT0 hb
  have HV1 := StrsOk.kept HV0 hb
  have D1 := D0.trans (hb.mono D0.size)
  clear hb D0 HT0 HV0
  go_wp2_with fail
  refine (good_any _ l _ HV1.out).mono ?_
  rintro e wz ⟨rfl, rfl⟩
  rw [FG.out]
  go_wp2_with fail
  go_ret
  exact ⟨rfl, D1⟩
set_option maxRecDepth 100000 in
set_option maxHeartbeats 4000000 in
theorem walkInc2 (v : Value) (l : List ByteArray) (r : Int) (w : World) (hv : Hid (StrsOk w v l)) (ht : Hid (TabOk w)) (g : goodT l = true) (h0 : l.length = 0) :
    Calls Tryd.prog 4 #[v, .int .u8 r] w fun e w' => e = .returned (.bool true) ∧ Below w.heap.size w w' := by
  have FG := Lib.hid g
  have t1 : ((l.length : Int) == 0) = true := by rw [h0]; rfl
  clear g h0
  have HT0 := ht
  have HV0 := hv
  clear ht hv
  have D0 := Below.refl w.heap.size w
  obtain ⟨va, vcap, rfl, vc1, vc2⟩ := HV0.out.room
  go_enter Tryd.func4, Tryd.ntmps4
  go_wp2_with fail
  refine (thead_any _ HT0.out).mono ?_
  rintro e w1 ⟨rfl, hb⟩
  have HT1 := TabOk.kept HT0 hb
  have HV1 := StrsOk.kept HV0 hb
  have D1 := D0.trans (hb.mono D0.size)
  clear hb D0 HT0 HV0
  go_wp2_with fail
  refine (good_any _ l _ HV1.out).mono ?_
  rintro e wz ⟨rfl, rfl⟩
  rw [FG.out]
  go_wp2_with fail
  go_ret
  exact ⟨rfl, D1⟩
theorem below_then {w x y : World} (h : Below w.heap.size w x) (g : Below x.heap.size x y) : Below w.heap.size w y := h.trans (g.mono h.size)
theorem own_kept {w w' : World} {B : Nat} {v : Value} {ss : List ByteArray} (h : Hid (OwnS B w v ss)) (hb : Below w.heap.size w w') : Hid (OwnS B w' v ss) := h.out.below hb
theorem sp_grown {w w2 w3 w4 : World} {u : Value} {Q : List ByteArray} {a : Addr} {x : Value} (h : Below w.heap.size w w3) (hu : OwnS w.heap.size w2 u Q) (hg : w3.grownBy w4 u.ownBlock) (hc : w.cell? a = some x) : Below w.heap.size w w4 ∧ w4.cell? a = some x := by
  have hb := below_append h hu hg
  have hlt : a.block < w.heap.size := by
    rcases Nat.lt_or_ge a.block w.heap.size with h' | h'
    · exact h'
    · simp [World.cell?, Array.getElem?_eq_none h'] at hc
  exact ⟨hb, (hb.cell hlt).trans hc⟩
set_option maxRecDepth 100000 in
set_option maxHeartbeats 4000000 in
theorem walkInc3 (b off cap : Nat) (l : List ByteArray) (k M : Nat) (X : ByteArray) (w : World) (hv : Hid (StrsOk w (.slice (some ⟨b, off, none⟩) l.length cap) l)) (ht : Hid (TabOk w)) (g : goodT l = true) (h0 : 0 < l.length) (hk : k ≤ 255) (hM : M = k % l.length) (hc : w.cell? ⟨b, off + M, none⟩ = some (.string X)) (hXs : Hid (X.size ≤ maxLen)) (hQ : Hid (pathB l M = ([] : List ByteArray))) (k1 : Hid (checkB (rootS l) l.length M X ([] : List ByteArray) = true)) (k2 : Hid (checkB (rootS l) l.length M X (([] : List ByteArray) ++ [emptyB]) = false)) (hQs : Hid (∀ s ∈ ([] : List ByteArray), s.size ≤ maxLen)) :
    Calls Tryd.prog 4 #[.slice (some ⟨b, off, none⟩) l.length cap, .int .u8 (k : Int)] w fun e w' => e = .returned (.bool true) ∧ Below w.heap.size w w' := by
  have FG := Lib.hid g
  have l20 := goodT_len g
  have DG := Lib.hid (goodT_digs g)
  have hml : M < l.length := by rw [hM]; exact Nat.mod_lt k h0
  have t1 : ((l.length : Int) == 0) = false := beq_eq_false_iff_ne.2 (by omega)
  have i2 : ((k : Int)).tmod (l.length : Int) = (M : Int) := by rw [hM, Int.tmod_eq_emod_of_nonneg (by omega), Int.natCast_emod]
  obtain ⟨Dg, hDg⟩ : ∃ Dg, Dg = digitsN l.length := ⟨_, rfl⟩
  have dg20 : Dg ≤ 20 := by rw [hDg]; have := digitsN_le l.length; omega
  have XL : (([] : List ByteArray)).length ≤ Dg := by rw [hDg, ← hQ.out]; exact inc_len
  have HDG := Lib.hid hDg
  have HN1 : Hid (([] : List ByteArray).length + (([] : List ByteArray)).length ≤ 1099511627776) := Lib.hid (by simp only [List.length_nil]; omega)
  have HN2 : Hid ((([] : List ByteArray)).length + [emptyB].length ≤ 1099511627776) := Lib.hid (by simp only [List.length_singleton]; omega)
  have hpo : ∀ w, StrsOk w (.slice (some ⟨b, off, none⟩) l.length cap) l → TabOk w → Calls Tryd.prog 13 #[.slice (some ⟨b, off, none⟩) l.length cap, .int .i64 (M : Int)] w fun e w' => ∃ u, e = .returned (.tuple #[u, .int .i64 0]) ∧ OwnS w.heap.size w' u ([] : List ByteArray) ∧ Below w.heap.size w w' := fun w h ht => by have := path_own _ l M w h (by omega) DG.out hml ht; rwa [hQ.out] at this
  have HPO := Lib.hid hpo
  have u1 : decide ((Dg : Int) < 0) = false := decide_eq_false (by omega)
  have b2 : ((l.length : Int) == 1) = true := by rw [(inc_none h0).1 hQ.out]; rfl
  clear g hM hDg hpo XL
  have HT0 := ht
  have HV0 := hv
  clear ht hv
  have D0 := Below.refl w.heap.size w
  have hlt0 := lt_of_cell hc
  go_enter Tryd.func4, Tryd.ntmps4
  go_wp2_with fail
  refine (thead_any _ HT0.out).mono ?_
  rintro e w1 ⟨rfl, hb⟩
  have hc1 := (hb.cell (p := ⟨b, off + M, none⟩) hlt0).trans hc
  have HT1 := TabOk.kept HT0 hb
  have HV1 := StrsOk.kept HV0 hb
  have D1 := D0.trans (hb.mono D0.size)
  clear hb D0 hc HT0 HV0 hlt0
  go_wp2_with fail
  refine (good_any _ l _ HV1.out).mono ?_
  rintro e wz ⟨rfl, rfl⟩
  rw [FG.out]
  go_wp2_with fail
  refine (rooted_any _ l _ HV1.out (by omega) HT1.out).mono ?_
  rintro e w2 ⟨rfl, hb⟩
  have hc2 := (hb.cell (p := ⟨b, off + M, none⟩) (lt_of_cell hc1)).trans hc1
  have HT2 := TabOk.kept HT1 hb
  have HV2 := StrsOk.kept HV1 hb
  have D2 := D1.trans (hb.mono D1.size)
  clear hb hc1 HT1 HV1
  go_wp2_with fail
  refine (HPO.out _ HV2.out HT2.out).mono ?_
  rintro e w3 ⟨u, rfl, hu, hb⟩
  have hc3 := (hb.cell (p := ⟨b, off + M, none⟩) (lt_of_cell hc2)).trans hc2
  have HT3 := TabOk.kept HT2 hb
  have HV3 := StrsOk.kept HV2 hb
  have D3 := D2.trans (hb.mono D2.size)
  have HO3 := Lib.hid (hu.mono (Nat.zero_le _))
  clear hu
  clear hb hc2 HT2 HV2
  obtain ⟨ua, ucap, rfl, uc1, uc2⟩ := (HO3.out.ok hQs.out).room
  go_wp2_with fail
  refine (pcheck_any _ ([] : List ByteArray) _ X _ _ _ (HO3.out.ok hQs.out) hXs.out HT3.out).mono ?_
  rintro e w4 ⟨rfl, hb⟩
  have hc4 := (hb.cell (p := ⟨b, off + M, none⟩) (lt_of_cell hc3)).trans hc3
  have HT4 := TabOk.kept HT3 hb
  have HV4 := StrsOk.kept HV3 hb
  have HO4 := own_kept HO3 hb
  have D4 := D3.trans (hb.mono D3.size)
  rw [k1.out]
  clear hb hc3 HT3 HV3 HO3
  go_wp2_with fail
  go_loop [10, 11] (fun x y => ∃ a c : Nat, x = .int .i64 (a : Int) ∧ y = .int .i64 (c : Int) ∧ a ≤ Dg ∧ c ≤ l.length ∧ Hid (a + digitsN c = Dg)) (fun _ y => (intOf y).toNat)
  case atStart => exact ⟨0, l.length, rfl, rfl, by omega, Nat.le_refl _, Lib.hid (by have := HDG.out; omega)⟩
  case round =>
    obtain ⟨a, c, rfl, rfl, ha, hcl, hac⟩ := hrel
    by_cases hc0 : c = 0
    · have e0 : a = Dg := by have := hac.out; rw [hc0, digitsN_zero] at this; omega
      subst hc0 e0
      go_wp2_with fail
      have hcQ := hc4
      have HNR := Lib.hid (fun (w' : World) (hb : Below w4.heap.size w4 w') => hd_none w' (HT4.out.below hb))
      have HPQ := Lib.hid (fun (w' : World) (hb : Below w4.heap.size w4 w') => HO4.out.below hb)
      have hck := (fun (w' : World) (hb : Below w4.heap.size w4 w') (z : Value) (hz : OwnS w4.heap.size w' z (([] : List ByteArray) ++ [emptyB])) => pcheck_any z (([] : List ByteArray) ++ [emptyB]) (rootS l) X l.length M w' (hz.ok (snoc_len hQs.out)) hXs.out (HT4.out.below hb))
      rw [k2.out] at hck
      have HCK := Lib.hid hck
      clear hck
      go_region_held3 (fun w' => Below w4.heap.size w4 w' ∧ w'.cell? ⟨b, off + M, none⟩ = some (.string X)) (first | (with_reducible assumption) | exact ⟨Below.drew (Below.refl _ _), hcQ⟩ | exact hB9 | exact hB10 | exact sp_next (by assumption) (by assumption) | exact sp_alloc (by assumption)) (first | (go_at_call 25; (with_reducible refine (HNR.out _ ?hb).mono ?_); (case hb => exact And.left (by assumption)); rintro e x1 ⟨rfl, hr⟩) | (rw [if_pos (by rfl)]; refine wp_cat _ _ _ (by rfl) w4.heap.size _ _ _ [] ([] : List ByteArray) (by rfl) (by rfl) (own_empty _ _ (Nat.le_refl _)) (HPQ.out _ (And.left (by assumption))) HN1.out (Below.size (And.left (by assumption))) ?_; intro v7 w7 hown7 hgrow7; have hB9 := sp_grown (And.left (by assumption)) (own_empty w4 _ (Nat.le_refl _)) hgrow7 hcQ) | (rw [if_pos (by rfl)]; refine wp_cat _ _ _ (by rfl) w4.heap.size 0 _ _ ([] : List ByteArray) [emptyB] (by rfl) (by rfl) ((hown7.below hr).below (below_lit _ _)) (own_lit _ emptyB) HN2.out (Below.size (And.left (by assumption))) ?_; intro v8 w8 hown8 hgrow8; have hB10 := sp_grown (And.left (by assumption)) hown7 hgrow8 hcQ) | (go_at_call 20; (with_reducible refine (HCK.out _ ?hb _ hown8).mono ?_); (case hb => exact And.left (by assumption)); rintro e x2 ⟨rfl, hx2⟩) | fail "no arm")
      go_wp2_with fail
      have hS : Below w4.heap.size w4 x2 ∧ x2.cell? ⟨b, off + M, none⟩ = some (.string X) := by assumption
      have hcX := hS.2
      have DX := D4.trans (hS.1.mono D4.size)
      have HTX := TabOk.kept HT4 hS.1
      have HOX := own_kept HO4 hS.1
      clear hS hB9 hB10 hown7 hown8 hgrow7 hgrow8 hr hx2 HNR HPQ HCK
      go_quiet (fail)
      go_wp2_with fail
      go_ret
      exact ⟨rfl, below_then DX (below_drewN (Below.refl _ _) _)⟩
    · have hcc := digitsN_pos (show 0 < c by omega)
      have HCC := Lib.hid hcc
      have al : a + 1 ≤ Dg := by have := hac.out; have := HCC.out; omega
      have j1 : IntKind.i64.wrap ((a : Int) + 1) = (a : Int) + 1 := IntWalk.i64_in _ (by omega)
      have j2 : ((c : Int)).tdiv 2 = ((c / 2 : Nat) : Int) := by rw [Int.tdiv_eq_ediv_of_nonneg (by omega)]; omega
      have j3 : decide ((0 : Int) < (c : Int)) = true := decide_eq_true (by omega)
      have j4 : decide (0 < c) = true := decide_eq_true (by omega)
      have j5 : IntKind.i64.wrap ((c / 2 : Nat) : Int) = ((c / 2 : Nat) : Int) := IntWalk.i64_in _ (by omega)
      clear hcc
      go_wp2_with fail
      go_round
      case rel => exact ⟨a + 1, c / 2, by go_num, by go_num, al, by omega, Lib.hid (by have := hac.out; have := HCC.out; omega)⟩
      case measure => simp [intOf]; omega
set_option maxRecDepth 100000 in
set_option maxHeartbeats 4000000 in
theorem walkInc4 (b off cap : Nat) (l : List ByteArray) (k M : Nat) (X : ByteArray) (q : List ByteArray) (y : ByteArray) (k3 : Hid (checkB (rootS l) l.length M X q = false)) (w : World) (hv : Hid (StrsOk w (.slice (some ⟨b, off, none⟩) l.length cap) l)) (ht : Hid (TabOk w)) (g : goodT l = true) (h0 : 0 < l.length) (hk : k ≤ 255) (hM : M = k % l.length) (hc : w.cell? ⟨b, off + M, none⟩ = some (.string X)) (hXs : Hid (X.size ≤ maxLen)) (hQ : Hid (pathB l M = (q ++ [y]))) (k1 : Hid (checkB (rootS l) l.length M X (q ++ [y]) = true)) (k2 : Hid (checkB (rootS l) l.length M X ((q ++ [y]) ++ [emptyB]) = false)) (hQs : Hid (∀ s ∈ (q ++ [y]), s.size ≤ maxLen)) :
    Calls Tryd.prog 4 #[.slice (some ⟨b, off, none⟩) l.length cap, .int .u8 (k : Int)] w fun e w' => e = .returned (.bool true) ∧ Below w.heap.size w w' := by
  have FG := Lib.hid g
  have l20 := goodT_len g
  have DG := Lib.hid (goodT_digs g)
  have hml : M < l.length := by rw [hM]; exact Nat.mod_lt k h0
  have t1 : ((l.length : Int) == 0) = false := beq_eq_false_iff_ne.2 (by omega)
  have i2 : ((k : Int)).tmod (l.length : Int) = (M : Int) := by rw [hM, Int.tmod_eq_emod_of_nonneg (by omega), Int.natCast_emod]
  obtain ⟨Dg, hDg⟩ : ∃ Dg, Dg = digitsN l.length := ⟨_, rfl⟩
  have dg20 : Dg ≤ 20 := by rw [hDg]; have := digitsN_le l.length; omega
  have XL : ((q ++ [y])).length ≤ Dg := by rw [hDg, ← hQ.out]; exact inc_len
  have HDG := Lib.hid hDg
  have HN1 : Hid (([] : List ByteArray).length + ((q ++ [y])).length ≤ 1099511627776) := Lib.hid (by simp only [List.length_nil]; omega)
  have HN2 : Hid (((q ++ [y])).length + [emptyB].length ≤ 1099511627776) := Lib.hid (by simp only [List.length_singleton]; omega)
  have hpo : ∀ w, StrsOk w (.slice (some ⟨b, off, none⟩) l.length cap) l → TabOk w → Calls Tryd.prog 13 #[.slice (some ⟨b, off, none⟩) l.length cap, .int .i64 (M : Int)] w fun e w' => ∃ u, e = .returned (.tuple #[u, .int .i64 0]) ∧ OwnS w.heap.size w' u (q ++ [y]) ∧ Below w.heap.size w w' := fun w h ht => by have := path_own _ l M w h (by omega) DG.out hml ht; rwa [hQ.out] at this
  have HPO := Lib.hid hpo
  simp only [List.length_append, List.length_singleton] at XL
  have u1 : decide ((Dg : Int) < (q.length : Int) + 1) = false := decide_eq_false (by omega)
  have u2 : decide (Dg < q.length + 1) = false := decide_eq_false (by omega)
  have b1 : ((q.length : Int) + 1 == 0) = false := beq_eq_false_iff_ne.2 (by omega)
  have b2 : ((l.length : Int) == 1) = false := beq_eq_false_iff_ne.2 (by intro e; have := (inc_none (m := M) h0).2 (by omega); rw [hQ.out] at this; simp at this)
  have q20 : q.length ≤ 20 := by omega
  have i6 : (q.length : Int) + 1 - 1 = (q.length : Int) := by omega
  have i7 : IntKind.i64.wrap (q.length : Int) = (q.length : Int) := IntWalk.i64_in _ (by omega)
  clear g hM hDg hpo XL
  have HT0 := ht
  have HV0 := hv
  clear ht hv
  have D0 := Below.refl w.heap.size w
  have hlt0 := lt_of_cell hc
  go_enter Tryd.func4, Tryd.ntmps4
  go_wp2_with fail
  refine (thead_any _ HT0.out).mono ?_
  rintro e w1 ⟨rfl, hb⟩
  have hc1 := (hb.cell (p := ⟨b, off + M, none⟩) hlt0).trans hc
  have HT1 := TabOk.kept HT0 hb
  have HV1 := StrsOk.kept HV0 hb
  have D1 := D0.trans (hb.mono D0.size)
  clear hb D0 hc HT0 HV0 hlt0
  go_wp2_with fail
  refine (good_any _ l _ HV1.out).mono ?_
  rintro e wz ⟨rfl, rfl⟩
  rw [FG.out]
  go_wp2_with fail
  refine (rooted_any _ l _ HV1.out (by omega) HT1.out).mono ?_
  rintro e w2 ⟨rfl, hb⟩
  have hc2 := (hb.cell (p := ⟨b, off + M, none⟩) (lt_of_cell hc1)).trans hc1
  have HT2 := TabOk.kept HT1 hb
  have HV2 := StrsOk.kept HV1 hb
  have D2 := D1.trans (hb.mono D1.size)
  clear hb hc1 HT1 HV1
  go_wp2_with fail
  refine (HPO.out _ HV2.out HT2.out).mono ?_
  rintro e w3 ⟨u, rfl, hu, hb⟩
  have hc3 := (hb.cell (p := ⟨b, off + M, none⟩) (lt_of_cell hc2)).trans hc2
  have HT3 := TabOk.kept HT2 hb
  have HV3 := StrsOk.kept HV2 hb
  have D3 := D2.trans (hb.mono D2.size)
  have HO3 := Lib.hid (hu.mono (Nat.zero_le _))
  clear hu
  clear hb hc2 HT2 HV2
  obtain ⟨ub, uo, ucap, rfl, uc1, uc2, ux, _, _⟩ := (HO3.out.ok hQs.out).snoc_open
  have n1 : ¬ ucap = 0 := by omega
  have n2 : (0 : Int) ≤ (q.length : Int) := by omega
  have n3 : (q.length : Int) ≤ (ucap : Int) := by omega
  go_wp2_with fail
  refine (pcheck_any _ (q ++ [y]) _ X _ _ _ (HO3.out.ok hQs.out) hXs.out HT3.out).mono ?_
  rintro e w4 ⟨rfl, hb⟩
  have hc4 := (hb.cell (p := ⟨b, off + M, none⟩) (lt_of_cell hc3)).trans hc3
  have HT4 := TabOk.kept HT3 hb
  have HV4 := StrsOk.kept HV3 hb
  have HO4 := own_kept HO3 hb
  have D4 := D3.trans (hb.mono D3.size)
  rw [k1.out]
  clear hb hc3 HT3 HV3 HO3
  go_wp2_with fail
  go_loop [10, 11] (fun x y => ∃ a c : Nat, x = .int .i64 (a : Int) ∧ y = .int .i64 (c : Int) ∧ a ≤ Dg ∧ c ≤ l.length ∧ Hid (a + digitsN c = Dg)) (fun _ y => (intOf y).toNat)
  case atStart => exact ⟨0, l.length, rfl, rfl, by omega, Nat.le_refl _, Lib.hid (by have := HDG.out; omega)⟩
  case round =>
    obtain ⟨a, c, rfl, rfl, ha, hcl, hac⟩ := hrel
    by_cases hc0 : c = 0
    · have e0 : a = Dg := by have := hac.out; rw [hc0, digitsN_zero] at this; omega
      subst hc0 e0
      go_wp2_with fail
      have hcQ := hc4
      have HNR := Lib.hid (fun (w' : World) (hb : Below w4.heap.size w4 w') => hd_none w' (HT4.out.below hb))
      have HPQ := Lib.hid (fun (w' : World) (hb : Below w4.heap.size w4 w') => HO4.out.below hb)
      have hck := (fun (w' : World) (hb : Below w4.heap.size w4 w') (z : Value) (hz : OwnS w4.heap.size w' z ((q ++ [y]) ++ [emptyB])) => pcheck_any z ((q ++ [y]) ++ [emptyB]) (rootS l) X l.length M w' (hz.ok (snoc_len hQs.out)) hXs.out (HT4.out.below hb))
      rw [k2.out] at hck
      have HCK := Lib.hid hck
      clear hck
      go_region_held3 (fun w' => Below w4.heap.size w4 w' ∧ w'.cell? ⟨b, off + M, none⟩ = some (.string X)) (first | (with_reducible assumption) | exact ⟨Below.drew (Below.refl _ _), hcQ⟩ | exact hB9 | exact hB10 | exact sp_next (by assumption) (by assumption) | exact sp_alloc (by assumption)) (first | (go_at_call 25; (with_reducible refine (HNR.out _ ?hb).mono ?_); (case hb => exact And.left (by assumption)); rintro e x1 ⟨rfl, hr⟩) | (rw [if_pos (by rfl)]; refine wp_cat _ _ _ (by rfl) w4.heap.size _ _ _ [] (q ++ [y]) (by rfl) (by rfl) (own_empty _ _ (Nat.le_refl _)) (HPQ.out _ (And.left (by assumption))) HN1.out (Below.size (And.left (by assumption))) ?_; intro v7 w7 hown7 hgrow7; have hB9 := sp_grown (And.left (by assumption)) (own_empty w4 _ (Nat.le_refl _)) hgrow7 hcQ) | (rw [if_pos (by rfl)]; refine wp_cat _ _ _ (by rfl) w4.heap.size 0 _ _ (q ++ [y]) [emptyB] (by rfl) (by rfl) ((hown7.below hr).below (below_lit _ _)) (own_lit _ emptyB) HN2.out (Below.size (And.left (by assumption))) ?_; intro v8 w8 hown8 hgrow8; have hB10 := sp_grown (And.left (by assumption)) hown7 hgrow8 hcQ) | (go_at_call 20; (with_reducible refine (HCK.out _ ?hb _ hown8).mono ?_); (case hb => exact And.left (by assumption)); rintro e x2 ⟨rfl, hx2⟩) | fail "no arm")
      go_wp2_with fail
      have hS : Below w4.heap.size w4 x2 ∧ x2.cell? ⟨b, off + M, none⟩ = some (.string X) := by assumption
      have hcX := hS.2
      have DX := D4.trans (hS.1.mono D4.size)
      have HTX := TabOk.kept HT4 hS.1
      have HOX := own_kept HO4 hS.1
      clear hS hB9 hB10 hown7 hown8 hgrow7 hgrow8 hr hx2 HNR HPQ HCK
      have hcl := (fun (w' : World) (hb : Below x2.heap.size x2 w') => pcheck_any _ q (rootS l) X l.length M w' (((HOX.out.ok hQs.out).init).below hb) hXs.out (HTX.out.below hb))
      rw [k3.out] at hcl
      have HCL := Lib.hid hcl
      clear hcl
      go_region_held3 (fun w' => Below x2.heap.size x2 w' ∧ w'.cell? ⟨b, off + M, none⟩ = some (.string X)) (first | (with_reducible assumption) | exact ⟨Below.drew (Below.refl _ _), hcX⟩ | exact sp_next (by assumption) (by assumption) | exact sp_alloc (by assumption)) (first | (go_at_call 20; (with_reducible refine (HCL.out _ ?hb).mono ?_); (case hb => exact And.left (by assumption)); rintro e x3 ⟨rfl, hx3⟩) | fail "no arm")
      go_wp2_with fail
      go_ret
      exact ⟨rfl, below_then DX (And.left (by assumption))⟩
    · have hcc := digitsN_pos (show 0 < c by omega)
      have HCC := Lib.hid hcc
      have al : a + 1 ≤ Dg := by have := hac.out; have := HCC.out; omega
      have j1 : IntKind.i64.wrap ((a : Int) + 1) = (a : Int) + 1 := IntWalk.i64_in _ (by omega)
      have j2 : ((c : Int)).tdiv 2 = ((c / 2 : Nat) : Int) := by rw [Int.tdiv_eq_ediv_of_nonneg (by omega)]; omega
      have j3 : decide ((0 : Int) < (c : Int)) = true := decide_eq_true (by omega)
      have j4 : decide (0 < c) = true := decide_eq_true (by omega)
      have j5 : IntKind.i64.wrap ((c / 2 : Nat) : Int) = ((c / 2 : Nat) : Int) := IntWalk.i64_in _ (by omega)
      clear hcc
      go_wp2_with fail
      go_round
      case rel => exact ⟨a + 1, c / 2, by go_num, by go_num, al, by omega, Lib.hid (by have := hac.out; have := HCC.out; omega)⟩
      case measure => simp [intOf]; omega
theorem walkTreeIncludes (v : Value) (l : List ByteArray) (r : Int) (w : World) (hv' : StrsOk w v l) (hr : (Lit.int .u8 r).wf = true) (ht' : TabOk w) :
    Calls Tryd.prog 4 #[v, .int .u8 r] w fun e w' => e = .returned (.bool true) ∧ Below w.heap.size w w' := by
  have hr' := u8_bounds hr
  obtain ⟨k, rfl⟩ : ∃ k : Nat, r = k := ⟨r.toNat, by omega⟩
  have hv := Lib.hid hv'
  have ht := Lib.hid ht'
  by_cases c1 : goodT l = true
  · by_cases c2 : 0 < l.length
    · obtain ⟨b, off, cap, rfl, h1, h3, hc⟩ := hv'.open_ c2
      have hm : k % l.length < l.length := Nat.mod_lt k c2
      have hd := goodT_digs c1
      have k1 := inc_yes hd (goodT_len c1) hm
      have hx : (l[k % l.length]).size ≤ maxLen := dig_len (digsB_is hd _ (List.getElem_mem hm))
      have hs := digs_len (pathB_digs _ l (k % l.length) rfl hd)
      by_cases c3 : pathB l (k % l.length) = []
      · have k2 := inc_more (root := rootS l) (x := l[k % l.length]) (l := l) (m := k % l.length)
        rw [c3] at k1 k2 hs
        exact walkInc3 b off cap l k _ _ w hv ht c1 c2 (by omega) rfl (hc _ hm) (Lib.hid hx) (Lib.hid c3) (Lib.hid k1) (Lib.hid k2) (Lib.hid hs)
      · obtain ⟨q, y, e⟩ := snoc_of c3
        have k2 := inc_more (root := rootS l) (x := l[k % l.length]) (l := l) (m := k % l.length)
        have k3 := inc_less (root := rootS l) (x := l[k % l.length]) e
        rw [e] at k1 k2 hs
        exact walkInc4 b off cap l k _ _ q y (Lib.hid k3) w hv ht c1 c2 (by omega) rfl (hc _ hm) (Lib.hid hx) (Lib.hid e) (Lib.hid k1) (Lib.hid k2) (Lib.hid hs)
    · exact walkInc2 v l k w hv ht c1 (by omega)
  · exact walkInc1 v l k w hv ht (by simpa using c1)
end Go.Proofs.YtbiekbppenccdaaDoor
