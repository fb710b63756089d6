/-
  The document's own answers of layer 4: Parse.
-/
import Derived.Test.YthpghjklnkdmfaaGreatDoorRfC
import Derived.Test.YthpghjklnkdmfaaGreatDoorRmK
set_option linter.unusedVariables false
set_option maxRecDepth 100000
namespace Go.Proofs.YthpghjklnkdmfaaGreatDoor
open Go.RowKit
open Rt
theorem parse_none {t u : ByteArray} {g : Bool} (hc : cutSign (tl t) = (g, tl u)) (h : ∀ b ∈ (tl u).take u.size, b ≠ 47) : parseE t = if okR ⟨g, u, ⟨#[49]⟩⟩ then (⟨g, u, ⟨#[49]⟩⟩, 0) else (noRaw, 5) := by
  have ht : (tl u).take u.size = tl u := List.take_of_length_le (by rw [tl_length]; exact Nat.le_refl _)
  rw [ht] at h
  have hd : (tl u).dropWhile (fun c => c != 47) = [] := by
    have := List.dropWhile_append_of_pos (p := fun c : UInt8 => c != 47) (l₁ := tl u) (l₂ := []) (fun x hx => by simpa using h x hx)
    simpa using this
  have hp : parts (tl t) = some (g, tl u, [49]) := by unfold parts; rw [hc]; simp only [hd]
  unfold parseE
  rw [hp]
  simp only [bx_tl]
  rfl
theorem first_slash {l : List UInt8} {k : Nat} (hk : k < l.length) (h : ∀ b ∈ l.take k, b ≠ 47) (hs : l[k] = 47) : l.dropWhile (fun c => c != 47) = 47 :: l.drop (k + 1) ∧ l.takeWhile (fun c => c != 47) = l.take k := by
  have e : l = l.take k ++ 47 :: l.drop (k + 1) := by
    conv => lhs; rw [← List.take_append_drop k l, List.drop_eq_getElem_cons hk, hs]
  have hp : ∀ b ∈ l.take k, (b != 47) = true := fun b hb => by simpa using h b hb
  constructor
  · conv => lhs; rw [e]
    rw [List.dropWhile_append_of_pos hp]; simp
  · conv => lhs; rw [e]
    rw [List.takeWhile_append_of_pos hp]; simp
theorem parse_some {t u n d : ByteArray} {g : Bool} {k : Nat} (hc : cutSign (tl t) = (g, tl u)) (hk : k < u.size) (h : ∀ b ∈ (tl u).take k, b ≠ 47) (hs : u[k] = 47) (hn : n = u.extract 0 k) (hd : d = u.extract (k + 1) u.size) :
    (isO d = true → parseE t = (noRaw, 5)) ∧ (isO d = false → parseE t = if okR ⟨g, n, d⟩ then (⟨g, n, d⟩, 0) else (noRaw, 5)) := by
  have hk' : k < (tl u).length := by rw [tl_length]; exact hk
  obtain ⟨e1, e2⟩ := first_slash hk' h (by rw [tl_get u k hk]; exact hs)
  rw [ext_take] at hn
  rw [ext_drop] at hd
  have hp : parts (tl t) = if (tl u).drop (k + 1) = [49] then none else some (g, (tl u).take k, (tl u).drop (k + 1)) := by
    unfold parts; rw [hc]; simp only [e1, e2]
  have ho : isO d = decide ((tl u).drop (k + 1) = [49]) := by
    rw [hd]; unfold isO
    by_cases e : (tl u).drop (k + 1) = [49]
    · rw [e]; rfl
    · rw [decide_eq_false e]; exact decide_eq_false (fun h => e (bx_inj h))
  rw [ho]
  constructor
  · intro hh
    unfold parseE
    rw [hp, if_pos (of_decide_eq_true hh)]
  · intro hh
    unfold parseE
    rw [hp, if_neg (of_decide_eq_false hh)]
    simp only [← hn, ← hd]
theorem RatAt.set12 {B : Nat} {r : Raw} {w : World} (h : RatAt B r w) (n d : ByteArray) : RatAt B ⟨r.neg, n, d⟩ ((w.setCell ⟨B, 1, none⟩ (.string n)).setCell ⟨B, 2, none⟩ (.string d)) := by
  have h2 := heap_setCell_same w B 1 _ _ (.string n) h.cells
  have h3 := heap_setCell_same _ B 2 _ _ (.string d) h2
  exact ⟨h3⟩
set_option maxHeartbeats 8000000 in
theorem refparse4_any (t : ByteArray) (w : World) (hs : t.size ≤ maxLen) : Calls Tryz.prog 14 #[.string t] w (GivesR (parseE t) w) := by
  obtain ⟨r, hr⟩ : ∃ r, r = parseE t := ⟨_, rfl⟩
  rw [← hr]
  have HRR := Lib.hid hr
  clear hr
  unfold maxLen at hs
  have D0 := Lib.hid (Below.refl w.heap.size w)
  by_cases h0 : t.size = 0
  · obtain ⟨u, hu⟩ : ∃ u, u = t := ⟨_, rfl⟩; subst hu
    have k1 : decide (0 < u.size) = false := decide_eq_false (by omega)
    have k2 : decide ((0 : Int) < (u.size : Int)) = false := decide_eq_false (by omega)
    have HCUT : Hid (cutSign (tl u) = (false, tl u)) := Lib.hid (by
      have : tl u = [] := List.eq_nil_of_length_eq_zero (by rw [tl_length]; exact h0)
      rw [this]; rfl)
    have q1 := k1
    have q2 := k1
    have hus : u.size ≤ 9223372036854775807 := by omega
    clear h0 hs
    go_enter Tryz.func14, Tryz.ntmps14
    go_wp2_with fail
    obtain ⟨B1, hB1⟩ : ∃ B, B = w.heap.size := ⟨_, rfl⟩
    obtain ⟨W1_0, hW1_0⟩ : ∃ W, W = w.alloc (Obj.cells #[Value.bool false, Value.string ⟨#[]⟩, Value.string ⟨#[]⟩] 24) := ⟨_, rfl⟩
    have hb : Below w.heap.size w W1_0 := by rw [hW1_0]; exact (Below.refl _ _).alloc (Nat.le_refl _) _
    have hzW1_0 : w.heap.size = B1 := by rw [hB1]
    have hlW1_0 : RatAt (B1) noRaw W1_0 := by rw [← hzW1_0, hW1_0]; exact ⟨heap_lastM _ _⟩
    have D1 := Lib.hid (D0.out.trans (hb.mono D0.out.size))
    clear hb
    have z_1 := Lib.hid hlW1_0
    clear hlW1_0
    obtain ⟨W1_1, hW1_1⟩ : ∃ W, W = W1_0.alloc (Obj.cells #[Value.bool false, Value.string u, Value.string ⟨#[49]⟩] 24) := ⟨_, rfl⟩
    have hb : Below W1_0.heap.size W1_0 W1_1 := by rw [hW1_1]; exact (Below.refl _ _).alloc (Nat.le_refl _) _
    have hzW1_1 : W1_0.heap.size = B1 + 1 := by rw [hW1_0]; simp [hzW1_0]
    have hlW1_1 : RatAt (B1 + 1) ⟨false, u, ⟨#[49]⟩⟩ W1_1 := by rw [← hzW1_1, hW1_1]; exact ⟨heap_lastM _ _⟩
    have D2 := Lib.hid (D1.out.trans (hb.mono D1.out.size))
    have z_2 := Lib.hid (z_1.out.bel hb)
    clear D1 z_1
    clear hb
    have a_2 := Lib.hid hlW1_1
    clear hlW1_1
    rw [← hW1_0]
    rw [← hW1_1]
    simp only [← hB1]
    have HW1_0 := Lib.hid hW1_0
    clear hW1_0 hzW1_0
    have HW1_1 := Lib.hid hW1_1
    clear hW1_1 hzW1_1
    have HB1 := Lib.hid hB1
    clear hB1
    clear q1 q2 k1 k2
    go_loop [5] (fun i => ∃ k : Nat, k ≤ u.size ∧ i = .int .i64 k ∧ Hid (∀ b ∈ (tl u).take k, b ≠ 47)) (fun i => u.size - (intOf i).toNat)
    case atStart => exact ⟨0, by omega, rfl, Lib.hid (by rw [List.take_zero]; intro b hb; cases hb)⟩
    case round =>
      obtain ⟨k, hk, rfl, hx⟩ := hrel
      by_cases hlt : k < u.size
      · by_cases hc : u[k] = 47
        · obtain ⟨n, hn⟩ : ∃ n, n = u.extract 0 k := ⟨_, rfl⟩
          obtain ⟨d, hd⟩ : ∃ d, d = u.extract (k + 1) u.size := ⟨_, rfl⟩
          obtain ⟨p1, p2⟩ := parse_some HCUT.out hlt hx.out hc hn hd
          rw [← HRR.out] at p1 p2
          have P1 := Lib.hid p1; have P2 := Lib.hid p2; clear p1 p2
          have HN := Lib.hid hn; have HDE := Lib.hid hd; clear hn hd
          have w4 : IntKind.i64.wrap ((k : Int) + 1) = (k : Int) + 1 := IntWalk.i64_in _ (by omega)
          have g1 : (u[k].toNat == 47) = true := by rw [hc]; rfl
          have g2 : ((u[k].toNat : Int) == 47) = true := by rw [hc]; rfl
          have k0 : (0 : Int) ≤ (k : Int) + 1 := by omega
          have k3 : (k : Int) + 1 ≤ u.size := by omega
          have o1 := o_str d
          rw [HDE.out] at o1
          rcases Bool.eq_false_or_eq_true (isO d) with ho | ho
          ·
            rw [← HDE.out, ho, HDE.out] at o1
            have HTT : Hid (r = (noRaw, 5)) := Lib.hid (P1.out ho)
            clear ho
            have ac0 := a_2.out.c0
            have ac1 := a_2.out.c1
            have ac2 := a_2.out.c2
            have af0 := a_2.out.fz 0
            have af1 := a_2.out.fz 1
            have af2 := a_2.out.fz 2
            have zz0 := z_2.out.c0; have kk0 := z_2.out.fz 0
            have zz1 := z_2.out.c1; have kk1 := z_2.out.fz 1
            have zz2 := z_2.out.c2; have kk2 := z_2.out.fz 2
            go_wp2_with fail
            (try simp only [Exit.inBlock, Exit.then])
            refine bodyPost_ret (results_rat rfl _ _ (B1) ⟨_, _, _⟩ _ rfl rfl (((z_2.out.setOther (C := B1 + 1) (i := 1) (by omega) _).setOther (C := B1 + 1) (i := 2) (by omega) _).set ⟨_, _, _⟩)) rfl ?_
            rw [HTT.out]
            exact ⟨rfl, ((((D2.out.setCell (p := ⟨B1 + 1, 1, none⟩) (by have := HB1.out; show w.heap.size ≤ B1 + 1; omega) _).setCell (p := ⟨B1 + 1, 2, none⟩) (by have := HB1.out; show w.heap.size ≤ B1 + 1; omega) _).setCell (p := ⟨B1, 0, none⟩) (by have := HB1.out; show w.heap.size ≤ B1; omega) _).setCell (p := ⟨B1, 1, none⟩) (by have := HB1.out; show w.heap.size ≤ B1; omega) _).setCell (p := ⟨B1, 2, none⟩) (by have := HB1.out; show w.heap.size ≤ B1; omega) _⟩
          ·
            rw [← HDE.out, ho, HDE.out] at o1
            have HTT := Lib.hid (P2.out ho)
            clear ho
            have ac0 := a_2.out.c0
            have ac1 := a_2.out.c1
            have ac2 := a_2.out.c2
            have af0 := a_2.out.fz 0
            have af1 := a_2.out.fz 1
            have af2 := a_2.out.fz 2
            go_wp2_with fail
            rw [← HN.out, ← HDE.out]
            have hD2 := Lib.hid ((D2.out.setCell (p := ⟨B1 + 1, 1, none⟩) (by have := HB1.out; show w.heap.size ≤ B1 + 1; omega) (.string n)).setCell (p := ⟨B1 + 1, 2, none⟩) (by have := HB1.out; show w.heap.size ≤ B1 + 1; omega) (.string d))
            have ha2 := Lib.hid (a_2.out.set12 n d)
            have hz2 := Lib.hid ((z_2.out.setOther (C := B1 + 1) (i := 1) (by omega) (.string n)).setOther (C := B1 + 1) (i := 2) (by omega) (.string d))
            clear ac0 ac1 ac2 af0 af1 af2
            obtain ⟨W2, hW2⟩ : ∃ W, W = (W1_1.setCell ⟨B1 + 1, 1, none⟩ (.string n)).setCell ⟨B1 + 1, 2, none⟩ (.string d) := ⟨_, rfl⟩
            rw [← hW2] at hD2 ha2 hz2
            rw [← hW2]
            have HW2 := Lib.hid hW2; clear hW2
            refine (refvalid4_any ⟨false, n, d⟩ _).mono ?_
            rintro e v3 ⟨rfl, hb⟩
            have D3 := Lib.hid (hD2.out.trans (hb.mono hD2.out.size))
            have z_3 := Lib.hid (hz2.out.bel hb)
            have a_3 := Lib.hid (ha2.out.bel hb)
            clear hD2 hz2 ha2
            clear hb
            rcases Bool.eq_false_or_eq_true (okR ⟨false, n, d⟩) with hp | hp
            ·
              have HT3 : Hid (r = (⟨false, n, d⟩, 0)) := Lib.hid (by rw [HTT.out, hp]; rfl)
              simp only [hp]; clear hp
              have ac0 := a_3.out.c0
              have ac1 := a_3.out.c1
              have ac2 := a_3.out.c2
              have zz0 := z_3.out.c0; have kk0 := z_3.out.fz 0
              have zz1 := z_3.out.c1; have kk1 := z_3.out.fz 1
              have zz2 := z_3.out.c2; have kk2 := z_3.out.fz 2
              go_wp2_with fail
              (try simp only [Exit.inBlock, Exit.then])
              first | (refine bodyPost_ret (results_rat rfl _ _ (B1) ⟨_, _, _⟩ _ rfl rfl (z_3.out.set ⟨_, _, _⟩)) rfl ?_; rw [HT3.out]; exact ⟨rfl, ((D3.out.setCell (p := ⟨B1, 0, none⟩) (by have := HB1.out; show w.heap.size ≤ B1; omega) _).setCell (p := ⟨B1, 1, none⟩) (by have := HB1.out; show w.heap.size ≤ B1; omega) _).setCell (p := ⟨B1, 2, none⟩) (by have := HB1.out; show w.heap.size ≤ B1; omega) _⟩) | (refine bodyPost_ret (results_rat rfl _ _ (B1) noRaw _ rfl rfl z_3.out) rfl ?_; rw [HT3.out]; exact ⟨rfl, D3.out⟩)
            ·
              have HT3 : Hid (r = (noRaw, 5)) := Lib.hid (by rw [HTT.out, hp]; rfl)
              simp only [hp]; clear hp
              have ac0 := a_3.out.c0
              have ac1 := a_3.out.c1
              have ac2 := a_3.out.c2
              have zz0 := z_3.out.c0; have kk0 := z_3.out.fz 0
              have zz1 := z_3.out.c1; have kk1 := z_3.out.fz 1
              have zz2 := z_3.out.c2; have kk2 := z_3.out.fz 2
              go_wp2_with fail
              (try simp only [Exit.inBlock, Exit.then])
              first | (refine bodyPost_ret (results_rat rfl _ _ (B1) ⟨_, _, _⟩ _ rfl rfl (z_3.out.set ⟨_, _, _⟩)) rfl ?_; rw [HT3.out]; exact ⟨rfl, ((D3.out.setCell (p := ⟨B1, 0, none⟩) (by have := HB1.out; show w.heap.size ≤ B1; omega) _).setCell (p := ⟨B1, 1, none⟩) (by have := HB1.out; show w.heap.size ≤ B1; omega) _).setCell (p := ⟨B1, 2, none⟩) (by have := HB1.out; show w.heap.size ≤ B1; omega) _⟩) | (refine bodyPost_ret (results_rat rfl _ _ (B1) noRaw _ rfl rfl z_3.out) rfl ?_; rw [HT3.out]; exact ⟨rfl, D3.out⟩)
        · have g1 : (u[k].toNat == 47) = false := beq_eq_false_iff_ne.2 (fun e => hc (UInt8.toNat_inj.1 e))
          have g2 : ((u[k].toNat : Int) == 47) = false := beq_eq_false_iff_ne.2 (fun e => hc (UInt8.toNat_inj.1 (by show u[k].toNat = 47; omega)))
          have w4 : IntKind.i64.wrap ((k : Int) + 1) = (k : Int) + 1 := IntWalk.i64_in _ (by omega)
          have htk : (tl u).take (k + 1) = (tl u).take k ++ [u[k]] := by rw [List.take_succ_eq_append_getElem (by rw [tl_length]; exact hlt), tl_get u k hlt]
          have HTK := Lib.hid htk; have HNC := Lib.hid hc; clear htk hc
          go_wp2_with fail
          go_round
          case rel =>
            refine ⟨k + 1, by omega, by go_num, Lib.hid (fun b hb => ?_)⟩
            rw [HTK.out] at hb
            rcases List.mem_append.1 hb with hb | hb
            · exact hx.out b hb
            · simp only [List.mem_singleton] at hb; subst hb; exact HNC.out
          case measure => simp [intOf]; omega
      · obtain rfl : k = u.size := by omega
        have HNONE := Lib.hid (parse_none HCUT.out hx.out)
        rw [← HRR.out] at HNONE
        have ac0 := a_2.out.c0
        have ac1 := a_2.out.c1
        have ac2 := a_2.out.c2
        go_wp2_with fail
        clear ac0 ac1 ac2
        refine (refvalid4_any ⟨false, u, ⟨#[49]⟩⟩ _).mono ?_
        rintro e v3 ⟨rfl, hb⟩
        have D3 := Lib.hid (D2.out.trans (hb.mono D2.out.size))
        have z_3 := Lib.hid (z_2.out.bel hb)
        have a_3 := Lib.hid (a_2.out.bel hb)
        clear D2 z_2 a_2
        clear hb
        rcases Bool.eq_false_or_eq_true (okR ⟨false, u, ⟨#[49]⟩⟩) with hp | hp
        ·
          have HTT : Hid (r = (⟨false, u, ⟨#[49]⟩⟩, 0)) := Lib.hid (by rw [HNONE.out, hp]; rfl)
          simp only [hp]; clear hp
          have ac0 := a_3.out.c0
          have ac1 := a_3.out.c1
          have ac2 := a_3.out.c2
          have zz0 := z_3.out.c0; have kk0 := z_3.out.fz 0
          have zz1 := z_3.out.c1; have kk1 := z_3.out.fz 1
          have zz2 := z_3.out.c2; have kk2 := z_3.out.fz 2
          go_wp2_with fail
          (try simp only [Exit.inBlock, Exit.then])
          first | (refine bodyPost_ret (results_rat rfl _ _ (B1) ⟨_, _, _⟩ _ rfl rfl (z_3.out.set ⟨_, _, _⟩)) rfl ?_; rw [HTT.out]; exact ⟨rfl, ((D3.out.setCell (p := ⟨B1, 0, none⟩) (by have := HB1.out; show w.heap.size ≤ B1; omega) _).setCell (p := ⟨B1, 1, none⟩) (by have := HB1.out; show w.heap.size ≤ B1; omega) _).setCell (p := ⟨B1, 2, none⟩) (by have := HB1.out; show w.heap.size ≤ B1; omega) _⟩) | (refine bodyPost_ret (results_rat rfl _ _ (B1) noRaw _ rfl rfl z_3.out) rfl ?_; rw [HTT.out]; exact ⟨rfl, D3.out⟩)
        ·
          have HTT : Hid (r = (noRaw, 5)) := Lib.hid (by rw [HNONE.out, hp]; rfl)
          simp only [hp]; clear hp
          have ac0 := a_3.out.c0
          have ac1 := a_3.out.c1
          have ac2 := a_3.out.c2
          have zz0 := z_3.out.c0; have kk0 := z_3.out.fz 0
          have zz1 := z_3.out.c1; have kk1 := z_3.out.fz 1
          have zz2 := z_3.out.c2; have kk2 := z_3.out.fz 2
          go_wp2_with fail
          (try simp only [Exit.inBlock, Exit.then])
          first | (refine bodyPost_ret (results_rat rfl _ _ (B1) ⟨_, _, _⟩ _ rfl rfl (z_3.out.set ⟨_, _, _⟩)) rfl ?_; rw [HTT.out]; exact ⟨rfl, ((D3.out.setCell (p := ⟨B1, 0, none⟩) (by have := HB1.out; show w.heap.size ≤ B1; omega) _).setCell (p := ⟨B1, 1, none⟩) (by have := HB1.out; show w.heap.size ≤ B1; omega) _).setCell (p := ⟨B1, 2, none⟩) (by have := HB1.out; show w.heap.size ≤ B1; omega) _⟩) | (refine bodyPost_ret (results_rat rfl _ _ (B1) noRaw _ rfl rfl z_3.out) rfl ?_; rw [HTT.out]; exact ⟨rfl, D3.out⟩)
  · have hpos : 0 < t.size := by omega
    by_cases h1 : t[0] = 45
    · have k1 : decide (0 < t.size) = true := decide_eq_true (by omega)
      have k2 : decide ((0 : Int) < (t.size : Int)) = true := decide_eq_true (by omega)
      have q1 : (t[0].toNat == 45) = true := by rw [h1]; rfl
      have q2 : ((t[0].toNat : Int) == 45) = true := by rw [h1]; rfl
      obtain ⟨u, hu⟩ : ∃ u, u = t.extract 1 t.size := ⟨_, rfl⟩
      have HCUT : Hid (cutSign (tl t) = (true, tl u)) := Lib.hid (by
        have hl : 0 < (tl t).length := by rw [tl_length]; omega
        have e1 : tl t = 45 :: (tl t).drop 1 := by
          conv => lhs; rw [← List.drop_zero (l := tl t), List.drop_eq_getElem_cons hl, tl_get t 0 (by omega), h1]
        have e2 : tl u = (tl t).drop 1 := by rw [hu, ext_drop, tl_bx]
        rw [e2, e1]; rfl)
      have hus : u.size ≤ 9223372036854775807 := by rw [hu]; simp; omega
      have HU := Lib.hid hu
      clear hu h1
      go_enter Tryz.func14, Tryz.ntmps14
      go_wp2_with fail
      rw [← HU.out]
      obtain ⟨B1, hB1⟩ : ∃ B, B = w.heap.size := ⟨_, rfl⟩
      obtain ⟨W1_0, hW1_0⟩ : ∃ W, W = w.alloc (Obj.cells #[Value.bool false, Value.string ⟨#[]⟩, Value.string ⟨#[]⟩] 24) := ⟨_, rfl⟩
      have hb : Below w.heap.size w W1_0 := by rw [hW1_0]; exact (Below.refl _ _).alloc (Nat.le_refl _) _
      have hzW1_0 : w.heap.size = B1 := by rw [hB1]
      have hlW1_0 : RatAt (B1) noRaw W1_0 := by rw [← hzW1_0, hW1_0]; exact ⟨heap_lastM _ _⟩
      have D1 := Lib.hid (D0.out.trans (hb.mono D0.out.size))
      clear hb
      have z_1 := Lib.hid hlW1_0
      clear hlW1_0
      obtain ⟨W1_1, hW1_1⟩ : ∃ W, W = W1_0.alloc (Obj.cells #[Value.bool true, Value.string u, Value.string ⟨#[49]⟩] 24) := ⟨_, rfl⟩
      have hb : Below W1_0.heap.size W1_0 W1_1 := by rw [hW1_1]; exact (Below.refl _ _).alloc (Nat.le_refl _) _
      have hzW1_1 : W1_0.heap.size = B1 + 1 := by rw [hW1_0]; simp [hzW1_0]
      have hlW1_1 : RatAt (B1 + 1) ⟨true, u, ⟨#[49]⟩⟩ W1_1 := by rw [← hzW1_1, hW1_1]; exact ⟨heap_lastM _ _⟩
      have D2 := Lib.hid (D1.out.trans (hb.mono D1.out.size))
      have z_2 := Lib.hid (z_1.out.bel hb)
      clear D1 z_1
      clear hb
      have a_2 := Lib.hid hlW1_1
      clear hlW1_1
      rw [← hW1_0]
      rw [← hW1_1]
      simp only [← hB1]
      have HW1_0 := Lib.hid hW1_0
      clear hW1_0 hzW1_0
      have HW1_1 := Lib.hid hW1_1
      clear hW1_1 hzW1_1
      have HB1 := Lib.hid hB1
      clear hB1
      clear q1 q2 k1 k2
      go_loop [5] (fun i => ∃ k : Nat, k ≤ u.size ∧ i = .int .i64 k ∧ Hid (∀ b ∈ (tl u).take k, b ≠ 47)) (fun i => u.size - (intOf i).toNat)
      case atStart => exact ⟨0, by omega, rfl, Lib.hid (by rw [List.take_zero]; intro b hb; cases hb)⟩
      case round =>
        obtain ⟨k, hk, rfl, hx⟩ := hrel
        by_cases hlt : k < u.size
        · by_cases hc : u[k] = 47
          · obtain ⟨n, hn⟩ : ∃ n, n = u.extract 0 k := ⟨_, rfl⟩
            obtain ⟨d, hd⟩ : ∃ d, d = u.extract (k + 1) u.size := ⟨_, rfl⟩
            obtain ⟨p1, p2⟩ := parse_some HCUT.out hlt hx.out hc hn hd
            rw [← HRR.out] at p1 p2
            have P1 := Lib.hid p1; have P2 := Lib.hid p2; clear p1 p2
            have HN := Lib.hid hn; have HDE := Lib.hid hd; clear hn hd
            have w4 : IntKind.i64.wrap ((k : Int) + 1) = (k : Int) + 1 := IntWalk.i64_in _ (by omega)
            have g1 : (u[k].toNat == 47) = true := by rw [hc]; rfl
            have g2 : ((u[k].toNat : Int) == 47) = true := by rw [hc]; rfl
            have k0 : (0 : Int) ≤ (k : Int) + 1 := by omega
            have k3 : (k : Int) + 1 ≤ u.size := by omega
            have o1 := o_str d
            rw [HDE.out] at o1
            rcases Bool.eq_false_or_eq_true (isO d) with ho | ho
            ·
              rw [← HDE.out, ho, HDE.out] at o1
              have HTT : Hid (r = (noRaw, 5)) := Lib.hid (P1.out ho)
              clear ho
              have ac0 := a_2.out.c0
              have ac1 := a_2.out.c1
              have ac2 := a_2.out.c2
              have af0 := a_2.out.fz 0
              have af1 := a_2.out.fz 1
              have af2 := a_2.out.fz 2
              have zz0 := z_2.out.c0; have kk0 := z_2.out.fz 0
              have zz1 := z_2.out.c1; have kk1 := z_2.out.fz 1
              have zz2 := z_2.out.c2; have kk2 := z_2.out.fz 2
              go_wp2_with fail
              (try simp only [Exit.inBlock, Exit.then])
              refine bodyPost_ret (results_rat rfl _ _ (B1) ⟨_, _, _⟩ _ rfl rfl (((z_2.out.setOther (C := B1 + 1) (i := 1) (by omega) _).setOther (C := B1 + 1) (i := 2) (by omega) _).set ⟨_, _, _⟩)) rfl ?_
              rw [HTT.out]
              exact ⟨rfl, ((((D2.out.setCell (p := ⟨B1 + 1, 1, none⟩) (by have := HB1.out; show w.heap.size ≤ B1 + 1; omega) _).setCell (p := ⟨B1 + 1, 2, none⟩) (by have := HB1.out; show w.heap.size ≤ B1 + 1; omega) _).setCell (p := ⟨B1, 0, none⟩) (by have := HB1.out; show w.heap.size ≤ B1; omega) _).setCell (p := ⟨B1, 1, none⟩) (by have := HB1.out; show w.heap.size ≤ B1; omega) _).setCell (p := ⟨B1, 2, none⟩) (by have := HB1.out; show w.heap.size ≤ B1; omega) _⟩
            ·
              rw [← HDE.out, ho, HDE.out] at o1
              have HTT := Lib.hid (P2.out ho)
              clear ho
              have ac0 := a_2.out.c0
              have ac1 := a_2.out.c1
              have ac2 := a_2.out.c2
              have af0 := a_2.out.fz 0
              have af1 := a_2.out.fz 1
              have af2 := a_2.out.fz 2
              go_wp2_with fail
              rw [← HN.out, ← HDE.out]
              have hD2 := Lib.hid ((D2.out.setCell (p := ⟨B1 + 1, 1, none⟩) (by have := HB1.out; show w.heap.size ≤ B1 + 1; omega) (.string n)).setCell (p := ⟨B1 + 1, 2, none⟩) (by have := HB1.out; show w.heap.size ≤ B1 + 1; omega) (.string d))
              have ha2 := Lib.hid (a_2.out.set12 n d)
              have hz2 := Lib.hid ((z_2.out.setOther (C := B1 + 1) (i := 1) (by omega) (.string n)).setOther (C := B1 + 1) (i := 2) (by omega) (.string d))
              clear ac0 ac1 ac2 af0 af1 af2
              obtain ⟨W2, hW2⟩ : ∃ W, W = (W1_1.setCell ⟨B1 + 1, 1, none⟩ (.string n)).setCell ⟨B1 + 1, 2, none⟩ (.string d) := ⟨_, rfl⟩
              rw [← hW2] at hD2 ha2 hz2
              rw [← hW2]
              have HW2 := Lib.hid hW2; clear hW2
              refine (refvalid4_any ⟨true, n, d⟩ _).mono ?_
              rintro e v3 ⟨rfl, hb⟩
              have D3 := Lib.hid (hD2.out.trans (hb.mono hD2.out.size))
              have z_3 := Lib.hid (hz2.out.bel hb)
              have a_3 := Lib.hid (ha2.out.bel hb)
              clear hD2 hz2 ha2
              clear hb
              rcases Bool.eq_false_or_eq_true (okR ⟨true, n, d⟩) with hp | hp
              ·
                have HT3 : Hid (r = (⟨true, n, d⟩, 0)) := Lib.hid (by rw [HTT.out, hp]; rfl)
                simp only [hp]; clear hp
                have ac0 := a_3.out.c0
                have ac1 := a_3.out.c1
                have ac2 := a_3.out.c2
                have zz0 := z_3.out.c0; have kk0 := z_3.out.fz 0
                have zz1 := z_3.out.c1; have kk1 := z_3.out.fz 1
                have zz2 := z_3.out.c2; have kk2 := z_3.out.fz 2
                go_wp2_with fail
                (try simp only [Exit.inBlock, Exit.then])
                first | (refine bodyPost_ret (results_rat rfl _ _ (B1) ⟨_, _, _⟩ _ rfl rfl (z_3.out.set ⟨_, _, _⟩)) rfl ?_; rw [HT3.out]; exact ⟨rfl, ((D3.out.setCell (p := ⟨B1, 0, none⟩) (by have := HB1.out; show w.heap.size ≤ B1; omega) _).setCell (p := ⟨B1, 1, none⟩) (by have := HB1.out; show w.heap.size ≤ B1; omega) _).setCell (p := ⟨B1, 2, none⟩) (by have := HB1.out; show w.heap.size ≤ B1; omega) _⟩) | (refine bodyPost_ret (results_rat rfl _ _ (B1) noRaw _ rfl rfl z_3.out) rfl ?_; rw [HT3.out]; exact ⟨rfl, D3.out⟩)
              ·
                have HT3 : Hid (r = (noRaw, 5)) := Lib.hid (by rw [HTT.out, hp]; rfl)
                simp only [hp]; clear hp
                have ac0 := a_3.out.c0
                have ac1 := a_3.out.c1
                have ac2 := a_3.out.c2
                have zz0 := z_3.out.c0; have kk0 := z_3.out.fz 0
                have zz1 := z_3.out.c1; have kk1 := z_3.out.fz 1
                have zz2 := z_3.out.c2; have kk2 := z_3.out.fz 2
                go_wp2_with fail
                (try simp only [Exit.inBlock, Exit.then])
                first | (refine bodyPost_ret (results_rat rfl _ _ (B1) ⟨_, _, _⟩ _ rfl rfl (z_3.out.set ⟨_, _, _⟩)) rfl ?_; rw [HT3.out]; exact ⟨rfl, ((D3.out.setCell (p := ⟨B1, 0, none⟩) (by have := HB1.out; show w.heap.size ≤ B1; omega) _).setCell (p := ⟨B1, 1, none⟩) (by have := HB1.out; show w.heap.size ≤ B1; omega) _).setCell (p := ⟨B1, 2, none⟩) (by have := HB1.out; show w.heap.size ≤ B1; omega) _⟩) | (refine bodyPost_ret (results_rat rfl _ _ (B1) noRaw _ rfl rfl z_3.out) rfl ?_; rw [HT3.out]; exact ⟨rfl, D3.out⟩)
          · have g1 : (u[k].toNat == 47) = false := beq_eq_false_iff_ne.2 (fun e => hc (UInt8.toNat_inj.1 e))
            have g2 : ((u[k].toNat : Int) == 47) = false := beq_eq_false_iff_ne.2 (fun e => hc (UInt8.toNat_inj.1 (by show u[k].toNat = 47; omega)))
            have w4 : IntKind.i64.wrap ((k : Int) + 1) = (k : Int) + 1 := IntWalk.i64_in _ (by omega)
            have htk : (tl u).take (k + 1) = (tl u).take k ++ [u[k]] := by rw [List.take_succ_eq_append_getElem (by rw [tl_length]; exact hlt), tl_get u k hlt]
            have HTK := Lib.hid htk; have HNC := Lib.hid hc; clear htk hc
            go_wp2_with fail
            go_round
            case rel =>
              refine ⟨k + 1, by omega, by go_num, Lib.hid (fun b hb => ?_)⟩
              rw [HTK.out] at hb
              rcases List.mem_append.1 hb with hb | hb
              · exact hx.out b hb
              · simp only [List.mem_singleton] at hb; subst hb; exact HNC.out
            case measure => simp [intOf]; omega
        · obtain rfl : k = u.size := by omega
          have HNONE := Lib.hid (parse_none HCUT.out hx.out)
          rw [← HRR.out] at HNONE
          have ac0 := a_2.out.c0
          have ac1 := a_2.out.c1
          have ac2 := a_2.out.c2
          go_wp2_with fail
          clear ac0 ac1 ac2
          refine (refvalid4_any ⟨true, u, ⟨#[49]⟩⟩ _).mono ?_
          rintro e v3 ⟨rfl, hb⟩
          have D3 := Lib.hid (D2.out.trans (hb.mono D2.out.size))
          have z_3 := Lib.hid (z_2.out.bel hb)
          have a_3 := Lib.hid (a_2.out.bel hb)
          clear D2 z_2 a_2
          clear hb
          rcases Bool.eq_false_or_eq_true (okR ⟨true, u, ⟨#[49]⟩⟩) with hp | hp
          ·
            have HTT : Hid (r = (⟨true, u, ⟨#[49]⟩⟩, 0)) := Lib.hid (by rw [HNONE.out, hp]; rfl)
            simp only [hp]; clear hp
            have ac0 := a_3.out.c0
            have ac1 := a_3.out.c1
            have ac2 := a_3.out.c2
            have zz0 := z_3.out.c0; have kk0 := z_3.out.fz 0
            have zz1 := z_3.out.c1; have kk1 := z_3.out.fz 1
            have zz2 := z_3.out.c2; have kk2 := z_3.out.fz 2
            go_wp2_with fail
            (try simp only [Exit.inBlock, Exit.then])
            first | (refine bodyPost_ret (results_rat rfl _ _ (B1) ⟨_, _, _⟩ _ rfl rfl (z_3.out.set ⟨_, _, _⟩)) rfl ?_; rw [HTT.out]; exact ⟨rfl, ((D3.out.setCell (p := ⟨B1, 0, none⟩) (by have := HB1.out; show w.heap.size ≤ B1; omega) _).setCell (p := ⟨B1, 1, none⟩) (by have := HB1.out; show w.heap.size ≤ B1; omega) _).setCell (p := ⟨B1, 2, none⟩) (by have := HB1.out; show w.heap.size ≤ B1; omega) _⟩) | (refine bodyPost_ret (results_rat rfl _ _ (B1) noRaw _ rfl rfl z_3.out) rfl ?_; rw [HTT.out]; exact ⟨rfl, D3.out⟩)
          ·
            have HTT : Hid (r = (noRaw, 5)) := Lib.hid (by rw [HNONE.out, hp]; rfl)
            simp only [hp]; clear hp
            have ac0 := a_3.out.c0
            have ac1 := a_3.out.c1
            have ac2 := a_3.out.c2
            have zz0 := z_3.out.c0; have kk0 := z_3.out.fz 0
            have zz1 := z_3.out.c1; have kk1 := z_3.out.fz 1
            have zz2 := z_3.out.c2; have kk2 := z_3.out.fz 2
            go_wp2_with fail
            (try simp only [Exit.inBlock, Exit.then])
            first | (refine bodyPost_ret (results_rat rfl _ _ (B1) ⟨_, _, _⟩ _ rfl rfl (z_3.out.set ⟨_, _, _⟩)) rfl ?_; rw [HTT.out]; exact ⟨rfl, ((D3.out.setCell (p := ⟨B1, 0, none⟩) (by have := HB1.out; show w.heap.size ≤ B1; omega) _).setCell (p := ⟨B1, 1, none⟩) (by have := HB1.out; show w.heap.size ≤ B1; omega) _).setCell (p := ⟨B1, 2, none⟩) (by have := HB1.out; show w.heap.size ≤ B1; omega) _⟩) | (refine bodyPost_ret (results_rat rfl _ _ (B1) noRaw _ rfl rfl z_3.out) rfl ?_; rw [HTT.out]; exact ⟨rfl, D3.out⟩)
    · obtain ⟨u, hu⟩ : ∃ u, u = t := ⟨_, rfl⟩; subst hu
      have k1 : decide (0 < u.size) = true := decide_eq_true (by omega)
      have k2 : decide ((0 : Int) < (u.size : Int)) = true := decide_eq_true (by omega)
      have q1 : (u[0].toNat == 45) = false := beq_eq_false_iff_ne.2 (fun e => h1 (UInt8.toNat_inj.1 e))
      have q2 : ((u[0].toNat : Int) == 45) = false := beq_eq_false_iff_ne.2 (fun e => h1 (UInt8.toNat_inj.1 (by show u[0].toNat = 45; omega)))
      have HCUT : Hid (cutSign (tl u) = (false, tl u)) := Lib.hid (by
        unfold cutSign
        rw [if_neg]
        intro h
        rw [List.head?_eq_getElem?, List.getElem?_eq_getElem (by rw [tl_length]; exact hpos), tl_get u 0 hpos] at h
        exact h1 (Option.some.inj h))
      have hus : u.size ≤ 9223372036854775807 := by omega
      clear h0 hs h1
      go_enter Tryz.func14, Tryz.ntmps14
      go_wp2_with fail
      obtain ⟨B1, hB1⟩ : ∃ B, B = w.heap.size := ⟨_, rfl⟩
      obtain ⟨W1_0, hW1_0⟩ : ∃ W, W = w.alloc (Obj.cells #[Value.bool false, Value.string ⟨#[]⟩, Value.string ⟨#[]⟩] 24) := ⟨_, rfl⟩
      have hb : Below w.heap.size w W1_0 := by rw [hW1_0]; exact (Below.refl _ _).alloc (Nat.le_refl _) _
      have hzW1_0 : w.heap.size = B1 := by rw [hB1]
      have hlW1_0 : RatAt (B1) noRaw W1_0 := by rw [← hzW1_0, hW1_0]; exact ⟨heap_lastM _ _⟩
      have D1 := Lib.hid (D0.out.trans (hb.mono D0.out.size))
      clear hb
      have z_1 := Lib.hid hlW1_0
      clear hlW1_0
      obtain ⟨W1_1, hW1_1⟩ : ∃ W, W = W1_0.alloc (Obj.cells #[Value.bool false, Value.string u, Value.string ⟨#[49]⟩] 24) := ⟨_, rfl⟩
      have hb : Below W1_0.heap.size W1_0 W1_1 := by rw [hW1_1]; exact (Below.refl _ _).alloc (Nat.le_refl _) _
      have hzW1_1 : W1_0.heap.size = B1 + 1 := by rw [hW1_0]; simp [hzW1_0]
      have hlW1_1 : RatAt (B1 + 1) ⟨false, u, ⟨#[49]⟩⟩ W1_1 := by rw [← hzW1_1, hW1_1]; exact ⟨heap_lastM _ _⟩
      have D2 := Lib.hid (D1.out.trans (hb.mono D1.out.size))
      have z_2 := Lib.hid (z_1.out.bel hb)
      clear D1 z_1
      clear hb
      have a_2 := Lib.hid hlW1_1
      clear hlW1_1
      rw [← hW1_0]
      rw [← hW1_1]
      simp only [← hB1]
      have HW1_0 := Lib.hid hW1_0
      clear hW1_0 hzW1_0
      have HW1_1 := Lib.hid hW1_1
      clear hW1_1 hzW1_1
      have HB1 := Lib.hid hB1
      clear hB1
      clear q1 q2 k1 k2
      go_loop [5] (fun i => ∃ k : Nat, k ≤ u.size ∧ i = .int .i64 k ∧ Hid (∀ b ∈ (tl u).take k, b ≠ 47)) (fun i => u.size - (intOf i).toNat)
      case atStart => exact ⟨0, by omega, rfl, Lib.hid (by rw [List.take_zero]; intro b hb; cases hb)⟩
      case round =>
        obtain ⟨k, hk, rfl, hx⟩ := hrel
        by_cases hlt : k < u.size
        · by_cases hc : u[k] = 47
          · obtain ⟨n, hn⟩ : ∃ n, n = u.extract 0 k := ⟨_, rfl⟩
            obtain ⟨d, hd⟩ : ∃ d, d = u.extract (k + 1) u.size := ⟨_, rfl⟩
            obtain ⟨p1, p2⟩ := parse_some HCUT.out hlt hx.out hc hn hd
            rw [← HRR.out] at p1 p2
            have P1 := Lib.hid p1; have P2 := Lib.hid p2; clear p1 p2
            have HN := Lib.hid hn; have HDE := Lib.hid hd; clear hn hd
            have w4 : IntKind.i64.wrap ((k : Int) + 1) = (k : Int) + 1 := IntWalk.i64_in _ (by omega)
            have g1 : (u[k].toNat == 47) = true := by rw [hc]; rfl
            have g2 : ((u[k].toNat : Int) == 47) = true := by rw [hc]; rfl
            have k0 : (0 : Int) ≤ (k : Int) + 1 := by omega
            have k3 : (k : Int) + 1 ≤ u.size := by omega
            have o1 := o_str d
            rw [HDE.out] at o1
            rcases Bool.eq_false_or_eq_true (isO d) with ho | ho
            ·
              rw [← HDE.out, ho, HDE.out] at o1
              have HTT : Hid (r = (noRaw, 5)) := Lib.hid (P1.out ho)
              clear ho
              have ac0 := a_2.out.c0
              have ac1 := a_2.out.c1
              have ac2 := a_2.out.c2
              have af0 := a_2.out.fz 0
              have af1 := a_2.out.fz 1
              have af2 := a_2.out.fz 2
              have zz0 := z_2.out.c0; have kk0 := z_2.out.fz 0
              have zz1 := z_2.out.c1; have kk1 := z_2.out.fz 1
              have zz2 := z_2.out.c2; have kk2 := z_2.out.fz 2
              go_wp2_with fail
              (try simp only [Exit.inBlock, Exit.then])
              refine bodyPost_ret (results_rat rfl _ _ (B1) ⟨_, _, _⟩ _ rfl rfl (((z_2.out.setOther (C := B1 + 1) (i := 1) (by omega) _).setOther (C := B1 + 1) (i := 2) (by omega) _).set ⟨_, _, _⟩)) rfl ?_
              rw [HTT.out]
              exact ⟨rfl, ((((D2.out.setCell (p := ⟨B1 + 1, 1, none⟩) (by have := HB1.out; show w.heap.size ≤ B1 + 1; omega) _).setCell (p := ⟨B1 + 1, 2, none⟩) (by have := HB1.out; show w.heap.size ≤ B1 + 1; omega) _).setCell (p := ⟨B1, 0, none⟩) (by have := HB1.out; show w.heap.size ≤ B1; omega) _).setCell (p := ⟨B1, 1, none⟩) (by have := HB1.out; show w.heap.size ≤ B1; omega) _).setCell (p := ⟨B1, 2, none⟩) (by have := HB1.out; show w.heap.size ≤ B1; omega) _⟩
            ·
              rw [← HDE.out, ho, HDE.out] at o1
              have HTT := Lib.hid (P2.out ho)
              clear ho
              have ac0 := a_2.out.c0
              have ac1 := a_2.out.c1
              have ac2 := a_2.out.c2
              have af0 := a_2.out.fz 0
              have af1 := a_2.out.fz 1
              have af2 := a_2.out.fz 2
              go_wp2_with fail
              rw [← HN.out, ← HDE.out]
              have hD2 := Lib.hid ((D2.out.setCell (p := ⟨B1 + 1, 1, none⟩) (by have := HB1.out; show w.heap.size ≤ B1 + 1; omega) (.string n)).setCell (p := ⟨B1 + 1, 2, none⟩) (by have := HB1.out; show w.heap.size ≤ B1 + 1; omega) (.string d))
              have ha2 := Lib.hid (a_2.out.set12 n d)
              have hz2 := Lib.hid ((z_2.out.setOther (C := B1 + 1) (i := 1) (by omega) (.string n)).setOther (C := B1 + 1) (i := 2) (by omega) (.string d))
              clear ac0 ac1 ac2 af0 af1 af2
              obtain ⟨W2, hW2⟩ : ∃ W, W = (W1_1.setCell ⟨B1 + 1, 1, none⟩ (.string n)).setCell ⟨B1 + 1, 2, none⟩ (.string d) := ⟨_, rfl⟩
              rw [← hW2] at hD2 ha2 hz2
              rw [← hW2]
              have HW2 := Lib.hid hW2; clear hW2
              refine (refvalid4_any ⟨false, n, d⟩ _).mono ?_
              rintro e v3 ⟨rfl, hb⟩
              have D3 := Lib.hid (hD2.out.trans (hb.mono hD2.out.size))
              have z_3 := Lib.hid (hz2.out.bel hb)
              have a_3 := Lib.hid (ha2.out.bel hb)
              clear hD2 hz2 ha2
              clear hb
              rcases Bool.eq_false_or_eq_true (okR ⟨false, n, d⟩) with hp | hp
              ·
                have HT3 : Hid (r = (⟨false, n, d⟩, 0)) := Lib.hid (by rw [HTT.out, hp]; rfl)
                simp only [hp]; clear hp
                have ac0 := a_3.out.c0
                have ac1 := a_3.out.c1
                have ac2 := a_3.out.c2
                have zz0 := z_3.out.c0; have kk0 := z_3.out.fz 0
                have zz1 := z_3.out.c1; have kk1 := z_3.out.fz 1
                have zz2 := z_3.out.c2; have kk2 := z_3.out.fz 2
                go_wp2_with fail
                (try simp only [Exit.inBlock, Exit.then])
                first | (refine bodyPost_ret (results_rat rfl _ _ (B1) ⟨_, _, _⟩ _ rfl rfl (z_3.out.set ⟨_, _, _⟩)) rfl ?_; rw [HT3.out]; exact ⟨rfl, ((D3.out.setCell (p := ⟨B1, 0, none⟩) (by have := HB1.out; show w.heap.size ≤ B1; omega) _).setCell (p := ⟨B1, 1, none⟩) (by have := HB1.out; show w.heap.size ≤ B1; omega) _).setCell (p := ⟨B1, 2, none⟩) (by have := HB1.out; show w.heap.size ≤ B1; omega) _⟩) | (refine bodyPost_ret (results_rat rfl _ _ (B1) noRaw _ rfl rfl z_3.out) rfl ?_; rw [HT3.out]; exact ⟨rfl, D3.out⟩)
              ·
                have HT3 : Hid (r = (noRaw, 5)) := Lib.hid (by rw [HTT.out, hp]; rfl)
                simp only [hp]; clear hp
                have ac0 := a_3.out.c0
                have ac1 := a_3.out.c1
                have ac2 := a_3.out.c2
                have zz0 := z_3.out.c0; have kk0 := z_3.out.fz 0
                have zz1 := z_3.out.c1; have kk1 := z_3.out.fz 1
                have zz2 := z_3.out.c2; have kk2 := z_3.out.fz 2
                go_wp2_with fail
                (try simp only [Exit.inBlock, Exit.then])
                first | (refine bodyPost_ret (results_rat rfl _ _ (B1) ⟨_, _, _⟩ _ rfl rfl (z_3.out.set ⟨_, _, _⟩)) rfl ?_; rw [HT3.out]; exact ⟨rfl, ((D3.out.setCell (p := ⟨B1, 0, none⟩) (by have := HB1.out; show w.heap.size ≤ B1; omega) _).setCell (p := ⟨B1, 1, none⟩) (by have := HB1.out; show w.heap.size ≤ B1; omega) _).setCell (p := ⟨B1, 2, none⟩) (by have := HB1.out; show w.heap.size ≤ B1; omega) _⟩) | (refine bodyPost_ret (results_rat rfl _ _ (B1) noRaw _ rfl rfl z_3.out) rfl ?_; rw [HT3.out]; exact ⟨rfl, D3.out⟩)
          · have g1 : (u[k].toNat == 47) = false := beq_eq_false_iff_ne.2 (fun e => hc (UInt8.toNat_inj.1 e))
            have g2 : ((u[k].toNat : Int) == 47) = false := beq_eq_false_iff_ne.2 (fun e => hc (UInt8.toNat_inj.1 (by show u[k].toNat = 47; omega)))
            have w4 : IntKind.i64.wrap ((k : Int) + 1) = (k : Int) + 1 := IntWalk.i64_in _ (by omega)
            have htk : (tl u).take (k + 1) = (tl u).take k ++ [u[k]] := by rw [List.take_succ_eq_append_getElem (by rw [tl_length]; exact hlt), tl_get u k hlt]
            have HTK := Lib.hid htk; have HNC := Lib.hid hc; clear htk hc
            go_wp2_with fail
            go_round
            case rel =>
              refine ⟨k + 1, by omega, by go_num, Lib.hid (fun b hb => ?_)⟩
              rw [HTK.out] at hb
              rcases List.mem_append.1 hb with hb | hb
              · exact hx.out b hb
              · simp only [List.mem_singleton] at hb; subst hb; exact HNC.out
            case measure => simp [intOf]; omega
        · obtain rfl : k = u.size := by omega
          have HNONE := Lib.hid (parse_none HCUT.out hx.out)
          rw [← HRR.out] at HNONE
          have ac0 := a_2.out.c0
          have ac1 := a_2.out.c1
          have ac2 := a_2.out.c2
          go_wp2_with fail
          clear ac0 ac1 ac2
          refine (refvalid4_any ⟨false, u, ⟨#[49]⟩⟩ _).mono ?_
          rintro e v3 ⟨rfl, hb⟩
          have D3 := Lib.hid (D2.out.trans (hb.mono D2.out.size))
          have z_3 := Lib.hid (z_2.out.bel hb)
          have a_3 := Lib.hid (a_2.out.bel hb)
          clear D2 z_2 a_2
          clear hb
          rcases Bool.eq_false_or_eq_true (okR ⟨false, u, ⟨#[49]⟩⟩) with hp | hp
          ·
            have HTT : Hid (r = (⟨false, u, ⟨#[49]⟩⟩, 0)) := Lib.hid (by rw [HNONE.out, hp]; rfl)
            simp only [hp]; clear hp
            have ac0 := a_3.out.c0
            have ac1 := a_3.out.c1
            have ac2 := a_3.out.c2
            have zz0 := z_3.out.c0; have kk0 := z_3.out.fz 0
            have zz1 := z_3.out.c1; have kk1 := z_3.out.fz 1
            have zz2 := z_3.out.c2; have kk2 := z_3.out.fz 2
            go_wp2_with fail
            (try simp only [Exit.inBlock, Exit.then])
            first | (refine bodyPost_ret (results_rat rfl _ _ (B1) ⟨_, _, _⟩ _ rfl rfl (z_3.out.set ⟨_, _, _⟩)) rfl ?_; rw [HTT.out]; exact ⟨rfl, ((D3.out.setCell (p := ⟨B1, 0, none⟩) (by have := HB1.out; show w.heap.size ≤ B1; omega) _).setCell (p := ⟨B1, 1, none⟩) (by have := HB1.out; show w.heap.size ≤ B1; omega) _).setCell (p := ⟨B1, 2, none⟩) (by have := HB1.out; show w.heap.size ≤ B1; omega) _⟩) | (refine bodyPost_ret (results_rat rfl _ _ (B1) noRaw _ rfl rfl z_3.out) rfl ?_; rw [HTT.out]; exact ⟨rfl, D3.out⟩)
          ·
            have HTT : Hid (r = (noRaw, 5)) := Lib.hid (by rw [HNONE.out, hp]; rfl)
            simp only [hp]; clear hp
            have ac0 := a_3.out.c0
            have ac1 := a_3.out.c1
            have ac2 := a_3.out.c2
            have zz0 := z_3.out.c0; have kk0 := z_3.out.fz 0
            have zz1 := z_3.out.c1; have kk1 := z_3.out.fz 1
            have zz2 := z_3.out.c2; have kk2 := z_3.out.fz 2
            go_wp2_with fail
            (try simp only [Exit.inBlock, Exit.then])
            first | (refine bodyPost_ret (results_rat rfl _ _ (B1) ⟨_, _, _⟩ _ rfl rfl (z_3.out.set ⟨_, _, _⟩)) rfl ?_; rw [HTT.out]; exact ⟨rfl, ((D3.out.setCell (p := ⟨B1, 0, none⟩) (by have := HB1.out; show w.heap.size ≤ B1; omega) _).setCell (p := ⟨B1, 1, none⟩) (by have := HB1.out; show w.heap.size ≤ B1; omega) _).setCell (p := ⟨B1, 2, none⟩) (by have := HB1.out; show w.heap.size ≤ B1; omega) _⟩) | (refine bodyPost_ret (results_rat rfl _ _ (B1) noRaw _ rfl rfl z_3.out) rfl ?_; rw [HTT.out]; exact ⟨rfl, D3.out⟩)
end Go.Proofs.YthpghjklnkdmfaaGreatDoor
