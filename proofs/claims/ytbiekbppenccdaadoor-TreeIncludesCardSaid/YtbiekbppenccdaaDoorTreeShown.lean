/-
  The reference's Shown: two different texts of a list have one digest.
-/
import Derived.Test.YtbiekbppenccdaaDoorTreeTexts
import Derived.BigQuiet
set_option linter.unusedVariables false
namespace Go.Proofs.YtbiekbppenccdaaDoor
open Go.RowKit
def pairAt (ss : List ByteArray) (x y : Nat) : Prop := sumB (ss.getD x ByteArray.empty) = sumB (ss.getD y ByteArray.empty) ∧ ss.getD x ByteArray.empty ≠ ss.getD y ByteArray.empty
theorem getD_in {ss : List ByteArray} {k : Nat} (h : k < ss.length) : ss.getD k ByteArray.empty = ss[k] := by simp [List.getD, h]
theorem Shown.pair {ss : List ByteArray} (h : Shown ss) : ∃ x y, y < x ∧ x < ss.length ∧ pairAt ss x y := by
  obtain ⟨s, hs, t, ht, e, n⟩ := h
  obtain ⟨i, hi, rfl⟩ := List.getElem_of_mem hs
  obtain ⟨j, hj, rfl⟩ := List.getElem_of_mem ht
  rcases Nat.lt_trichotomy i j with h | h | h
  · exact ⟨j, i, h, hj, by unfold pairAt; rw [getD_in hi, getD_in hj]; exact ⟨e.symm, fun e' => n e'.symm⟩⟩
  · subst h; exact absurd rfl n
  · exact ⟨i, j, h, hi, by unfold pairAt; rw [getD_in hi, getD_in hj]; exact ⟨e, n⟩⟩
set_option maxHeartbeats 2000000 in
theorem shown_full (b off cap : Nat) (ss : List ByteArray) (w : World) (h0 : 0 < ss.length) (hl : ss.length ≤ 549755813888) (hok : StrsOk w (.slice (some ⟨b, off, none⟩) ss.length cap) ss) (hsz : ∀ s ∈ ss, s.size ≤ 140737488355328) (hc : ∀ j (hj : j < ss.length), w.cell? ⟨b, off + j, none⟩ = some (.string ss[j])) (hsh : Shown ss) :
    Calls Tryd.prog 26 #[.slice (some ⟨b, off, none⟩) ss.length cap] w fun e w' => e = .returned (.bool true) ∧ Below w.heap.size w w' := by
  have H := Lib.hid hok
  have HC := Lib.hid hc
  have HS := Lib.hid hsz
  have SH := Lib.hid hsh.pair
  have hlt0 : b < w.heap.size := by
    have := hc 0 h0
    rcases Nat.lt_or_ge b w.heap.size with h' | h'
    · exact h'
    · simp [World.cell?, Array.getElem?_eq_none h'] at this
  clear hok hc hsz hsh
  go_enter Tryd.func26, Tryd.ntmps26
  go_wp2_with fail
  go_loopw [3, 4] (fun v i wr => ∃ k : Nat, k ≤ ss.length ∧ i = .int .i64 k ∧ OwnS w.heap.size wr v ((ss.map sumB).take k) ∧ Below w.heap.size w wr) (fun _ i _ => ss.length - (intOf i).toNat)
  case atStart => exact ⟨0, by omega, rfl, OwnS.nil _ _, Below.refl _ _⟩
  case round =>
    obtain ⟨k, hk, rfl, hown, hbel⟩ := hrel
    by_cases hlt : k < ss.length
    · have hcell : wr.cell? ⟨b, off + k, none⟩ = some (.string ss[k]) := (hbel.cell (p := ⟨b, off + k, none⟩) hlt0).trans (HC.out k hlt)
      have hz : ss[k].size ≤ 140737488355328 := HS.out _ (List.getElem_mem hlt)
      have HZ := Lib.hid hz
      clear hz
      have hln : ((ss.map sumB).take k).length + [sumB ss[k]].length ≤ 1099511627776 := by simp; omega
      have HLN := Lib.hid hln
      clear hln
      have hBl : Below w.heap.size w (wr.alloc (Obj.cells #[Value.string (sumB ss[k])] 9)) := hbel.alloc hbel.size _
      go_wp2_with fail
      refine (refsum_any ss[k] _ HZ.out).mono ?_
      rintro e wz ⟨rfl, rfl⟩
      go_wp2_with (at_builtin; refine wpList_cat _ rfl _ _ rfl w.heap.size 0 _ _ ((ss.map sumB).take k) [sumB ss[k]] rfl rfl (hown.below (below_lit wr _)) (own_lit wr _) HLN.out hBl.size ?_)
      intro v7 w7 hown7 hgrow7
      have hB7 := below_append hBl hown hgrow7
      go_wp2_with fail
      go_roundw
      case rel => exact ⟨k + 1, by omega, by go_num, by rw [List.take_succ_eq_append_getElem (by simpa using hlt), List.getElem_map]; exact hown7, hB7⟩
      case measure => simp [intOf]; omega
    · obtain rfl : k = ss.length := by omega
      rw [List.take_of_length_le (by simp)] at hown
      have hso := hown.ok (by intro s hs; simp only [List.mem_map] at hs; obtain ⟨t, _, rfl⟩ := hs; rw [sumB_size]; unfold maxLen; omega)
      obtain ⟨g, go, gcap, rfl, g1, g3, gc⟩ := hso.open_ (by simpa using h0)
      simp only [List.length_map] at g1 gc ⊢
      have GC := Lib.hid gc
      clear hown hso gc
      have HC2 : Hid (∀ j (hj : j < ss.length), wr.cell? ⟨b, off + j, none⟩ = some (.string ss[j])) := Lib.hid (fun j hj => (hbel.cell (p := ⟨b, off + j, none⟩) hlt0).trans (HC.out j hj))
      obtain ⟨W, hW⟩ : ∃ W, W = wr := ⟨_, rfl⟩
      subst hW
      go_wp2_with fail
      go_loopw [5] (fun i wq => ∃ a n : Nat, a ≤ ss.length ∧ i = .int .i64 a ∧ wq = W.drewN n ∧ Hid (∀ x, x < a → ∀ y, y < x → ¬ pairAt ss x y)) (fun i _ => ss.length - (intOf i).toNat)
      case atStart => exact ⟨0, 0, by omega, rfl, rfl, Lib.hid (fun x hx => absurd hx (by omega))⟩
      case round =>
        obtain ⟨a, n, ha, rfl, rfl, hnp⟩ := hrel
        by_cases halt : a < ss.length
        · go_wp2_with fail
          go_loopw [6] (fun i wq => ∃ c m : Nat, c ≤ a ∧ i = .int .i64 c ∧ wq = W.drewN m ∧ Hid (∀ y, y < c → ¬ pairAt ss a y)) (fun i _ => a - (intOf i).toNat)
          case atStart => exact ⟨0, n, by omega, rfl, rfl, Lib.hid (fun y hy => absurd hy (by omega))⟩
          case round =>
            obtain ⟨c, m, hca, rfl, rfl, hnq⟩ := hrel
            by_cases hclt : c < a
            · have c1 := HC2.out a halt
              have c2 := HC2.out c (by omega)
              have d1 := GC.out a halt
              have d2 := GC.out c (by omega)
              simp only [List.getElem_map] at d1 d2
              have hpair : pairAt ss a c ↔ (sumB ss[a] = sumB ss[c] ∧ ss[a] ≠ ss[c]) := by unfold pairAt; rw [getD_in halt, getD_in (show c < ss.length by omega)]
              have HPR := Lib.hid hpair
              clear hpair
              obtain ⟨X, hX⟩ : ∃ X, X = sumB ss[a] := ⟨_, rfl⟩
              obtain ⟨Y, hY⟩ : ∃ Y, Y = sumB ss[c] := ⟨_, rfl⟩
              obtain ⟨S, hS⟩ : ∃ S, S = ss[a] := ⟨_, rfl⟩
              obtain ⟨T, hT⟩ : ∃ T, T = ss[c] := ⟨_, rfl⟩
              rw [← hX] at d1
              rw [← hY] at d2
              rw [← hS] at c1
              rw [← hT] at c2
              have HX := Lib.hid hX
              have HY := Lib.hid hY
              have HSS := Lib.hid hS
              have HTT := Lib.hid hT
              clear hX hY hS hT
              by_cases e : X = Y
              · have e1 : (X.toList == Y.toList) = true := by rw [str_beq]; exact decide_eq_true e
                have E := Lib.hid e
                clear e
                by_cases f : S = T
                · have e2 : (S.toList == T.toList) = true := by rw [str_beq]; exact decide_eq_true f
                  have no : ¬ pairAt ss a c := fun h => (HPR.out.1 h).2 (by rw [← HSS.out, ← HTT.out]; exact f)
                  have NO := Lib.hid no
                  clear f no
                  go_wp2_with fail
                  go_quiet (fail)
                  go_wp2_with fail
                  refine ⟨⟨c + 1, m + nq, by omega, by go_num, rfl, Lib.hid (fun y hy => ?_)⟩, by simp [intOf]; omega⟩
                  by_cases ey : y = c
                  · subst ey; exact NO.out
                  · exact hnq.out y (by omega)
                · have e2 : (S.toList == T.toList) = false := by rw [str_beq]; exact decide_eq_false f
                  clear f
                  go_wp2_with fail
                  go_quiet (fail)
                  go_wp2_with fail
                  go_ret
                  exact ⟨rfl, below_drewN (below_drewN hbel _) _⟩
              · have e1 : (X.toList == Y.toList) = false := by rw [str_beq]; exact decide_eq_false e
                have no : ¬ pairAt ss a c := fun h => e (by rw [HX.out, HY.out]; exact (HPR.out.1 h).1)
                have NO := Lib.hid no
                clear e no
                go_wp2_with fail
                go_quiet (fail)
                go_wp2_with fail
                refine ⟨⟨c + 1, m + nq, by omega, by go_num, rfl, Lib.hid (fun y hy => ?_)⟩, by simp [intOf]; omega⟩
                by_cases ey : y = c
                · subst ey; exact NO.out
                · exact hnq.out y (by omega)
            · obtain rfl : c = a := by omega
              go_wp2_with fail
              go_roundw
              case rel =>
                refine ⟨c + 1, m, by omega, by go_num, rfl, Lib.hid (fun x hx y hy => ?_)⟩
                by_cases ex : x = c
                · subst ex; exact hnq.out y hy
                · exact hnp.out x (by omega) y hy
              case measure => simp [intOf]; omega
        · exfalso
          obtain ⟨x, y, h1, h2, h3⟩ := SH.out
          exact hnp.out x (by omega) y h1 h3
theorem shown_any (v : Value) (ss : List ByteArray) (w : World) (h : StrsOk w v ss) (hl : ss.length ≤ 549755813888) (hsz : ∀ s ∈ ss, s.size ≤ 140737488355328) (hsh : Shown ss) :
    Calls Tryd.prog 26 #[v] w fun e w' => e = .returned (.bool true) ∧ Below w.heap.size w w' := by
  have h0 : 0 < ss.length := by
    obtain ⟨x, hx, _⟩ := hsh
    exact List.length_pos_of_mem hx
  obtain ⟨b, off, cap, rfl, h1, h3, hc⟩ := h.open_ h0
  exact shown_full b off cap ss w h0 hl h hsz hc hsh
end Go.Proofs.YtbiekbppenccdaaDoor
