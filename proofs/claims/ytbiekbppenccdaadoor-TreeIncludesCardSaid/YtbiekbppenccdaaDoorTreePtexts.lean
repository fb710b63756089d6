import Derived.Test.YtbiekbppenccdaaDoorTreeExt
import Derived.Deep.AppendLies
set_option linter.unusedVariables false
namespace Go.Proofs.YtbiekbppenccdaaDoor
open Go.RowKit
/-- the reference's Joined of a short literal -/
theorem refjlit_any (v : Value) (ss : List ByteArray) (w : World) (h : StrsAt w v ss) (hl : ss.length ≤ 10) (hs : ∀ s ∈ ss, s.size ≤ 2147483648) :
    Calls Tryd.prog 53 #[v] w fun e w' => e = .returned (.string (joinB ss)) ∧ Below w.heap.size w w' := by
  have hc : ∀ l : List ByteArray, (∀ s ∈ l, s.size ≤ 2147483648) → capN l ≤ 2147483669 * l.length := by
    intro l
    induction l with
    | nil => intro _; simp [capN]
    | cons s r ih =>
      intro h
      have h1 := h s (List.mem_cons_self ..)
      have h2 := ih (fun x hx => h x (List.mem_cons_of_mem _ hx))
      simp only [capN, List.length_cons]; omega
  have c1 := hc ss hs
  have c2 := join_le_cap (ss := ss) (fun s h => by have := hs s h; omega)
  exact refjoined_any v ss w h (by unfold maxLen; omega) (by omega) (by omega)
theorem refnodeT_any (a b : ByteArray) (w : World) (ha : a.size ≤ 2147483648) (hb : b.size ≤ 2147483648) :
    Calls Tryd.prog 53 #[.slice (some ⟨w.heap.size, 0, none⟩) 3 3] (w.alloc (Obj.cells #[Value.string kNode, Value.string a, Value.string b] 9)) fun e w' => e = .returned (.string (nodeT a b)) ∧ Below w.heap.size w w' := by
  refine (refjlit_any _ _ _ (lit3_at w kNode a b) (by simp) (by
    intro s h; simp only [List.mem_cons, List.not_mem_nil, or_false] at h
    rcases h with rfl | rfl | rfl
    · decide
    · exact ha
    · exact hb)).mono ?_
  rintro e w1 ⟨rfl, hb1⟩
  exact ⟨rfl, (below_lit w _).trans (hb1.mono (by simp))⟩
set_option maxHeartbeats 1000000 in
theorem refptexts_lo (n i : Nat) (d x R : ByteArray) (P : List ByteArray) (r b off cap : Nat) (w : World) (h2 : 2 ≤ n) (hn : n ≤ 1099511627776) (hi : i < half n) (hcap : r + 1 ≤ cap) (hcm : cap ≤ maxLen)
    (hx : w.cell? ⟨b, off + r, none⟩ = some (.string x)) (hR : R.size ≤ 2147483648) (hxs : x.size ≤ 2147483648) (hP : P.length ≤ 1099511627776)
    (hlo : ∀ w', Below w.heap.size w w' → Calls Tryd.prog 28 #[.int .i64 (half n : Nat), .int .i64 (i : Int), .string d, .slice (some ⟨b, off, none⟩) r cap] w' (Gives P w'))
    (hup : ∀ w', Below w.heap.size w w' → Calls Tryd.prog 46 #[.int .i64 (half n : Nat), .int .i64 (i : Int), .string d, .slice (some ⟨b, off, none⟩) r cap] w' fun e w'' => e = .returned (.string R) ∧ Below w'.heap.size w' w'') :
    Calls Tryd.prog 28 #[.int .i64 (n : Int), .int .i64 (i : Int), .string d, .slice (some ⟨b, off, none⟩) (r + 1) cap] w (Gives (P ++ [nodeT R x]) w) := by
  obtain ⟨i0, hi0, hz0, hz1, hz2⟩ := info_parts infoStr
  have HLO := Lib.hid hlo
  have HUP := Lib.hid hup
  have HR := Lib.hid hR
  have HX := Lib.hid hxs
  clear hlo hup hR hxs
  have k1 := half_pos h2
  have k2 := half_lt h2
  have t1 : ((n : Int) == 1) = false := beq_eq_false_iff_ne.2 (by omega)
  have i5 : IntKind.i64.wrap (((r + 1 : Nat) : Int) - 1) = (r : Int) := by rw [IntWalk.i64_in _ (by unfold maxLen at hcm; omega)]; omega
  have i6 : IntKind.i64.wrap ((r : Int) + 1 - 1) = (r : Int) := by rw [IntWalk.i64_in _ (by unfold maxLen at hcm; omega)]; omega
  have i7 : (0 : Int) ≤ (r : Int) := by omega
  have i8 : (r : Int) ≤ (cap : Int) := by omega
  unfold maxLen at hcm
  go_enter Tryd.func28, Tryd.ntmps28
  go_wp2_with fail
  refine (half_any _ _ h2 hn).mono ?_
  rintro e w1 ⟨rfl, rfl⟩
  go_wp2_with fail
  refine (HLO.out _ (Below.refl _ _)).mono ?_
  rintro e w2 ⟨u, rfl, hu, hb2⟩
  go_wp2_with fail
  refine (HUP.out _ hb2).mono ?_
  rintro e w3 ⟨rfl, hb3⟩
  go_wp2_with fail
  refine (refnodeT_any _ _ _ HR.out HX.out).mono ?_
  rintro e w4 ⟨rfl, hb4⟩
  have hb4' := hb2.trans ((hb3.trans (hb4.mono hb3.size)).mono hb2.size)
  have hb5 : Below w.heap.size w (w4.alloc (Obj.cells #[Value.string (nodeT R x)] 9)) := hb4'.alloc hb4'.size _
  have HU := ((hu.below hb3).below hb4)
  have h1n := World.news_of_block (cs := #[.string (nodeT R x)]) (t := 9) (fr := (0, 0)) (heap_last w4 _)
  go_wp2_with (at_builtin; refine wpList_append_own _ rfl _ _ 22 rfl w.heap.size 9 i0 (.string ⟨#[]⟩) 1 16 Tryd.underlying22 hi0 hz0 hz1 hz2 rfl (by decide) _ _ _ rfl (HU.alloc _) ⟨w4.heap.size, 0, none⟩ 1 1 [.string (nodeT R x)] rfl rfl ?c1 ?c2 ?c3 ?c4 ?c5 ?_)
  case c1 => exact h1n
  case c2 => intro z hz; simp at hz; subst hz; rfl
  case c3 => unfold maxLen; omega
  case c4 => omega
  case c5 => exact hb5.size
  intro v5 w5 hown5 hgrow5 _
  have hB9 := below_append hb5 hu hgrow5
  go_wp2_with fail
  go_ret
  exact ⟨_, rfl, OwnS.snoc hown5, hB9⟩
set_option maxHeartbeats 1000000 in
theorem refptexts_hi (n i : Nat) (d x R : ByteArray) (P : List ByteArray) (r b off cap : Nat) (w : World) (h2 : 2 ≤ n) (hn : n ≤ 1099511627776) (hi : ¬ i < half n) (hin : i < n) (hcap : r + 1 ≤ cap) (hcm : cap ≤ maxLen)
    (hx : w.cell? ⟨b, off + r, none⟩ = some (.string x)) (hR : R.size ≤ 2147483648) (hxs : x.size ≤ 2147483648) (hP : P.length ≤ 1099511627776)
    (hlo : ∀ w', Below w.heap.size w w' → Calls Tryd.prog 28 #[.int .i64 ((n : Int) - (half n : Int)), .int .i64 ((i : Int) - (half n : Int)), .string d, .slice (some ⟨b, off, none⟩) r cap] w' (Gives P w'))
    (hup : ∀ w', Below w.heap.size w w' → Calls Tryd.prog 46 #[.int .i64 ((n : Int) - (half n : Int)), .int .i64 ((i : Int) - (half n : Int)), .string d, .slice (some ⟨b, off, none⟩) r cap] w' fun e w'' => e = .returned (.string R) ∧ Below w'.heap.size w' w'') :
    Calls Tryd.prog 28 #[.int .i64 (n : Int), .int .i64 (i : Int), .string d, .slice (some ⟨b, off, none⟩) (r + 1) cap] w (Gives (P ++ [nodeT x R]) w) := by
  obtain ⟨i0, hi0, hz0, hz1, hz2⟩ := info_parts infoStr
  have HLO := Lib.hid hlo
  have HUP := Lib.hid hup
  have HR := Lib.hid hR
  have HX := Lib.hid hxs
  clear hlo hup hR hxs
  have k1 := half_pos h2
  have k2 := half_lt h2
  have t1 : ((n : Int) == 1) = false := beq_eq_false_iff_ne.2 (by omega)
  have i3 : IntKind.i64.wrap ((n : Int) - (half n : Int)) = (n : Int) - (half n : Int) := IntWalk.i64_in _ (by omega)
  have i4 : IntKind.i64.wrap ((i : Int) - (half n : Int)) = (i : Int) - (half n : Int) := IntWalk.i64_in _ (by omega)
  have i5 : IntKind.i64.wrap (((r + 1 : Nat) : Int) - 1) = (r : Int) := by rw [IntWalk.i64_in _ (by unfold maxLen at hcm; omega)]; omega
  have i6 : IntKind.i64.wrap ((r : Int) + 1 - 1) = (r : Int) := by rw [IntWalk.i64_in _ (by unfold maxLen at hcm; omega)]; omega
  have i7 : (0 : Int) ≤ (r : Int) := by omega
  have i8 : (r : Int) ≤ (cap : Int) := by omega
  unfold maxLen at hcm
  go_enter Tryd.func28, Tryd.ntmps28
  go_wp2_with fail
  refine (half_any _ _ h2 hn).mono ?_
  rintro e w1 ⟨rfl, rfl⟩
  go_wp2_with fail
  refine (HLO.out _ (Below.refl _ _)).mono ?_
  rintro e w2 ⟨u, rfl, hu, hb2⟩
  go_wp2_with fail
  refine (HUP.out _ hb2).mono ?_
  rintro e w3 ⟨rfl, hb3⟩
  go_wp2_with fail
  refine (refnodeT_any _ _ _ HX.out HR.out).mono ?_
  rintro e w4 ⟨rfl, hb4⟩
  have hb4' := hb2.trans ((hb3.trans (hb4.mono hb3.size)).mono hb2.size)
  have hb5 : Below w.heap.size w (w4.alloc (Obj.cells #[Value.string (nodeT x R)] 9)) := hb4'.alloc hb4'.size _
  have HU := ((hu.below hb3).below hb4)
  have h1n := World.news_of_block (cs := #[.string (nodeT x R)]) (t := 9) (fr := (0, 0)) (heap_last w4 _)
  go_wp2_with (at_builtin; refine wpList_append_own _ rfl _ _ 22 rfl w.heap.size 9 i0 (.string ⟨#[]⟩) 1 16 Tryd.underlying22 hi0 hz0 hz1 hz2 rfl (by decide) _ _ _ rfl (HU.alloc _) ⟨w4.heap.size, 0, none⟩ 1 1 [.string (nodeT x R)] rfl rfl ?c1 ?c2 ?c3 ?c4 ?c5 ?_)
  case c1 => exact h1n
  case c2 => intro z hz; simp at hz; subst hz; rfl
  case c3 => unfold maxLen; omega
  case c4 => omega
  case c5 => exact hb5.size
  intro v5 w5 hown5 hgrow5 _
  have hB9 := below_append hb5 hu hgrow5
  go_wp2_with fail
  go_ret
  exact ⟨_, rfl, OwnS.snoc hown5, hB9⟩
set_option maxHeartbeats 400000 in
theorem refptexts_one (i : Int) (d : ByteArray) (v : Value) (w : World) :
    Calls Tryd.prog 28 #[.int .i64 1, .int .i64 i, .string d, v] w (Gives [] w) := by
  go_enter Tryd.func28, Tryd.ntmps28
  go_wp2_with fail
  go_ret
  exact ⟨_, rfl, OwnS.nil _ _, Below.refl _ _⟩
theorem pathTextsB_lo {n : Nat} (h : 2 ≤ n) (i : Nat) (hi : i < half n) (d x : ByteArray) (q : List ByteArray) : pathTextsB n i d (q ++ [x]) = pathTextsB (half n) i d q ++ [nodeT (upB (half n) i d q) x] := by
  rw [pathTextsB, dif_pos h, if_pos hi]; simp
theorem pathTextsB_hi {n : Nat} (h : 2 ≤ n) (i : Nat) (hi : ¬ i < half n) (d x : ByteArray) (q : List ByteArray) : pathTextsB n i d (q ++ [x]) = pathTextsB (n - half n) (i - half n) d q ++ [nodeT x (upB (n - half n) (i - half n) d q)] := by
  rw [pathTextsB, dif_pos h, if_neg hi]; simp
theorem pathTextsB_small {n : Nat} (h : ¬ 2 ≤ n) (i : Nat) (d : ByteArray) (p : List ByteArray) : pathTextsB n i d p = [] := by rw [pathTextsB, dif_neg h]
theorem pathTextsB_len : ∀ (n i : Nat) (d : ByteArray) (p : List ByteArray), (pathTextsB n i d p).length ≤ n := by
  intro n
  induction n using Nat.strongRecOn with
  | _ n ih =>
    intro i d p
    by_cases h2 : 2 ≤ n
    · have k1 := half_pos h2
      have k2 := half_lt h2
      rw [pathTextsB, dif_pos h2]
      split
      · have := ih (half n) k2 i d p.dropLast; simp; omega
      · have := ih (n - half n) (by omega) (i - half n) d p.dropLast; simp; omega
    · rw [pathTextsB_small h2]; simp
theorem refptexts_any : ∀ (n i : Nat) (d : ByteArray) (p : List ByteArray) (v : Value) (w : World), n ≤ 1099511627776 → i < n → p.length = lenB n i → d.size ≤ 2147483648 → Small p → StrsOk w v p →
    Calls Tryd.prog 28 #[.int .i64 (n : Int), .int .i64 (i : Int), .string d, v] w (Gives (pathTextsB n i d p) w) := by
  intro n
  induction n using Nat.strongRecOn with
  | _ n ih =>
    intro i d p v w hn hi hl hd hS hok
    by_cases h2 : 2 ≤ n
    · have k1 := half_pos h2
      have k2 := half_lt h2
      rw [lenB_big h2] at hl
      obtain ⟨q, x, rfl⟩ := snoc_of (p := p) (by intro e; subst e; simp at hl; split at hl <;> omega)
      obtain ⟨b, off, cap, rfl, h1, h3, hx, hxs, hq⟩ := hok.snoc_open
      have hSq : Small q := fun s hs => hS s (by simp [hs])
      have hSx : x.size ≤ 2147483648 := hS x (by simp)
      simp only [List.length_append, List.length_singleton] at hl
      by_cases hlt : i < half n
      · rw [if_pos hlt] at hl
        rw [pathTextsB_lo h2 i hlt]
        have hp := pathTextsB_len (half n) i d q
        exact refptexts_lo n i d x _ _ q.length b off cap w h2 hn hlt h1 h3 hx (upB_size hd) hSx (by omega) (fun w' hb => ih (half n) k2 i d q _ w' (by omega) hlt (by omega) hd hSq (hq w' hb)) (fun w' hb => refup_any (half n) i d q _ w' (by omega) hlt (by omega) hd hSq (hq w' hb))
      · rw [if_neg hlt] at hl
        rw [pathTextsB_hi h2 i hlt]
        have hp := pathTextsB_len (n - half n) (i - half n) d q
        have e1 : (n : Int) - (half n : Int) = ((n - half n : Nat) : Int) := by omega
        have e2 : (i : Int) - (half n : Int) = ((i - half n : Nat) : Int) := by omega
        refine refptexts_hi n i d x _ _ q.length b off cap w h2 hn hlt hi h1 h3 hx (upB_size hd) hSx (by omega) (fun w' hb => ?_) (fun w' hb => ?_)
        · rw [e1, e2]
          exact ih (n - half n) (by omega) (i - half n) d q _ w' (by omega) (by omega) (by omega) hd hSq (hq w' hb)
        · rw [e1, e2]
          exact refup_any (n - half n) (i - half n) d q _ w' (by omega) (by omega) (by omega) hd hSq (hq w' hb)
    · obtain rfl : n = 1 := by omega
      rw [pathTextsB_small h2]
      exact refptexts_one _ d v w
end Go.Proofs.YtbiekbppenccdaaDoor
