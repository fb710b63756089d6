import Derived.Test.YtbiekbppenccdaaDoorTreeDigs
set_option linter.unusedVariables false
namespace Go.Proofs.YtbiekbppenccdaaDoor
open Go.RowKit
theorem upB_lo {n : Nat} (h : 2 ≤ n) (i : Nat) (hi : i < half n) (d x : ByteArray) (q : List ByteArray) : upB n i d (q ++ [x]) = nodeB (upB (half n) i d q) x := by
  rw [upB, dif_pos h, if_pos hi]; simp
theorem upB_hi {n : Nat} (h : 2 ≤ n) (i : Nat) (hi : ¬ i < half n) (d x : ByteArray) (q : List ByteArray) : upB n i d (q ++ [x]) = nodeB x (upB (n - half n) (i - half n) d q) := by
  rw [upB, dif_pos h, if_neg hi]; simp
theorem upB_small {n : Nat} (h : ¬ 2 ≤ n) (i : Nat) (d : ByteArray) (p : List ByteArray) : upB n i d p = d := by rw [upB, dif_neg h]
theorem upB_size {n i : Nat} {d : ByteArray} {p : List ByteArray} (h : d.size ≤ 2147483648) : (upB n i d p).size ≤ 2147483648 := by
  by_cases h2 : 2 ≤ n
  · rw [upB, dif_pos h2]
    split <;> (rw [nodeB_size]; omega)
  · rw [upB_small h2]; exact h
/-- a list without its last string -/
theorem StrsOk.init {w : World} {b off cap : Nat} {q : List ByteArray} {x : ByteArray} (h : StrsOk w (.slice (Option.some ⟨b, off, Option.none⟩) (q.length + 1) cap) (q ++ [x])) : StrsOk w (.slice (Option.some ⟨b, off, Option.none⟩) q.length cap) q := by
  obtain ⟨b', off', cap', e, h1, h3, hc⟩ := h.open_ (by simp)
  simp only [Value.slice.injEq, Option.some.injEq, Addr.mk.injEq] at e
  obtain ⟨⟨rfl, rfl, _⟩, _, rfl⟩ := e
  have hs : ∀ s ∈ q, s.size ≤ maxLen := fun s hs => h.sizes s (by simp [hs])
  simp only [List.length_append, List.length_singleton] at h1
  by_cases h0 : 0 < q.length
  · exact StrsOk.mk' h0 (by omega) h3 hs (fun j hj => by rw [hc j (by simp; omega)]; rw [List.getElem_append_left hj])
  · obtain rfl : q = [] := List.eq_nil_of_length_eq_zero (by omega)
    exact ⟨.inl ⟨rfl, _, _, rfl⟩, by simp, hs, _, _, rfl, by simp, h3⟩
theorem StrsOk.snoc_open {w : World} {v : Value} {q : List ByteArray} {x : ByteArray} (h : StrsOk w v (q ++ [x])) :
    ∃ b off cap, v = .slice (Option.some ⟨b, off, Option.none⟩) (q.length + 1) cap ∧ q.length + 1 ≤ cap ∧ cap ≤ maxLen ∧ w.cell? ⟨b, off + q.length, Option.none⟩ = Option.some (.string x) ∧ x.size ≤ maxLen ∧
      ∀ w', Below w.heap.size w w' → StrsOk w' (.slice (Option.some ⟨b, off, Option.none⟩) q.length cap) q := by
  obtain ⟨b, off, cap, rfl, h1, h3, hc⟩ := h.open_ (by simp)
  have hc' := hc q.length (by simp)
  simp only [List.length_append, List.length_singleton] at h h1 ⊢
  refine ⟨b, off, cap, rfl, h1, h3, ?_, h.sizes x (by simp), fun w' hb => StrsOk.init (h.below hb)⟩
  rw [hc']; simp
set_option maxHeartbeats 1000000 in
theorem refup_lo (n i : Nat) (d x R : ByteArray) (r b off cap : Nat) (w : World) (h2 : 2 ≤ n) (hn : n ≤ 1099511627776) (hi : i < half n) (hcap : r + 1 ≤ cap) (hcm : cap ≤ maxLen)
    (hx : w.cell? ⟨b, off + r, none⟩ = some (.string x)) (hR : R.size ≤ 2147483648) (hxs : x.size ≤ 2147483648)
    (hlo : ∀ w', Below w.heap.size w w' → Calls Tryd.prog 46 #[.int .i64 (half n : Nat), .int .i64 (i : Int), .string d, .slice (some ⟨b, off, none⟩) r cap] w' fun e w'' => e = .returned (.string R) ∧ Below w'.heap.size w' w'') :
    Calls Tryd.prog 46 #[.int .i64 (n : Int), .int .i64 (i : Int), .string d, .slice (some ⟨b, off, none⟩) (r + 1) cap] w fun e w' => e = .returned (.string (nodeB R x)) ∧ Below w.heap.size w w' := by
  have HLO := Lib.hid hlo
  have HR := Lib.hid hR
  have HX := Lib.hid hxs
  clear hlo hR hxs
  have k1 := half_pos h2
  have k2 := half_lt h2
  have t1 : ((n : Int) == 1) = false := beq_eq_false_iff_ne.2 (by omega)
  have i5 : IntKind.i64.wrap (((r + 1 : Nat) : Int) - 1) = (r : Int) := by rw [IntWalk.i64_in _ (by unfold maxLen at hcm; omega)]; omega
  have i6 : IntKind.i64.wrap ((r : Int) + 1 - 1) = (r : Int) := by rw [IntWalk.i64_in _ (by unfold maxLen at hcm; omega)]; omega
  have i7 : (0 : Int) ≤ (r : Int) := by omega
  have i8 : (r : Int) ≤ (cap : Int) := by omega
  unfold maxLen at hcm
  go_enter Tryd.func46, Tryd.ntmps46
  go_wp2_with fail
  refine (half_any _ _ h2 hn).mono ?_
  rintro e w1 ⟨rfl, rfl⟩
  go_wp2_with fail
  refine (HLO.out _ (Below.refl _ _)).mono ?_
  rintro e w2 ⟨rfl, hb2⟩
  go_wp2_with fail
  refine (refnode_any _ _ _ HR.out HX.out).mono ?_
  rintro e w3 ⟨rfl, hb3⟩
  go_wp2_with fail
  go_ret
  exact ⟨rfl, hb2.trans (hb3.mono hb2.size)⟩
set_option maxHeartbeats 1000000 in
theorem refup_hi (n i : Nat) (d x R : ByteArray) (r b off cap : Nat) (w : World) (h2 : 2 ≤ n) (hn : n ≤ 1099511627776) (hi : ¬ i < half n) (hin : i < n) (hcap : r + 1 ≤ cap) (hcm : cap ≤ maxLen)
    (hx : w.cell? ⟨b, off + r, none⟩ = some (.string x)) (hR : R.size ≤ 2147483648) (hxs : x.size ≤ 2147483648)
    (hhi : ∀ w', Below w.heap.size w w' → Calls Tryd.prog 46 #[.int .i64 ((n : Int) - (half n : Int)), .int .i64 ((i : Int) - (half n : Int)), .string d, .slice (some ⟨b, off, none⟩) r cap] w' fun e w'' => e = .returned (.string R) ∧ Below w'.heap.size w' w'') :
    Calls Tryd.prog 46 #[.int .i64 (n : Int), .int .i64 (i : Int), .string d, .slice (some ⟨b, off, none⟩) (r + 1) cap] w fun e w' => e = .returned (.string (nodeB x R)) ∧ Below w.heap.size w w' := by
  have HHI := Lib.hid hhi
  have HR := Lib.hid hR
  have HX := Lib.hid hxs
  clear hhi hR hxs
  have k1 := half_pos h2
  have k2 := half_lt h2
  have t1 : ((n : Int) == 1) = false := beq_eq_false_iff_ne.2 (by omega)
  have i3 : IntKind.i64.wrap ((n : Int) - (half n : Int)) = (n : Int) - (half n : Int) := IntWalk.i64_in _ (by omega)
  have i4 : IntKind.i64.wrap ((i : Int) - (half n : Int)) = (i : Int) - (half n : Int) := IntWalk.i64_in _ (by omega)
  have i5 : IntKind.i64.wrap (((r + 1 : Nat) : Int) - 1) = (r : Int) := by rw [IntWalk.i64_in _ (by unfold maxLen at hcm; omega)]; omega
  have i6 : IntKind.i64.wrap ((r : Int) + 1 - 1) = (r : Int) := by rw [IntWalk.i64_in _ (by unfold maxLen at hcm; omega)]; omega
  have i7 : (0 : Int) ≤ (r : Int) := by omega
  have i8 : (r : Int) ≤ (cap : Int) := by omega
  unfold maxLen at hcm
  go_enter Tryd.func46, Tryd.ntmps46
  go_wp2_with fail
  refine (half_any _ _ h2 hn).mono ?_
  rintro e w1 ⟨rfl, rfl⟩
  go_wp2_with fail
  refine (HHI.out _ (Below.refl _ _)).mono ?_
  rintro e w2 ⟨rfl, hb2⟩
  go_wp2_with fail
  refine (refnode_any _ _ _ HX.out HR.out).mono ?_
  rintro e w3 ⟨rfl, hb3⟩
  go_wp2_with fail
  go_ret
  exact ⟨rfl, hb2.trans (hb3.mono hb2.size)⟩
theorem refup_one (i : Int) (d : ByteArray) (v : Value) (w : World) :
    Calls Tryd.prog 46 #[.int .i64 1, .int .i64 i, .string d, v] w fun e w' => e = .returned (.string d) ∧ Below w.heap.size w w' := by
  go_enter Tryd.func46, Tryd.ntmps46
  go_wp2_with fail
  go_ret
  exact ⟨rfl, Below.refl _ _⟩
/-- a list of some length ends with a string -/
theorem snoc_of {p : List ByteArray} (h : p ≠ []) : ∃ q x, p = q ++ [x] := ⟨p.dropLast, p.getLast h, (List.dropLast_concat_getLast h).symm⟩
theorem refup_any : ∀ (n i : Nat) (d : ByteArray) (p : List ByteArray) (v : Value) (w : World), n ≤ 1099511627776 → i < n → p.length = lenB n i → d.size ≤ 2147483648 → Small p → StrsOk w v p →
    Calls Tryd.prog 46 #[.int .i64 (n : Int), .int .i64 (i : Int), .string d, v] w fun e w' => e = .returned (.string (upB n i d p)) ∧ Below w.heap.size w w' := by
  intro n
  induction n using Nat.strongRecOn with
  | _ n ih =>
    intro i d p v w hn hi hl hd hS hok
    by_cases h2 : 2 ≤ n
    · have k1 := half_pos h2
      have k2 := half_lt h2
      rw [lenB_big h2] at hl
      obtain ⟨q, x, rfl⟩ := snoc_of (p := p) (by intro e; subst e; simp at hl; split at hl <;> omega)
      obtain ⟨b, off, cap, rfl, h1, h3, hx, hxs, hq⟩ := hok.snoc_open
      have hSq : Small q := fun s hs => hS s (by simp [hs])
      have hSx : x.size ≤ 2147483648 := hS x (by simp)
      simp only [List.length_append, List.length_singleton] at hl
      by_cases hlt : i < half n
      · rw [if_pos hlt] at hl
        rw [upB_lo h2 i hlt]
        exact refup_lo n i d x _ q.length b off cap w h2 hn hlt h1 h3 hx (upB_size hd) hSx (fun w' hb => ih (half n) k2 i d q _ w' (by omega) hlt (by omega) hd hSq (hq w' hb))
      · rw [if_neg hlt] at hl
        rw [upB_hi h2 i hlt]
        refine refup_hi n i d x _ q.length b off cap w h2 hn hlt hi h1 h3 hx (upB_size hd) hSx (fun w' hb => ?_)
        have e1 : (n : Int) - (half n : Int) = ((n - half n : Nat) : Int) := by omega
        have e2 : (i : Int) - (half n : Int) = ((i - half n : Nat) : Int) := by omega
        rw [e1, e2]
        exact ih (n - half n) (by omega) (i - half n) d q _ w' (by omega) (by omega) (by omega) hd hSq (hq w' hb)
    · obtain rfl : n = 1 := by omega
      rw [upB_small h2]
      exact refup_one _ d v w
end Go.Proofs.YtbiekbppenccdaaDoor
