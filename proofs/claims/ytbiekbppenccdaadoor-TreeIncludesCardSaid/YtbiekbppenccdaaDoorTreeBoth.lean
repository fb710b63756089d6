import Derived.Test.YtbiekbppenccdaaDoorTreeLong
set_option linter.unusedVariables false
namespace Go.Proofs.YtbiekbppenccdaaDoor
open Go.RowKit
theorem bothB_end (n : Nat) (b : Bool) (old : ByteArray) (p : List ByteArray) : bothB n n b old p = if b then (old, old) else (p.headD emptyB, p.headD emptyB) := by rw [bothB, if_pos rfl]
theorem bothB_lo {n m : Nat} (b : Bool) (h : 2 ≤ n) (hm : m ≠ n) (hi : m ≤ half n) (old x : ByteArray) (q : List ByteArray) : bothB n m b old (q ++ [x]) = ((bothB (half n) m b old q).1, nodeB (bothB (half n) m b old q).2 x) := by
  rw [bothB, if_neg hm, dif_pos h, if_pos hi]; simp
theorem bothB_hi {n m : Nat} (b : Bool) (h : 2 ≤ n) (hm : m ≠ n) (hi : ¬ m ≤ half n) (old x : ByteArray) (q : List ByteArray) : bothB n m b old (q ++ [x]) = (nodeB x (bothB (n - half n) (m - half n) false old q).1, nodeB x (bothB (n - half n) (m - half n) false old q).2) := by
  rw [bothB, if_neg hm, dif_pos h, if_neg hi]; simp
theorem bothB_size : ∀ (n m : Nat) (b : Bool) (old : ByteArray) (p : List ByteArray), old.size ≤ 2147483648 → Small p → (bothB n m b old p).1.size ≤ 2147483648 ∧ (bothB n m b old p).2.size ≤ 2147483648 := by
  intro n
  induction n using Nat.strongRecOn with
  | _ n ih =>
    intro m b old p ho hS
    by_cases e : m = n
    · subst e
      rw [bothB_end]
      cases b with
      | true => exact ⟨ho, ho⟩
      | false =>
        cases p with
        | nil => simp [emptyB_size]
        | cons x r => exact ⟨hS x (by simp), hS x (by simp)⟩
    · rw [bothB, if_neg e]
      by_cases h2 : 2 ≤ n
      · rw [dif_pos h2]
        have k2 := half_lt h2
        split
        · exact ⟨(ih (half n) k2 m b old p.dropLast ho (fun s hs => hS s (List.dropLast_subset _ hs))).1, by rw [nodeB_size]; omega⟩
        · exact ⟨by rw [nodeB_size]; omega, by rw [nodeB_size]; omega⟩
      · rw [dif_neg h2]; exact ⟨ho, ho⟩
set_option maxHeartbeats 400000 in
theorem refboth_whole (n : Int) (old : ByteArray) (v : Value) (w : World) :
    Calls Tryd.prog 51 #[.int .i64 n, .int .i64 n, .bool true, .string old, v] w fun e w' => e = .returned (.tuple #[.string old, .string old]) ∧ Below w.heap.size w w' := by
  go_enter Tryd.func51, Tryd.ntmps51
  go_wp2_with fail
  go_ret2
  exact ⟨rfl, Below.refl _ _⟩
set_option maxHeartbeats 400000 in
theorem refboth_part (n : Int) (old x : ByteArray) (b off cap : Nat) (w : World) (hc : w.cell? ⟨b, off, none⟩ = some (.string x)) :
    Calls Tryd.prog 51 #[.int .i64 n, .int .i64 n, .bool false, .string old, .slice (some ⟨b, off, none⟩) 1 cap] w fun e w' => e = .returned (.tuple #[.string x, .string x]) ∧ Below w.heap.size w w' := by
  go_enter Tryd.func51, Tryd.ntmps51
  go_wp2_with fail
  go_quiet (fail)
  go_wp2_with fail
  go_ret2
  exact ⟨rfl, below_dn _ _⟩
set_option maxHeartbeats 1000000 in
theorem refboth_lo (n m : Nat) (wh : Bool) (old x X Y : ByteArray) (r b off cap : Nat) (w : World) (h2 : 2 ≤ n) (hn : n ≤ 1099511627776) (hm : m < n) (hi : m ≤ half n) (hcap : r + 1 ≤ cap) (hcm : cap ≤ maxLen)
    (hx : w.cell? ⟨b, off + r, none⟩ = some (.string x)) (hY : Y.size ≤ 2147483648) (hxs : x.size ≤ 2147483648)
    (hlo : ∀ w', Below w.heap.size w w' → Calls Tryd.prog 51 #[.int .i64 (half n : Nat), .int .i64 (m : Int), .bool wh, .string old, .slice (some ⟨b, off, none⟩) r cap] w' fun e w'' => e = .returned (.tuple #[.string X, .string Y]) ∧ Below w'.heap.size w' w'') :
    Calls Tryd.prog 51 #[.int .i64 (n : Int), .int .i64 (m : Int), .bool wh, .string old, .slice (some ⟨b, off, none⟩) (r + 1) cap] w fun e w' => e = .returned (.tuple #[.string X, .string (nodeB Y x)]) ∧ Below w.heap.size w w' := by
  have HLO := Lib.hid hlo
  have HY := Lib.hid hY
  have HX := Lib.hid hxs
  clear hlo hY hxs
  have k1 := half_pos h2
  have k2 := half_lt h2
  have t1 : ((m : Int) == n) = false := beq_eq_false_iff_ne.2 (by omega)
  have i5 : IntKind.i64.wrap (((r + 1 : Nat) : Int) - 1) = (r : Int) := by rw [IntWalk.i64_in _ (by unfold maxLen at hcm; omega)]; omega
  have i6 : IntKind.i64.wrap ((r : Int) + 1 - 1) = (r : Int) := by rw [IntWalk.i64_in _ (by unfold maxLen at hcm; omega)]; omega
  have i7 : (0 : Int) ≤ (r : Int) := by omega
  have i8 : (r : Int) ≤ (cap : Int) := by omega
  unfold maxLen at hcm
  go_enter Tryd.func51, Tryd.ntmps51
  go_wp2_with fail
  refine (half_any _ _ h2 hn).mono ?_
  rintro e w1 ⟨rfl, rfl⟩
  go_wp2_with fail
  refine (HLO.out _ (Below.refl _ _)).mono ?_
  rintro e w2 ⟨rfl, hb2⟩
  go_wp2_with fail
  refine (refnode_any _ _ _ HY.out HX.out).mono ?_
  rintro e w3 ⟨rfl, hb3⟩
  go_wp2_with fail
  go_ret2
  exact ⟨rfl, hb2.trans (hb3.mono hb2.size)⟩
set_option maxHeartbeats 2000000 in
theorem refboth_hi (n m : Nat) (wh : Bool) (old x X Y : ByteArray) (r b off cap : Nat) (w : World) (h2 : 2 ≤ n) (hn : n ≤ 1099511627776) (hm : m < n) (hi : ¬ m ≤ half n) (hcap : r + 1 ≤ cap) (hcm : cap ≤ maxLen)
    (hx : w.cell? ⟨b, off + r, none⟩ = some (.string x)) (hX : X.size ≤ 2147483648) (hY : Y.size ≤ 2147483648) (hxs : x.size ≤ 2147483648)
    (hhi : ∀ w', Below w.heap.size w w' → Calls Tryd.prog 51 #[.int .i64 ((n : Int) - (half n : Int)), .int .i64 ((m : Int) - (half n : Int)), .bool false, .string old, .slice (some ⟨b, off, none⟩) r cap] w' fun e w'' => e = .returned (.tuple #[.string X, .string Y]) ∧ Below w'.heap.size w' w'') :
    Calls Tryd.prog 51 #[.int .i64 (n : Int), .int .i64 (m : Int), .bool wh, .string old, .slice (some ⟨b, off, none⟩) (r + 1) cap] w fun e w' => e = .returned (.tuple #[.string (nodeB x X), .string (nodeB x Y)]) ∧ Below w.heap.size w w' := by
  have HHI := Lib.hid hhi
  have HXX := Lib.hid hX
  have HY := Lib.hid hY
  have HX := Lib.hid hxs
  clear hhi hY hX hxs
  have k1 := half_pos h2
  have k2 := half_lt h2
  have t1 : ((m : Int) == n) = false := beq_eq_false_iff_ne.2 (by omega)
  have i3 : IntKind.i64.wrap ((n : Int) - (half n : Int)) = (n : Int) - (half n : Int) := IntWalk.i64_in _ (by omega)
  have i4 : IntKind.i64.wrap ((m : Int) - (half n : Int)) = (m : Int) - (half n : Int) := IntWalk.i64_in _ (by omega)
  have i5 : IntKind.i64.wrap (((r + 1 : Nat) : Int) - 1) = (r : Int) := by rw [IntWalk.i64_in _ (by unfold maxLen at hcm; omega)]; omega
  have i6 : IntKind.i64.wrap ((r : Int) + 1 - 1) = (r : Int) := by rw [IntWalk.i64_in _ (by unfold maxLen at hcm; omega)]; omega
  have i7 : (0 : Int) ≤ (r : Int) := by omega
  have i8 : (r : Int) ≤ (cap : Int) := by omega
  unfold maxLen at hcm
  go_enter Tryd.func51, Tryd.ntmps51
  go_wp2_with fail
  refine (half_any _ _ h2 hn).mono ?_
  rintro e w1 ⟨rfl, rfl⟩
  go_wp2_with fail
  refine (HHI.out _ (Below.refl _ _)).mono ?_
  rintro e w2 ⟨rfl, hb2⟩
  go_wp2_with fail
  refine (refnode_any _ _ _ HX.out HXX.out).mono ?_
  rintro e w3 ⟨rfl, hb3⟩
  go_wp2_with fail
  refine (refnode_any _ _ _ HX.out HY.out).mono ?_
  rintro e w4 ⟨rfl, hb4⟩
  go_wp2_with fail
  go_ret2
  have h3 := hb2.trans (hb3.mono hb2.size)
  exact ⟨rfl, h3.trans (hb4.mono h3.size)⟩
theorem refboth_any : ∀ (n m : Nat) (wh : Bool) (old : ByteArray) (p : List ByteArray) (v : Value) (w : World), n ≤ 1099511627776 → 0 < m → m ≤ n → p.length = longB n m wh → old.size ≤ 2147483648 → Small p → StrsOk w v p →
    Calls Tryd.prog 51 #[.int .i64 (n : Int), .int .i64 (m : Int), .bool wh, .string old, v] w fun e w' => e = .returned (.tuple #[.string (bothB n m wh old p).1, .string (bothB n m wh old p).2]) ∧ Below w.heap.size w w' := by
  intro n
  induction n using Nat.strongRecOn with
  | _ n ih =>
    intro m wh old p v w hn hm0 hm hl ho hS hok
    by_cases e : m = n
    · subst e
      rw [bothB_end]
      rw [longB_end] at hl
      cases wh with
      | true => exact refboth_whole m old v w
      | false =>
        match p, hl with
        | [x], _ =>
          obtain ⟨b, off, cap, rfl, h1, h3, hc⟩ := hok.open_ (by simp)
          exact refboth_part m old x b off cap w (hc 0 (by simp))
        | [], hl => simp at hl
        | _ :: _ :: _, hl => simp at hl
    · have h2 : 2 ≤ n := by omega
      have k1 := half_pos h2
      have k2 := half_lt h2
      rw [longB_big wh h2 e] at hl
      obtain ⟨q, x, rfl⟩ := snoc_of (p := p) (by intro e; subst e; simp at hl; split at hl <;> omega)
      obtain ⟨b, off, cap, rfl, h1, h3, hx, hxs, hq⟩ := hok.snoc_open
      have hSq : Small q := fun s hs => hS s (by simp [hs])
      have hSx : x.size ≤ 2147483648 := hS x (by simp)
      simp only [List.length_append, List.length_singleton] at hl
      by_cases hlt : m ≤ half n
      · rw [if_pos hlt] at hl
        rw [bothB_lo wh h2 e hlt]
        exact refboth_lo n m wh old x _ _ q.length b off cap w h2 hn (by omega) hlt h1 h3 hx (bothB_size _ _ _ _ _ ho hSq).2 hSx (fun w' hb => ih (half n) k2 m wh old q _ w' (by omega) hm0 hlt (by omega) ho hSq (hq w' hb))
      · rw [if_neg hlt] at hl
        rw [bothB_hi wh h2 e hlt]
        refine refboth_hi n m wh old x _ _ q.length b off cap w h2 hn (by omega) hlt h1 h3 hx (bothB_size _ _ _ _ _ ho hSq).1 (bothB_size _ _ _ _ _ ho hSq).2 hSx (fun w' hb => ?_)
        have e1 : (n : Int) - (half n : Int) = ((n - half n : Nat) : Int) := by omega
        have e2 : (m : Int) - (half n : Int) = ((m - half n : Nat) : Int) := by omega
        rw [e1, e2]
        exact ih (n - half n) (by omega) (m - half n) false old q _ w' (by omega) (by omega) (by omega) (by omega) ho hSq (hq w' hb)
end Go.Proofs.YtbiekbppenccdaaDoor
