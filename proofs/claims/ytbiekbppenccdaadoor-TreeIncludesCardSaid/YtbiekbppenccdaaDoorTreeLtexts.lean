import Derived.Test.YtbiekbppenccdaaDoorTreePtexts
import Derived.Deep.AppendLies
set_option linter.unusedVariables false
namespace Go.Proofs.YtbiekbppenccdaaDoor
open Go.RowKit
set_option maxHeartbeats 2000000 in
theorem refltexts_lo (n m : Nat) (wh : Bool) (old x X Y : ByteArray) (P : List ByteArray) (r b off cap : Nat) (w : World) (h2 : 2 ≤ n) (hn : n ≤ 1099511627776) (hm : m < n) (hi : m ≤ half n) (hcap : r + 1 ≤ cap) (hcm : cap ≤ maxLen)
    (hx : w.cell? ⟨b, off + r, none⟩ = some (.string x)) (hX : X.size ≤ 2147483648) (hY : Y.size ≤ 2147483648) (hxs : x.size ≤ 2147483648) (hP : P.length ≤ 2199023255552)
    (hbo : ∀ w', Below w.heap.size w w' → Calls Tryd.prog 51 #[.int .i64 (half n : Nat), .int .i64 (m : Int), .bool wh, .string old, .slice (some ⟨b, off, none⟩) r cap] w' fun e w'' => e = .returned (.tuple #[.string X, .string Y]) ∧ Below w'.heap.size w' w'')
    (htx : ∀ w', Below w.heap.size w w' → Calls Tryd.prog 29 #[.int .i64 (half n : Nat), .int .i64 (m : Int), .bool wh, .string old, .slice (some ⟨b, off, none⟩) r cap] w' (Gives P w')) :
    Calls Tryd.prog 29 #[.int .i64 (n : Int), .int .i64 (m : Int), .bool wh, .string old, .slice (some ⟨b, off, none⟩) (r + 1) cap] w (Gives (P ++ [nodeT Y x]) w) := by
  obtain ⟨i0, hi0, hz0, hz1, hz2⟩ := info_parts infoStr
  have HB := Lib.hid hbo
  have HT := Lib.hid htx
  have HX := Lib.hid hX
  have HY := Lib.hid hY
  have HXS := Lib.hid hxs
  clear hbo htx hX hY hxs
  have k1 := half_pos h2
  have k2 := half_lt h2
  have t1 : ((m : Int) == n) = false := beq_eq_false_iff_ne.2 (by omega)
  have i5 : IntKind.i64.wrap (((r + 1 : Nat) : Int) - 1) = (r : Int) := by rw [IntWalk.i64_in _ (by unfold maxLen at hcm; omega)]; omega
  have i6 : IntKind.i64.wrap ((r : Int) + 1 - 1) = (r : Int) := by rw [IntWalk.i64_in _ (by unfold maxLen at hcm; omega)]; omega
  have i7 : (0 : Int) ≤ (r : Int) := by omega
  have i8 : (r : Int) ≤ (cap : Int) := by omega
  unfold maxLen at hcm
  go_enter Tryd.func29, Tryd.ntmps29
  go_wp2_with fail
  refine (half_any _ _ h2 hn).mono ?_
  rintro e w1 ⟨rfl, rfl⟩
  go_wp2_with fail
  refine (HB.out _ (Below.refl _ _)).mono ?_
  rintro e w2 ⟨rfl, hb2⟩
  go_wp2_with fail
  refine (HT.out _ hb2).mono ?_
  rintro e w3 ⟨u, rfl, hu0, hb3⟩
  have hu := hu0.mono hb2.size
  have hb3' := hb2.trans (hb3.mono hb2.size)
  go_wp2_with fail
  refine (refnodeT_any _ _ _ HY.out HXS.out).mono ?_
  rintro e w4 ⟨rfl, hb4⟩
  have hb4' := hb3'.trans (hb4.mono hb3'.size)
  have HU := hu.below hb4
  have hc5 : Below w.heap.size w (w4.alloc (Obj.cells #[Value.string (nodeT Y x)] 9)) := hb4'.alloc hb4'.size _
  have hn5 := World.news_of_block (cs := #[.string (nodeT Y x)]) (t := 9) (fr := (0, 0)) (heap_last w4 _)
  go_wp2_with (at_builtin; refine wpList_append_own _ rfl _ _ 22 rfl w.heap.size 9 i0 (.string ⟨#[]⟩) 1 16 Tryd.underlying22 hi0 hz0 hz1 hz2 rfl (by decide) _ _ _ rfl (HU.alloc _) ⟨w4.heap.size, 0, none⟩ 1 1 [.string (nodeT Y x)] rfl rfl ?c1 ?c2 ?c3 ?c4 ?c5 ?_)
  case c1 => exact hn5
  case c2 => intro z hz; simp at hz; subst hz; rfl
  case c3 => unfold maxLen; omega
  case c4 => omega
  case c5 => exact hc5.size
  intro v5 w5 hown5 hgrow5 _
  have hB9 := below_append hc5 hu hgrow5
  go_wp2_with fail
  go_ret
  exact ⟨_, rfl, OwnS.snoc hown5, hB9⟩
set_option maxHeartbeats 2000000 in
theorem refltexts_hi (n m : Nat) (wh : Bool) (old x X Y : ByteArray) (P : List ByteArray) (r b off cap : Nat) (w : World) (h2 : 2 ≤ n) (hn : n ≤ 1099511627776) (hm : m < n) (hi : ¬ m ≤ half n) (hcap : r + 1 ≤ cap) (hcm : cap ≤ maxLen)
    (hx : w.cell? ⟨b, off + r, none⟩ = some (.string x)) (hX : X.size ≤ 2147483648) (hY : Y.size ≤ 2147483648) (hxs : x.size ≤ 2147483648) (hP : P.length ≤ 2199023255552)
    (hbo : ∀ w', Below w.heap.size w w' → Calls Tryd.prog 51 #[.int .i64 ((n : Int) - (half n : Int)), .int .i64 ((m : Int) - (half n : Int)), .bool false, .string old, .slice (some ⟨b, off, none⟩) r cap] w' fun e w'' => e = .returned (.tuple #[.string X, .string Y]) ∧ Below w'.heap.size w' w'')
    (htx : ∀ w', Below w.heap.size w w' → Calls Tryd.prog 29 #[.int .i64 ((n : Int) - (half n : Int)), .int .i64 ((m : Int) - (half n : Int)), .bool false, .string old, .slice (some ⟨b, off, none⟩) r cap] w' (Gives P w')) :
    Calls Tryd.prog 29 #[.int .i64 (n : Int), .int .i64 (m : Int), .bool wh, .string old, .slice (some ⟨b, off, none⟩) (r + 1) cap] w (Gives (P ++ [nodeT x X] ++ [nodeT x Y]) w) := by
  obtain ⟨i0, hi0, hz0, hz1, hz2⟩ := info_parts infoStr
  have HB := Lib.hid hbo
  have HT := Lib.hid htx
  have HX := Lib.hid hX
  have HY := Lib.hid hY
  have HXS := Lib.hid hxs
  clear hbo htx hX hY hxs
  have k1 := half_pos h2
  have k2 := half_lt h2
  have t1 : ((m : Int) == n) = false := beq_eq_false_iff_ne.2 (by omega)
  have i3 : IntKind.i64.wrap ((n : Int) - (half n : Int)) = (n : Int) - (half n : Int) := IntWalk.i64_in _ (by omega)
  have i4 : IntKind.i64.wrap ((m : Int) - (half n : Int)) = (m : Int) - (half n : Int) := IntWalk.i64_in _ (by omega)
  have i5 : IntKind.i64.wrap (((r + 1 : Nat) : Int) - 1) = (r : Int) := by rw [IntWalk.i64_in _ (by unfold maxLen at hcm; omega)]; omega
  have i6 : IntKind.i64.wrap ((r : Int) + 1 - 1) = (r : Int) := by rw [IntWalk.i64_in _ (by unfold maxLen at hcm; omega)]; omega
  have i7 : (0 : Int) ≤ (r : Int) := by omega
  have i8 : (r : Int) ≤ (cap : Int) := by omega
  unfold maxLen at hcm
  go_enter Tryd.func29, Tryd.ntmps29
  go_wp2_with fail
  refine (half_any _ _ h2 hn).mono ?_
  rintro e w1 ⟨rfl, rfl⟩
  go_wp2_with fail
  refine (HB.out _ (Below.refl _ _)).mono ?_
  rintro e w2 ⟨rfl, hb2⟩
  go_wp2_with fail
  refine (HT.out _ hb2).mono ?_
  rintro e w3 ⟨u, rfl, hu0, hb3⟩
  have hu := hu0.mono hb2.size
  have hb3' := hb2.trans (hb3.mono hb2.size)
  go_wp2_with fail
  refine (refnodeT_any _ _ _ HXS.out HX.out).mono ?_
  rintro e w4 ⟨rfl, hb4⟩
  have hb4' := hb3'.trans (hb4.mono hb3'.size)
  have HU := hu.below hb4
  have hc5 : Below w.heap.size w (w4.alloc (Obj.cells #[Value.string (nodeT x X)] 9)) := hb4'.alloc hb4'.size _
  have hn5 := World.news_of_block (cs := #[.string (nodeT x X)]) (t := 9) (fr := (0, 0)) (heap_last w4 _)
  go_wp2_with (at_builtin; refine wpList_append_own _ rfl _ _ 22 rfl w.heap.size 9 i0 (.string ⟨#[]⟩) 1 16 Tryd.underlying22 hi0 hz0 hz1 hz2 rfl (by decide) _ _ _ rfl (HU.alloc _) ⟨w4.heap.size, 0, none⟩ 1 1 [.string (nodeT x X)] rfl rfl ?c1 ?c2 ?c3 ?c4 ?c5 ?_)
  case c1 => exact hn5
  case c2 => intro z hz; simp at hz; subst hz; rfl
  case c3 => unfold maxLen; omega
  case c4 => omega
  case c5 => exact hc5.size
  intro v5 w5 hown5 hgrow5 _
  have hB9 := below_append hc5 hu hgrow5
  have hu5 := OwnS.snoc hown5
  clear hown5 hgrow5
  go_wp2_with fail
  refine (refnodeT_any _ _ _ HXS.out HY.out).mono ?_
  rintro e w6 ⟨rfl, hb6⟩
  have hb6' := hB9.trans (hb6.mono hB9.size)
  have HU6 : w6.ownsRow w.heap.size 9 1 v5 (P.length + 1) ((P ++ [nodeT x X]).map Value.string) := by
    have := hu5.below hb6; unfold OwnS at this; rw [List.length_append] at this; exact this
  have hc7 : Below w.heap.size w (w6.alloc (Obj.cells #[Value.string (nodeT x Y)] 9)) := hb6'.alloc hb6'.size _
  have hn7 := World.news_of_block (cs := #[.string (nodeT x Y)]) (t := 9) (fr := (0, 0)) (heap_last w6 _)
  go_wp2_with (at_builtin; refine wpList_append_own _ rfl _ _ 22 rfl w.heap.size 9 i0 (.string ⟨#[]⟩) 1 16 Tryd.underlying22 hi0 hz0 hz1 hz2 rfl (by decide) _ _ _ rfl (HU6.alloc _) ⟨w6.heap.size, 0, none⟩ 1 1 [.string (nodeT x Y)] rfl rfl ?c1 ?c2 ?c3 ?c4 ?c5 ?_)
  case c1 => exact hn7
  case c2 => intro z hz; simp at hz; subst hz; rfl
  case c3 => unfold maxLen; omega
  case c4 => omega
  case c5 => exact hc7.size
  intro v7 w7 hown7 hgrow7 _
  have hB10 := below_append hc7 hu5 hgrow7
  go_wp2_with fail
  go_ret
  have e : OwnS w.heap.size w7 v7 (P ++ [nodeT x X] ++ [nodeT x Y]) := by
    unfold OwnS; simpa using hown7
  exact ⟨_, rfl, e, hB10⟩
set_option maxHeartbeats 400000 in
theorem refltexts_end (n : Int) (wh : Bool) (old : ByteArray) (v : Value) (w : World) :
    Calls Tryd.prog 29 #[.int .i64 n, .int .i64 n, .bool wh, .string old, v] w (Gives [] w) := by
  go_enter Tryd.func29, Tryd.ntmps29
  go_wp2_with fail
  go_ret
  exact ⟨_, rfl, OwnS.nil _ _, Below.refl _ _⟩
theorem linkTextsB_end (n : Nat) (b : Bool) (old : ByteArray) (p : List ByteArray) : linkTextsB n n b old p = [] := by rw [linkTextsB, if_pos rfl]
theorem linkTextsB_lo {n m : Nat} (b : Bool) (h : 2 ≤ n) (hm : m ≠ n) (hi : m ≤ half n) (old x : ByteArray) (q : List ByteArray) : linkTextsB n m b old (q ++ [x]) = linkTextsB (half n) m b old q ++ [nodeT (bothB (half n) m b old q).2 x] := by
  rw [linkTextsB, if_neg hm, dif_pos h, if_pos hi]; simp
theorem linkTextsB_hi {n m : Nat} (b : Bool) (h : 2 ≤ n) (hm : m ≠ n) (hi : ¬ m ≤ half n) (old x : ByteArray) (q : List ByteArray) : linkTextsB n m b old (q ++ [x]) = linkTextsB (n - half n) (m - half n) false old q ++ [nodeT x (bothB (n - half n) (m - half n) false old q).1] ++ [nodeT x (bothB (n - half n) (m - half n) false old q).2] := by
  rw [linkTextsB, if_neg hm, dif_pos h, if_neg hi]; simp
theorem linkTextsB_len : ∀ (n m : Nat) (b : Bool) (old : ByteArray) (p : List ByteArray), (linkTextsB n m b old p).length ≤ 2 * n := by
  intro n
  induction n using Nat.strongRecOn with
  | _ n ih =>
    intro m b old p
    by_cases e : m = n
    · subst e; rw [linkTextsB_end]; simp
    · rw [linkTextsB, if_neg e]
      by_cases h2 : 2 ≤ n
      · have k1 := half_pos h2
        have k2 := half_lt h2
        rw [dif_pos h2]
        split
        · have := ih (half n) k2 m b old p.dropLast; simp; omega
        · have := ih (n - half n) (by omega) (m - half n) false old p.dropLast; simp; omega
      · rw [dif_neg h2]; simp
theorem refltexts_any : ∀ (n m : Nat) (wh : Bool) (old : ByteArray) (p : List ByteArray) (v : Value) (w : World), n ≤ 1099511627776 → 0 < m → m ≤ n → p.length = longB n m wh → old.size ≤ 2147483648 → Small p → StrsOk w v p →
    Calls Tryd.prog 29 #[.int .i64 (n : Int), .int .i64 (m : Int), .bool wh, .string old, v] w (Gives (linkTextsB n m wh old p) w) := by
  intro n
  induction n using Nat.strongRecOn with
  | _ n ih =>
    intro m wh old p v w hn hm0 hm hl ho hS hok
    by_cases e : m = n
    · subst e
      rw [linkTextsB_end]
      exact refltexts_end m wh old v w
    · have h2 : 2 ≤ n := by omega
      have k1 := half_pos h2
      have k2 := half_lt h2
      rw [longB_big wh h2 e] at hl
      obtain ⟨q, x, rfl⟩ := snoc_of (p := p) (by intro e; subst e; simp at hl; split at hl <;> omega)
      obtain ⟨b, off, cap, rfl, h1, h3, hx, hxs, hq⟩ := hok.snoc_open
      have hSq : Small q := fun s hs => hS s (by simp [hs])
      have hSx : x.size ≤ 2147483648 := hS x (by simp)
      simp only [List.length_append, List.length_singleton] at hl
      by_cases hlt : m ≤ half n
      · rw [if_pos hlt] at hl
        rw [linkTextsB_lo wh h2 e hlt]
        have hp := linkTextsB_len (half n) m wh old q
        have hs := bothB_size (half n) m wh old q ho hSq
        exact refltexts_lo n m wh old x _ _ _ q.length b off cap w h2 hn (by omega) hlt h1 h3 hx hs.1 hs.2 hSx (by omega) (fun w' hb => refboth_any (half n) m wh old q _ w' (by omega) hm0 hlt (by omega) ho hSq (hq w' hb)) (fun w' hb => ih (half n) k2 m wh old q _ w' (by omega) hm0 hlt (by omega) ho hSq (hq w' hb))
      · rw [if_neg hlt] at hl
        rw [linkTextsB_hi wh h2 e hlt]
        have hp := linkTextsB_len (n - half n) (m - half n) false old q
        have hs := bothB_size (n - half n) (m - half n) false old q ho hSq
        have e1 : (n : Int) - (half n : Int) = ((n - half n : Nat) : Int) := by omega
        have e2 : (m : Int) - (half n : Int) = ((m - half n : Nat) : Int) := by omega
        refine refltexts_hi n m wh old x _ _ _ q.length b off cap w h2 hn (by omega) hlt h1 h3 hx hs.1 hs.2 hSx (by omega) (fun w' hb => ?_) (fun w' hb => ?_)
        · rw [e1, e2]
          exact refboth_any (n - half n) (m - half n) false old q _ w' (by omega) (by omega) (by omega) (by omega) ho hSq (hq w' hb)
        · rw [e1, e2]
          exact ih (n - half n) (by omega) (m - half n) false old q _ w' (by omega) (by omega) (by omega) (by omega) ho hSq (hq w' hb)
end Go.Proofs.YtbiekbppenccdaaDoor
