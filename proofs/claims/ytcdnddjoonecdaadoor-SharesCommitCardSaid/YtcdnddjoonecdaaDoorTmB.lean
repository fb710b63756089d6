import Derived.Test.YtcdnddjoonecdaaDoorTmA
import Derived.Deep.AppendLies
set_option linter.unusedVariables false
set_option maxRecDepth 100000
namespace Go.Proofs.YtcdnddjoonecdaaDoor
open Go.RowKit
theorem longB_end (n : Nat) (b : Bool) : longB n n b = if b then 0 else 1 := by rw [longB, if_pos rfl]
theorem longB_big {n m : Nat} (b : Bool) (h : 2 ≤ n) (hm : m ≠ n) : longB n m b = if m ≤ half n then 1 + longB (half n) m b else 1 + longB (n - half n) (m - half n) false := by rw [longB, if_neg hm, dif_pos h]
theorem longB_le : ∀ (n m : Nat) (b : Bool), longB n m b ≤ n + 1 := by
  intro n
  induction n using Nat.strongRecOn with
  | _ n ih =>
    intro m b
    by_cases e : m = n
    · subst e; rw [longB_end]; split <;> omega
    · by_cases h2 : 2 ≤ n
      · have k1 := half_pos h2
        have k2 := half_lt h2
        rw [longB_big b h2 e]
        split
        · have := ih (half n) (by omega) m b; omega
        · have := ih (n - half n) (by omega) (m - half n) false; omega
      · rw [longB, if_neg e, dif_neg h2]; omega
end Go.Proofs.YtcdnddjoonecdaaDoor

set_option linter.unusedVariables false
set_option maxRecDepth 100000
namespace Go.Proofs.YtcdnddjoonecdaaDoor
open Go.RowKit
theorem bothB_end (n : Nat) (b : Bool) (old : ByteArray) (p : List ByteArray) : bothB n n b old p = if b then (old, old) else (p.headD emptyB, p.headD emptyB) := by rw [bothB, if_pos rfl]
theorem bothB_lo {n m : Nat} (b : Bool) (h : 2 ≤ n) (hm : m ≠ n) (hi : m ≤ half n) (old x : ByteArray) (q : List ByteArray) : bothB n m b old (q ++ [x]) = ((bothB (half n) m b old q).1, nodeB (bothB (half n) m b old q).2 x) := by
  rw [bothB, if_neg hm, dif_pos h, if_pos hi]; simp
theorem bothB_hi {n m : Nat} (b : Bool) (h : 2 ≤ n) (hm : m ≠ n) (hi : ¬ m ≤ half n) (old x : ByteArray) (q : List ByteArray) : bothB n m b old (q ++ [x]) = (nodeB x (bothB (n - half n) (m - half n) false old q).1, nodeB x (bothB (n - half n) (m - half n) false old q).2) := by
  rw [bothB, if_neg hm, dif_pos h, if_neg hi]; simp
theorem bothB_size : ∀ (n m : Nat) (b : Bool) (old : ByteArray) (p : List ByteArray), old.size ≤ 2147483648 → Small p → (bothB n m b old p).1.size ≤ 2147483648 ∧ (bothB n m b old p).2.size ≤ 2147483648 := by
  intro n
  induction n using Nat.strongRecOn with
  | _ n ih =>
    intro m b old p ho hS
    by_cases e : m = n
    · subst e
      rw [bothB_end]
      cases b with
      | true => exact ⟨ho, ho⟩
      | false =>
        cases p with
        | nil => simp [emptyB_size]
        | cons x r => exact ⟨hS x (by simp), hS x (by simp)⟩
    · rw [bothB, if_neg e]
      by_cases h2 : 2 ≤ n
      · rw [dif_pos h2]
        have k2 := half_lt h2
        split
        · exact ⟨(ih (half n) k2 m b old p.dropLast ho (fun s hs => hS s (List.dropLast_subset _ hs))).1, by rw [nodeB_size]; omega⟩
        · exact ⟨by rw [nodeB_size]; omega, by rw [nodeB_size]; omega⟩
      · rw [dif_neg h2]; exact ⟨ho, ho⟩
end Go.Proofs.YtcdnddjoonecdaaDoor

set_option linter.unusedVariables false
set_option maxRecDepth 100000
namespace Go.Proofs.YtcdnddjoonecdaaDoor
open Go.RowKit
theorem linkB_end (l : List ByteArray) (b : Bool) : linkB l l.length b = if b then [] else [rootB l] := by rw [linkB, if_pos rfl]
theorem linkB_big {l : List ByteArray} {m : Nat} (b : Bool) (h : 2 ≤ l.length) (hm : m ≠ l.length) : linkB l m b = if m ≤ half l.length then linkB (l.take (half l.length)) m b ++ [rootB (l.drop (half l.length))] else linkB (l.drop (half l.length)) (m - half l.length) false ++ [rootB (l.take (half l.length))] := by
  rw [linkB, if_neg hm, dif_pos h]
theorem linkB_small_all : ∀ (n : Nat) (l : List ByteArray) (m : Nat) (b : Bool), l.length = n → Small l → Small (linkB l m b) ∧ (linkB l m b).length ≤ l.length + 1 := by
  intro n
  induction n using Nat.strongRecOn with
  | _ n ih =>
    intro l m b hl hS
    by_cases e : m = l.length
    · subst e
      rw [linkB_end]
      cases b with
      | true => exact ⟨fun s hs => by simp at hs, by simp⟩
      | false => exact ⟨fun s hs => by simp only [Bool.false_eq_true, if_false, List.mem_singleton] at hs; subst hs; exact rootB_size hS, by simp⟩
    · by_cases h2 : 2 ≤ l.length
      · have k1 := half_pos h2
        have k2 := half_lt h2
        rw [linkB_big b h2 e]
        split
        · obtain ⟨a1, a2⟩ := ih _ (by omega) (l.take (half l.length)) m b (take_length h2) (hS.take _)
          refine ⟨fun s hs => ?_, ?_⟩
          · rcases List.mem_append.1 hs with hs | hs
            · exact a1 s hs
            · simp only [List.mem_singleton] at hs; subst hs; exact rootB_size (hS.drop _)
          · rw [take_length h2] at a2; simp; omega
        · obtain ⟨a1, a2⟩ := ih _ (by omega) (l.drop (half l.length)) (m - half l.length) false (drop_length h2) (hS.drop _)
          refine ⟨fun s hs => ?_, ?_⟩
          · rcases List.mem_append.1 hs with hs | hs
            · exact a1 s hs
            · simp only [List.mem_singleton] at hs; subst hs; exact rootB_size (hS.take _)
          · rw [drop_length h2] at a2; simp; omega
      · rw [linkB, if_neg e, dif_neg h2]
        exact ⟨fun s hs => by simp at hs, by simp⟩
end Go.Proofs.YtcdnddjoonecdaaDoor

set_option linter.unusedVariables false
set_option maxRecDepth 100000
namespace Go.Proofs.YtcdnddjoonecdaaDoor
open Go.RowKit
/-- what Link hands back where all is well -/
def linkW (ss : List ByteArray) (m : Nat) : List ByteArray := if m = 0 ∨ m = ss.length then [] else linkB ss m true
end Go.Proofs.YtcdnddjoonecdaaDoor

set_option linter.unusedVariables false
set_option maxRecDepth 100000
namespace Go.Proofs.YtcdnddjoonecdaaDoor
open Go.RowKit
/-- a link proves that a list goes on from another -/
def extB (old : ByteArray) (m : Int) (root : ByteArray) (n : Int) (l : List ByteArray) : Bool :=
  decide (0 ≤ m) && decide (m ≤ n) && decide (n ≤ 1000000) && (digsB [old, root] && digsB l) &&
    (if m = 0 then decide (l.length = 0) && decide (old = emptyB) && (decide (0 < n) || decide (root = old))
     else if m = n then decide (l.length = 0) && decide (old = root)
     else decide (l.length = longB n.toNat m.toNat true) && decide ((bothB n.toNat m.toNat true old l).1 = old) && decide ((bothB n.toNat m.toNat true old l).2 = root))
theorem lit2_ok (w : World) (a b : ByteArray) (ha : a.size ≤ maxLen) (hb : b.size ≤ maxLen) : StrsOk (w.alloc (Obj.cells #[Value.string a, Value.string b] 9)) (.slice (some ⟨w.heap.size, 0, none⟩) 2 2) [a, b] :=
  ⟨lit2_at w a b, by simp [maxLen], (by intro s h; simp only [List.mem_cons, List.not_mem_nil, or_false] at h; rcases h with rfl | rfl <;> assumption), _, _, rfl, by simp, by simp [maxLen]⟩
theorem below_lit (w : World) (o : Obj) : Below w.heap.size w (w.alloc o) := (Below.refl _ _).alloc (Nat.le_refl _) _
end Go.Proofs.YtcdnddjoonecdaaDoor


set_option linter.unusedVariables false
set_option maxRecDepth 100000
namespace Go.Proofs.YtcdnddjoonecdaaDoor
open Go.RowKit
/-- the reference's Joined of a short literal -/
theorem refjlit_any (v : Value) (ss : List ByteArray) (w : World) (h : StrsAt w v ss) (hl : ss.length ≤ 10) (hs : ∀ s ∈ ss, s.size ≤ 2147483648) :
    Calls Tryd.prog 12 #[v] w fun e w' => e = .returned (.string (joinB ss)) ∧ Below w.heap.size w w' := by
  have hc : ∀ l : List ByteArray, (∀ s ∈ l, s.size ≤ 2147483648) → capN l ≤ 2147483669 * l.length := by
    intro l
    induction l with
    | nil => intro _; simp [capN]
    | cons s r ih =>
      intro h
      have h1 := h s (List.mem_cons_self ..)
      have h2 := ih (fun x hx => h x (List.mem_cons_of_mem _ hx))
      simp only [capN, List.length_cons]; omega
  have c1 := hc ss hs
  have c2 := join_le_cap (ss := ss) (fun s h => by have := hs s h; omega)
  exact refjoined_any v ss w h (by unfold maxLen; omega) (by omega) (by omega)
theorem refnodeT_any (a b : ByteArray) (w : World) (ha : a.size ≤ 2147483648) (hb : b.size ≤ 2147483648) :
    Calls Tryd.prog 12 #[.slice (some ⟨w.heap.size, 0, none⟩) 3 3] (w.alloc (Obj.cells #[Value.string kNode, Value.string a, Value.string b] 9)) fun e w' => e = .returned (.string (nodeT a b)) ∧ Below w.heap.size w w' := by
  refine (refjlit_any _ _ _ (lit3_at w kNode a b) (by simp) (by
    intro s h; simp only [List.mem_cons, List.not_mem_nil, or_false] at h
    rcases h with rfl | rfl | rfl
    · decide
    · exact ha
    · exact hb)).mono ?_
  rintro e w1 ⟨rfl, hb1⟩
  exact ⟨rfl, (below_lit w _).trans (hb1.mono (by simp))⟩
set_option maxHeartbeats 1000000 in
theorem refptexts_lo (n i : Nat) (d x R : ByteArray) (P : List ByteArray) (r b off cap : Nat) (w : World) (h2 : 2 ≤ n) (hn : n ≤ 1099511627776) (hi : i < half n) (hcap : r + 1 ≤ cap) (hcm : cap ≤ maxLen)
    (hx : w.cell? ⟨b, off + r, none⟩ = some (.string x)) (hR : R.size ≤ 2147483648) (hxs : x.size ≤ 2147483648) (hP : P.length ≤ 1099511627776)
    (hlo : ∀ w', Below w.heap.size w w' → Calls Tryd.prog 16 #[.int .i64 (half n : Nat), .int .i64 (i : Int), .string d, .slice (some ⟨b, off, none⟩) r cap] w' (Gives P w'))
    (hup : ∀ w', Below w.heap.size w w' → Calls Tryd.prog 34 #[.int .i64 (half n : Nat), .int .i64 (i : Int), .string d, .slice (some ⟨b, off, none⟩) r cap] w' fun e w'' => e = .returned (.string R) ∧ Below w'.heap.size w' w'') :
    Calls Tryd.prog 16 #[.int .i64 (n : Int), .int .i64 (i : Int), .string d, .slice (some ⟨b, off, none⟩) (r + 1) cap] w (Gives (P ++ [nodeT R x]) w) := by
  obtain ⟨i0, hi0, hz0, hz1, hz2⟩ := info_parts infoStr
  have HLO := Lib.hid hlo
  have HUP := Lib.hid hup
  have HR := Lib.hid hR
  have HX := Lib.hid hxs
  clear hlo hup hR hxs
  have k1 := half_pos h2
  have k2 := half_lt h2
  have t1 : ((n : Int) == 1) = false := beq_eq_false_iff_ne.2 (by omega)
  have i5 : IntKind.i64.wrap (((r + 1 : Nat) : Int) - 1) = (r : Int) := by rw [IntWalk.i64_in _ (by unfold maxLen at hcm; omega)]; omega
  have i6 : IntKind.i64.wrap ((r : Int) + 1 - 1) = (r : Int) := by rw [IntWalk.i64_in _ (by unfold maxLen at hcm; omega)]; omega
  have i7 : (0 : Int) ≤ (r : Int) := by omega
  have i8 : (r : Int) ≤ (cap : Int) := by omega
  unfold maxLen at hcm
  go_enter Tryd.func16, Tryd.ntmps16
  go_wp2_with fail
  refine (half_any _ _ h2 hn).mono ?_
  rintro e w1 ⟨rfl, rfl⟩
  go_wp2_with fail
  refine (HLO.out _ (Below.refl _ _)).mono ?_
  rintro e w2 ⟨u, rfl, hu, hb2⟩
  go_wp2_with fail
  refine (HUP.out _ hb2).mono ?_
  rintro e w3 ⟨rfl, hb3⟩
  go_wp2_with fail
  refine (refnodeT_any _ _ _ HR.out HX.out).mono ?_
  rintro e w4 ⟨rfl, hb4⟩
  have hb4' := hb2.trans ((hb3.trans (hb4.mono hb3.size)).mono hb2.size)
  have hb5 : Below w.heap.size w (w4.alloc (Obj.cells #[Value.string (nodeT R x)] 9)) := hb4'.alloc hb4'.size _
  have HU := ((hu.below hb3).below hb4)
  have h1n := World.news_of_block (cs := #[.string (nodeT R x)]) (t := 9) (fr := (0, 0)) (heap_last w4 _)
  go_wp2_with (at_builtin; refine wpList_append_own _ rfl _ _ 35 rfl w.heap.size 9 i0 (.string ⟨#[]⟩) 1 16 Tryd.underlying35 hi0 hz0 hz1 hz2 rfl (by decide) _ _ _ rfl (HU.alloc _) ⟨w4.heap.size, 0, none⟩ 1 1 [.string (nodeT R x)] rfl rfl ?c1 ?c2 ?c3 ?c4 ?c5 ?_)
  case c1 => exact h1n
  case c2 => intro z hz; simp at hz; subst hz; rfl
  case c3 => unfold maxLen; omega
  case c4 => omega
  case c5 => exact hb5.size
  intro v5 w5 hown5 hgrow5 _
  have hB9 := below_append hb5 hu hgrow5
  go_wp2_with fail
  go_ret
  exact ⟨_, rfl, OwnS.snoc hown5, hB9⟩
set_option maxHeartbeats 1000000 in
theorem refptexts_hi (n i : Nat) (d x R : ByteArray) (P : List ByteArray) (r b off cap : Nat) (w : World) (h2 : 2 ≤ n) (hn : n ≤ 1099511627776) (hi : ¬ i < half n) (hin : i < n) (hcap : r + 1 ≤ cap) (hcm : cap ≤ maxLen)
    (hx : w.cell? ⟨b, off + r, none⟩ = some (.string x)) (hR : R.size ≤ 2147483648) (hxs : x.size ≤ 2147483648) (hP : P.length ≤ 1099511627776)
    (hlo : ∀ w', Below w.heap.size w w' → Calls Tryd.prog 16 #[.int .i64 ((n : Int) - (half n : Int)), .int .i64 ((i : Int) - (half n : Int)), .string d, .slice (some ⟨b, off, none⟩) r cap] w' (Gives P w'))
    (hup : ∀ w', Below w.heap.size w w' → Calls Tryd.prog 34 #[.int .i64 ((n : Int) - (half n : Int)), .int .i64 ((i : Int) - (half n : Int)), .string d, .slice (some ⟨b, off, none⟩) r cap] w' fun e w'' => e = .returned (.string R) ∧ Below w'.heap.size w' w'') :
    Calls Tryd.prog 16 #[.int .i64 (n : Int), .int .i64 (i : Int), .string d, .slice (some ⟨b, off, none⟩) (r + 1) cap] w (Gives (P ++ [nodeT x R]) w) := by
  obtain ⟨i0, hi0, hz0, hz1, hz2⟩ := info_parts infoStr
  have HLO := Lib.hid hlo
  have HUP := Lib.hid hup
  have HR := Lib.hid hR
  have HX := Lib.hid hxs
  clear hlo hup hR hxs
  have k1 := half_pos h2
  have k2 := half_lt h2
  have t1 : ((n : Int) == 1) = false := beq_eq_false_iff_ne.2 (by omega)
  have i3 : IntKind.i64.wrap ((n : Int) - (half n : Int)) = (n : Int) - (half n : Int) := IntWalk.i64_in _ (by omega)
  have i4 : IntKind.i64.wrap ((i : Int) - (half n : Int)) = (i : Int) - (half n : Int) := IntWalk.i64_in _ (by omega)
  have i5 : IntKind.i64.wrap (((r + 1 : Nat) : Int) - 1) = (r : Int) := by rw [IntWalk.i64_in _ (by unfold maxLen at hcm; omega)]; omega
  have i6 : IntKind.i64.wrap ((r : Int) + 1 - 1) = (r : Int) := by rw [IntWalk.i64_in _ (by unfold maxLen at hcm; omega)]; omega
  have i7 : (0 : Int) ≤ (r : Int) := by omega
  have i8 : (r : Int) ≤ (cap : Int) := by omega
  unfold maxLen at hcm
  go_enter Tryd.func16, Tryd.ntmps16
  go_wp2_with fail
  refine (half_any _ _ h2 hn).mono ?_
  rintro e w1 ⟨rfl, rfl⟩
  go_wp2_with fail
  refine (HLO.out _ (Below.refl _ _)).mono ?_
  rintro e w2 ⟨u, rfl, hu, hb2⟩
  go_wp2_with fail
  refine (HUP.out _ hb2).mono ?_
  rintro e w3 ⟨rfl, hb3⟩
  go_wp2_with fail
  refine (refnodeT_any _ _ _ HX.out HR.out).mono ?_
  rintro e w4 ⟨rfl, hb4⟩
  have hb4' := hb2.trans ((hb3.trans (hb4.mono hb3.size)).mono hb2.size)
  have hb5 : Below w.heap.size w (w4.alloc (Obj.cells #[Value.string (nodeT x R)] 9)) := hb4'.alloc hb4'.size _
  have HU := ((hu.below hb3).below hb4)
  have h1n := World.news_of_block (cs := #[.string (nodeT x R)]) (t := 9) (fr := (0, 0)) (heap_last w4 _)
  go_wp2_with (at_builtin; refine wpList_append_own _ rfl _ _ 35 rfl w.heap.size 9 i0 (.string ⟨#[]⟩) 1 16 Tryd.underlying35 hi0 hz0 hz1 hz2 rfl (by decide) _ _ _ rfl (HU.alloc _) ⟨w4.heap.size, 0, none⟩ 1 1 [.string (nodeT x R)] rfl rfl ?c1 ?c2 ?c3 ?c4 ?c5 ?_)
  case c1 => exact h1n
  case c2 => intro z hz; simp at hz; subst hz; rfl
  case c3 => unfold maxLen; omega
  case c4 => omega
  case c5 => exact hb5.size
  intro v5 w5 hown5 hgrow5 _
  have hB9 := below_append hb5 hu hgrow5
  go_wp2_with fail
  go_ret
  exact ⟨_, rfl, OwnS.snoc hown5, hB9⟩
set_option maxHeartbeats 400000 in
theorem refptexts_one (i : Int) (d : ByteArray) (v : Value) (w : World) :
    Calls Tryd.prog 16 #[.int .i64 1, .int .i64 i, .string d, v] w (Gives [] w) := by
  go_enter Tryd.func16, Tryd.ntmps16
  go_wp2_with fail
  go_ret
  exact ⟨_, rfl, OwnS.nil _ _, Below.refl _ _⟩
theorem pathTextsB_lo {n : Nat} (h : 2 ≤ n) (i : Nat) (hi : i < half n) (d x : ByteArray) (q : List ByteArray) : pathTextsB n i d (q ++ [x]) = pathTextsB (half n) i d q ++ [nodeT (upB (half n) i d q) x] := by
  rw [pathTextsB, dif_pos h, if_pos hi]; simp
theorem pathTextsB_hi {n : Nat} (h : 2 ≤ n) (i : Nat) (hi : ¬ i < half n) (d x : ByteArray) (q : List ByteArray) : pathTextsB n i d (q ++ [x]) = pathTextsB (n - half n) (i - half n) d q ++ [nodeT x (upB (n - half n) (i - half n) d q)] := by
  rw [pathTextsB, dif_pos h, if_neg hi]; simp
theorem pathTextsB_small {n : Nat} (h : ¬ 2 ≤ n) (i : Nat) (d : ByteArray) (p : List ByteArray) : pathTextsB n i d p = [] := by rw [pathTextsB, dif_neg h]
theorem pathTextsB_len : ∀ (n i : Nat) (d : ByteArray) (p : List ByteArray), (pathTextsB n i d p).length ≤ n := by
  intro n
  induction n using Nat.strongRecOn with
  | _ n ih =>
    intro i d p
    by_cases h2 : 2 ≤ n
    · have k1 := half_pos h2
      have k2 := half_lt h2
      rw [pathTextsB, dif_pos h2]
      split
      · have := ih (half n) k2 i d p.dropLast; simp; omega
      · have := ih (n - half n) (by omega) (i - half n) d p.dropLast; simp; omega
    · rw [pathTextsB_small h2]; simp
theorem refptexts_any : ∀ (n i : Nat) (d : ByteArray) (p : List ByteArray) (v : Value) (w : World), n ≤ 1099511627776 → i < n → p.length = lenB n i → d.size ≤ 2147483648 → Small p → StrsOk w v p →
    Calls Tryd.prog 16 #[.int .i64 (n : Int), .int .i64 (i : Int), .string d, v] w (Gives (pathTextsB n i d p) w) := by
  intro n
  induction n using Nat.strongRecOn with
  | _ n ih =>
    intro i d p v w hn hi hl hd hS hok
    by_cases h2 : 2 ≤ n
    · have k1 := half_pos h2
      have k2 := half_lt h2
      rw [lenB_big h2] at hl
      obtain ⟨q, x, rfl⟩ := snoc_of (p := p) (by intro e; subst e; simp at hl; split at hl <;> omega)
      obtain ⟨b, off, cap, rfl, h1, h3, hx, hxs, hq⟩ := hok.snoc_open
      have hSq : Small q := fun s hs => hS s (by simp [hs])
      have hSx : x.size ≤ 2147483648 := hS x (by simp)
      simp only [List.length_append, List.length_singleton] at hl
      by_cases hlt : i < half n
      · rw [if_pos hlt] at hl
        rw [pathTextsB_lo h2 i hlt]
        have hp := pathTextsB_len (half n) i d q
        exact refptexts_lo n i d x _ _ q.length b off cap w h2 hn hlt h1 h3 hx (upB_size hd) hSx (by omega) (fun w' hb => ih (half n) k2 i d q _ w' (by omega) hlt (by omega) hd hSq (hq w' hb)) (fun w' hb => refup_any (half n) i d q _ w' (by omega) hlt (by omega) hd hSq (hq w' hb))
      · rw [if_neg hlt] at hl
        rw [pathTextsB_hi h2 i hlt]
        have hp := pathTextsB_len (n - half n) (i - half n) d q
        have e1 : (n : Int) - (half n : Int) = ((n - half n : Nat) : Int) := by omega
        have e2 : (i : Int) - (half n : Int) = ((i - half n : Nat) : Int) := by omega
        refine refptexts_hi n i d x _ _ q.length b off cap w h2 hn hlt hi h1 h3 hx (upB_size hd) hSx (by omega) (fun w' hb => ?_) (fun w' hb => ?_)
        · rw [e1, e2]
          exact ih (n - half n) (by omega) (i - half n) d q _ w' (by omega) (by omega) (by omega) hd hSq (hq w' hb)
        · rw [e1, e2]
          exact refup_any (n - half n) (i - half n) d q _ w' (by omega) (by omega) (by omega) hd hSq (hq w' hb)
    · obtain rfl : n = 1 := by omega
      rw [pathTextsB_small h2]
      exact refptexts_one _ d v w
end Go.Proofs.YtcdnddjoonecdaaDoor

set_option linter.unusedVariables false
set_option maxRecDepth 100000
namespace Go.Proofs.YtcdnddjoonecdaaDoor
open Go.RowKit
theorem linkTextsB_end (n : Nat) (b : Bool) (old : ByteArray) (p : List ByteArray) : linkTextsB n n b old p = [] := by rw [linkTextsB, if_pos rfl]
theorem linkTextsB_lo {n m : Nat} (b : Bool) (h : 2 ≤ n) (hm : m ≠ n) (hi : m ≤ half n) (old x : ByteArray) (q : List ByteArray) : linkTextsB n m b old (q ++ [x]) = linkTextsB (half n) m b old q ++ [nodeT (bothB (half n) m b old q).2 x] := by
  rw [linkTextsB, if_neg hm, dif_pos h, if_pos hi]; simp
theorem linkTextsB_hi {n m : Nat} (b : Bool) (h : 2 ≤ n) (hm : m ≠ n) (hi : ¬ m ≤ half n) (old x : ByteArray) (q : List ByteArray) : linkTextsB n m b old (q ++ [x]) = linkTextsB (n - half n) (m - half n) false old q ++ [nodeT x (bothB (n - half n) (m - half n) false old q).1] ++ [nodeT x (bothB (n - half n) (m - half n) false old q).2] := by
  rw [linkTextsB, if_neg hm, dif_pos h, if_neg hi]; simp
theorem linkTextsB_len : ∀ (n m : Nat) (b : Bool) (old : ByteArray) (p : List ByteArray), (linkTextsB n m b old p).length ≤ 2 * n := by
  intro n
  induction n using Nat.strongRecOn with
  | _ n ih =>
    intro m b old p
    by_cases e : m = n
    · subst e; rw [linkTextsB_end]; simp
    · rw [linkTextsB, if_neg e]
      by_cases h2 : 2 ≤ n
      · have k1 := half_pos h2
        have k2 := half_lt h2
        rw [dif_pos h2]
        split
        · have := ih (half n) k2 m b old p.dropLast; simp; omega
        · have := ih (n - half n) (by omega) (m - half n) false old p.dropLast; simp; omega
      · rw [dif_neg h2]; simp
end Go.Proofs.YtcdnddjoonecdaaDoor
