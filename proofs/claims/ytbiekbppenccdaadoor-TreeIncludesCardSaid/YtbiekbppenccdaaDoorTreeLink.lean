import Derived.Test.YtbiekbppenccdaaDoorTreeBoth
import Derived.Deep.AppendLies
set_option linter.unusedVariables false
namespace Go.Proofs.YtbiekbppenccdaaDoor
open Go.RowKit
set_option maxHeartbeats 2000000 in
theorem reflink_lo (ss : List ByteArray) (b off cap : Nat) (m : Nat) (wh : Bool) (w : World) (h2 : 2 ≤ ss.length) (hn : ss.length ≤ 1099511627776) (hcap : ss.length ≤ cap) (hcm : cap ≤ maxLen) (hi : m ≤ half ss.length) (hm : m < ss.length) (P : List ByteArray) (R : ByteArray) (hP : P.length ≤ 1099511627776)
    (hlo : ∀ w', Below w.heap.size w w' → Calls Tryd.prog 39 #[.slice (some ⟨b, off, none⟩) (half ss.length) cap, .int .i64 (m : Int), .bool wh] w' (Gives P w'))
    (hhi : ∀ w', Below w.heap.size w w' → Calls Tryd.prog 35 #[.slice (some ⟨b, off + half ss.length, none⟩) (ss.length - half ss.length) (cap - half ss.length)] w' fun e w'' => e = .returned (.string R) ∧ Below w'.heap.size w' w'') :
    Calls Tryd.prog 39 #[.slice (some ⟨b, off, none⟩) ss.length cap, .int .i64 (m : Int), .bool wh] w (Gives (P ++ [R]) w) := by
  obtain ⟨i0, hi0, hz0, hz1, hz2⟩ := info_parts infoStr
  have HLO := Lib.hid hlo
  have HHI := Lib.hid hhi
  have k1 := half_pos h2
  have k2 := half_lt h2
  have i1 : (0 : Int) ≤ (half ss.length : Int) := by omega
  have i2 : (half ss.length : Int) ≤ (cap : Int) := by omega
  have i3 : (half ss.length : Int) ≤ (ss.length : Int) := by omega
  have t1 : ((m : Int) == ss.length) = false := beq_eq_false_iff_ne.2 (by omega)
  clear hlo hhi
  unfold maxLen at hcm
  go_enter Tryd.func39, Tryd.ntmps39
  go_wp2_with fail
  refine (half_any _ _ h2 hn).mono ?_
  rintro e w1 ⟨rfl, rfl⟩
  go_wp2_with fail
  go_region_held3 (fun w' => Below w.heap.size w w') (first | (with_reducible assumption) | exact Below.drew (Below.refl _ _) | exact (Below.trans (by assumption) (Below.mono (by assumption) (Below.size (by assumption)))) | exact (Below.alloc (by assumption) (Below.size (by assumption)) _) | exact hB9) (first | (go_at_call 39; (with_reducible refine (HLO.out _ ?hb).mono ?_); (case hb => assumption); rintro e w2 ⟨u, rfl, hu, hb2⟩) | (go_at_call 35; (with_reducible refine (HHI.out _ ?hb).mono ?_); (case hb => assumption); rintro e w3 ⟨rfl, hb3⟩) | (refine step_append_lies _ (by rfl) _ _ _ (by rfl) w.heap.size 9 i0 _ 1 16 Tryd.underlying22 hi0 hz0 hz1 hz2 rfl (by omega) u P.length (P.map Value.string) (by rfl) (((hu.mono (by simp)).below hb3).alloc _) ⟨w3.heap.size, 0, none⟩ 1 1 [.string R] (by rfl) (by rfl) (World.news_of_block (cs := #[.string R]) (t := 9) (fr := (0, 0)) (heap_last w3 _)) (by simp [Value.oneCell']) (by omega) (by unfold maxLen; omega) (by omega) (Below.size ‹Below w.heap.size w (w3.alloc (Obj.cells #[Value.string R] 9))›) (w3.heap.size + 1) (by simp) ?_; intro gg cap4 w4 hown4 hgrow4 hat4 hlt4; have hB9 := below_append ‹Below w.heap.size w (w3.alloc (Obj.cells #[Value.string R] 9))› (hu.mono (by simp)) hgrow4) | fail "no arm")
  go_wp2_with fail
  go_ret
  exact ⟨_, rfl, OwnS.snoc hown4, by assumption⟩
set_option maxHeartbeats 2000000 in
theorem reflink_hi (ss : List ByteArray) (b off cap : Nat) (m : Nat) (wh : Bool) (w : World) (h2 : 2 ≤ ss.length) (hn : ss.length ≤ 1099511627776) (hcap : ss.length ≤ cap) (hcm : cap ≤ maxLen) (hi : ¬ m ≤ half ss.length) (hm : m < ss.length) (P : List ByteArray) (R : ByteArray) (hP : P.length ≤ 1099511627776)
    (hlo : ∀ w', Below w.heap.size w w' → Calls Tryd.prog 39 #[.slice (some ⟨b, off + half ss.length, none⟩) (ss.length - half ss.length) (cap - half ss.length), .int .i64 ((m : Int) - (half ss.length : Int)), .bool false] w' (Gives P w'))
    (hhi : ∀ w', Below w.heap.size w w' → Calls Tryd.prog 35 #[.slice (some ⟨b, off, none⟩) (half ss.length) cap] w' fun e w'' => e = .returned (.string R) ∧ Below w'.heap.size w' w'') :
    Calls Tryd.prog 39 #[.slice (some ⟨b, off, none⟩) ss.length cap, .int .i64 (m : Int), .bool wh] w (Gives (P ++ [R]) w) := by
  obtain ⟨i0, hi0, hz0, hz1, hz2⟩ := info_parts infoStr
  have HLO := Lib.hid hlo
  have HHI := Lib.hid hhi
  have k1 := half_pos h2
  have k2 := half_lt h2
  have i1 : (0 : Int) ≤ (half ss.length : Int) := by omega
  have i2 : (half ss.length : Int) ≤ (cap : Int) := by omega
  have i3 : (half ss.length : Int) ≤ (ss.length : Int) := by omega
  have i4 : IntKind.i64.wrap ((m : Int) - (half ss.length : Int)) = (m : Int) - (half ss.length : Int) := IntWalk.i64_in _ (by omega)
  have t1 : ((m : Int) == ss.length) = false := beq_eq_false_iff_ne.2 (by omega)
  have t2 : ¬ cap = half ss.length := by omega
  clear hlo hhi
  unfold maxLen at hcm
  go_enter Tryd.func39, Tryd.ntmps39
  go_wp2_with fail
  refine (half_any _ _ h2 hn).mono ?_
  rintro e w1 ⟨rfl, rfl⟩
  go_wp2_with fail
  go_region_held3 (fun w' => Below w.heap.size w w') (first | (with_reducible assumption) | exact Below.drew (Below.refl _ _) | exact (Below.trans (by assumption) (Below.mono (by assumption) (Below.size (by assumption)))) | exact (Below.alloc (by assumption) (Below.size (by assumption)) _) | exact hB9) (first | (go_at_call 39; (with_reducible refine (HLO.out _ ?hb).mono ?_); (case hb => assumption); rintro e w2 ⟨u, rfl, hu, hb2⟩) | (go_at_call 35; (with_reducible refine (HHI.out _ ?hb).mono ?_); (case hb => assumption); rintro e w3 ⟨rfl, hb3⟩) | (refine step_append_lies _ (by rfl) _ _ _ (by rfl) w.heap.size 9 i0 _ 1 16 Tryd.underlying22 hi0 hz0 hz1 hz2 rfl (by omega) u P.length (P.map Value.string) (by rfl) (((hu.mono (by simp)).below hb3).alloc _) ⟨w3.heap.size, 0, none⟩ 1 1 [.string R] (by rfl) (by rfl) (World.news_of_block (cs := #[.string R]) (t := 9) (fr := (0, 0)) (heap_last w3 _)) (by simp [Value.oneCell']) (by omega) (by unfold maxLen; omega) (by omega) (Below.size ‹Below w.heap.size w (w3.alloc (Obj.cells #[Value.string R] 9))›) (w3.heap.size + 1) (by simp) ?_; intro gg cap4 w4 hown4 hgrow4 hat4 hlt4; have hB9 := below_append ‹Below w.heap.size w (w3.alloc (Obj.cells #[Value.string R] 9))› (hu.mono (by simp)) hgrow4) | fail "no arm")
  go_wp2_with fail
  go_ret
  exact ⟨_, rfl, OwnS.snoc hown4, by assumption⟩
set_option maxHeartbeats 400000 in
theorem reflink_whole (a : Option Addr) (n cap : Nat) (w : World) :
    Calls Tryd.prog 39 #[.slice a n cap, .int .i64 (n : Int), .bool true] w (Gives [] w) := by
  go_enter Tryd.func39, Tryd.ntmps39
  go_wp2_with fail
  go_ret
  exact ⟨_, rfl, OwnS.nil _ _, Below.refl _ _⟩
set_option maxHeartbeats 400000 in
theorem reflink_part (v : Value) (ss : List ByteArray) (w : World) (hl : ss.length ≤ 1099511627776) (hS : Small ss) (hok : StrsOk w v ss) :
    Calls Tryd.prog 39 #[v, .int .i64 (ss.length : Int), .bool false] w (Gives [rootB ss] w) := by
  obtain ⟨a, cap, rfl, hc1, hc2⟩ := hok.room
  have H := Lib.hid hok
  have HS := Lib.hid hS
  clear hok hS
  go_enter Tryd.func39, Tryd.ntmps39
  go_wp2_with fail
  refine (refroot_any _ ss _ _ rfl hl HS.out H.out).mono ?_
  rintro e w1 ⟨rfl, hb1⟩
  go_wp2_with fail
  go_ret
  refine ⟨_, rfl, ?_, hb1.alloc hb1.size _⟩
  exact World.ownsRow_lit w1 #[Value.string (rootB ss)] 1 hb1.size (by unfold maxLen; omega) rfl
theorem linkB_end (l : List ByteArray) (b : Bool) : linkB l l.length b = if b then [] else [rootB l] := by rw [linkB, if_pos rfl]
theorem linkB_big {l : List ByteArray} {m : Nat} (b : Bool) (h : 2 ≤ l.length) (hm : m ≠ l.length) : linkB l m b = if m ≤ half l.length then linkB (l.take (half l.length)) m b ++ [rootB (l.drop (half l.length))] else linkB (l.drop (half l.length)) (m - half l.length) false ++ [rootB (l.take (half l.length))] := by
  rw [linkB, if_neg hm, dif_pos h]
theorem linkB_small_all : ∀ (n : Nat) (l : List ByteArray) (m : Nat) (b : Bool), l.length = n → Small l → Small (linkB l m b) ∧ (linkB l m b).length ≤ l.length + 1 := by
  intro n
  induction n using Nat.strongRecOn with
  | _ n ih =>
    intro l m b hl hS
    by_cases e : m = l.length
    · subst e
      rw [linkB_end]
      cases b with
      | true => exact ⟨fun s hs => by simp at hs, by simp⟩
      | false => exact ⟨fun s hs => by simp only [Bool.false_eq_true, if_false, List.mem_singleton] at hs; subst hs; exact rootB_size hS, by simp⟩
    · by_cases h2 : 2 ≤ l.length
      · have k1 := half_pos h2
        have k2 := half_lt h2
        rw [linkB_big b h2 e]
        split
        · obtain ⟨a1, a2⟩ := ih _ (by omega) (l.take (half l.length)) m b (take_length h2) (hS.take _)
          refine ⟨fun s hs => ?_, ?_⟩
          · rcases List.mem_append.1 hs with hs | hs
            · exact a1 s hs
            · simp only [List.mem_singleton] at hs; subst hs; exact rootB_size (hS.drop _)
          · rw [take_length h2] at a2; simp; omega
        · obtain ⟨a1, a2⟩ := ih _ (by omega) (l.drop (half l.length)) (m - half l.length) false (drop_length h2) (hS.drop _)
          refine ⟨fun s hs => ?_, ?_⟩
          · rcases List.mem_append.1 hs with hs | hs
            · exact a1 s hs
            · simp only [List.mem_singleton] at hs; subst hs; exact rootB_size (hS.take _)
          · rw [drop_length h2] at a2; simp; omega
      · rw [linkB, if_neg e, dif_neg h2]
        exact ⟨fun s hs => by simp at hs, by simp⟩
theorem reflink_any : ∀ (n : Nat) (ss : List ByteArray) (v : Value) (m : Nat) (b : Bool) (w : World), ss.length = n → n ≤ 1099511627775 → 0 < m → m ≤ n → Small ss → StrsOk w v ss →
    Calls Tryd.prog 39 #[v, .int .i64 (m : Int), .bool b] w (Gives (linkB ss m b) w) := by
  intro n
  induction n using Nat.strongRecOn with
  | _ n ih =>
    intro ss v m wh w hn hle hm0 hm hS hok
    by_cases e : m = ss.length
    · subst e
      rw [linkB_end]
      cases wh with
      | true =>
        obtain ⟨a, cap, rfl, hc1, hc2⟩ := hok.room
        exact reflink_whole a ss.length cap w
      | false => exact reflink_part v ss w (by omega) hS hok
    · have h2 : 2 ≤ ss.length := by omega
      obtain ⟨b, off, cap, rfl, h1, h3, hc⟩ := hok.open_ (by omega)
      have k1 := half_pos h2
      have k2 := half_lt h2
      have hfirst : ∀ w', Below w.heap.size w w' → StrsOk w' (.slice (some ⟨b, off, none⟩) (half ss.length) cap) (ss.take (half ss.length)) := fun w' hb => (StrsOk.first h1 h3 hok.sizes hc _ k1 (by omega)).below hb
      have hrest : ∀ w', Below w.heap.size w w' → StrsOk w' (.slice (some ⟨b, off + half ss.length, none⟩) (ss.length - half ss.length) (cap - half ss.length)) (ss.drop (half ss.length)) := fun w' hb => (StrsOk.rest h1 h3 hok.sizes hc _ k2).below hb
      rw [linkB_big wh h2 e]
      split
      · rename_i hi
        have p := (linkB_small_all _ (ss.take (half ss.length)) m wh rfl (hS.take _)).2
        rw [take_length h2] at p
        refine reflink_lo ss b off cap m wh w h2 (by omega) h1 h3 hi (by omega) _ _ (by omega) ?_ ?_
        · intro w' hb
          exact ih (half ss.length) (by omega) (ss.take (half ss.length)) _ m wh w' (take_length h2) (by omega) hm0 hi (hS.take _) (hfirst w' hb)
        · intro w' hb
          exact refroot_any _ (ss.drop (half ss.length)) _ w' (drop_length h2) (by omega) (hS.drop _) (hrest w' hb)
      · rename_i hi
        have p := (linkB_small_all _ (ss.drop (half ss.length)) (m - half ss.length) false rfl (hS.drop _)).2
        rw [drop_length h2] at p
        refine reflink_hi ss b off cap m wh w h2 (by omega) h1 h3 hi (by omega) _ _ (by omega) ?_ ?_
        · intro w' hb
          rw [show (m : Int) - (half ss.length : Int) = ((m - half ss.length : Nat) : Int) from by omega]
          exact ih (ss.length - half ss.length) (by omega) (ss.drop (half ss.length)) _ (m - half ss.length) false w' (drop_length h2) (by omega) (by omega) (by omega) (hS.drop _) (hrest w' hb)
        · intro w' hb
          exact refroot_any _ (ss.take (half ss.length)) _ w' (take_length h2) (by omega) (hS.take _) (hfirst w' hb)
end Go.Proofs.YtbiekbppenccdaaDoor
