/-
  The program's tree package: paths and links.
-/
import Derived.Test.YtcdnddjoonecdaaDoorTrG
import Derived.Test.YtcdnddjoonecdaaDoorTmB
set_option linter.unusedVariables false
set_option maxRecDepth 100000
namespace Go.Proofs.YtcdnddjoonecdaaDoor
open Go.RowKit
set_option maxHeartbeats 2000000 in
theorem ppath_lo (ss : List ByteArray) (b off cap : Nat) (i : Nat) (w : World) (h2 : 2 ≤ ss.length) (hn : ss.length ≤ 1099511627776) (hcap : ss.length ≤ cap) (hcm : cap ≤ maxLen) (hi : i < half ss.length) (P : List ByteArray) (R : ByteArray) (hP : P.length ≤ 1099511627776)
    (hlo : ∀ w', Below w.heap.size w w' → Calls Tryd.prog 27 #[.slice (some ⟨b, off, none⟩) (half ss.length) cap, .int .i64 (i : Int)] w' (Gives P w'))
    (hhi : ∀ w', Below w.heap.size w w' → Calls Tryd.prog 43 #[.slice (some ⟨b, off + half ss.length, none⟩) (ss.length - half ss.length) (cap - half ss.length)] w' fun e w'' => e = .returned (.string R) ∧ Below w'.heap.size w' w'') :
    Calls Tryd.prog 27 #[.slice (some ⟨b, off, none⟩) ss.length cap, .int .i64 (i : Int)] w (Gives (P ++ [R]) w) := by
  obtain ⟨i0, hi0, hz0, hz1, hz2⟩ := info_parts infoStr
  have HLO := Lib.hid hlo
  have HHI := Lib.hid hhi
  have k1 := half_pos h2
  have k2 := half_lt h2
  have i1 : (0 : Int) ≤ (half ss.length : Int) := by omega
  have i2 : (half ss.length : Int) ≤ (cap : Int) := by omega
  have i3 : (half ss.length : Int) ≤ (ss.length : Int) := by omega
  have t1 : ((ss.length : Int) == 1) = false := beq_eq_false_iff_ne.2 (by omega)
  clear hlo hhi
  unfold maxLen at hcm
  go_enter Tryd.func27, Tryd.ntmps27
  go_wp2_with fail
  refine (split_any _ _ h2 hn).mono ?_
  rintro e w1 ⟨rfl, rfl⟩
  go_wp2_with fail
  go_region_held3 (fun w' => Below w.heap.size w w') (first | (with_reducible assumption) | exact Below.drew (Below.refl _ _) | exact (Below.trans (by assumption) (Below.mono (by assumption) (Below.size (by assumption)))) | exact (Below.alloc (by assumption) (Below.size (by assumption)) _) | exact hB9) (first | (go_at_call 27; (with_reducible refine (HLO.out _ ?hb).mono ?_); (case hb => assumption); rintro e w2 ⟨u, rfl, hu, hb2⟩) | (go_at_call 43; (with_reducible refine (HHI.out _ ?hb).mono ?_); (case hb => assumption); rintro e w3 ⟨rfl, hb3⟩) | (refine step_append_lies _ (by rfl) _ _ _ (by rfl) w.heap.size 9 i0 _ 1 16 Tryd.underlying35 hi0 hz0 hz1 hz2 rfl (by omega) u P.length (P.map Value.string) (by rfl) (((hu.mono (by simp)).below hb3).alloc _) ⟨w3.heap.size, 0, none⟩ 1 1 [.string R] (by rfl) (by rfl) (World.news_of_block (cs := #[.string R]) (t := 9) (fr := (0, 0)) (heap_last w3 _)) (by simp [Value.oneCell']) (by omega) (by unfold maxLen; omega) (by omega) (Below.size ‹Below w.heap.size w (w3.alloc (Obj.cells #[Value.string R] 9))›) (w3.heap.size + 1) (by simp) ?_; intro gg cap4 w4 hown4 hgrow4 hat4 hlt4; have hB9 := below_append ‹Below w.heap.size w (w3.alloc (Obj.cells #[Value.string R] 9))› (hu.mono (by simp)) hgrow4) | fail "no arm")
  go_wp2_with fail
  go_ret
  exact ⟨_, rfl, OwnS.snoc hown4, by assumption⟩
set_option maxHeartbeats 2000000 in
theorem ppath_hi (ss : List ByteArray) (b off cap : Nat) (i : Nat) (w : World) (h2 : 2 ≤ ss.length) (hn : ss.length ≤ 1099511627776) (hcap : ss.length ≤ cap) (hcm : cap ≤ maxLen) (hi : half ss.length ≤ i) (hi2 : i < ss.length) (P : List ByteArray) (R : ByteArray) (hP : P.length ≤ 1099511627776)
    (hlo : ∀ w', Below w.heap.size w w' → Calls Tryd.prog 27 #[.slice (some ⟨b, off + half ss.length, none⟩) (ss.length - half ss.length) (cap - half ss.length), .int .i64 ((i : Int) - (half ss.length : Int))] w' (Gives P w'))
    (hhi : ∀ w', Below w.heap.size w w' → Calls Tryd.prog 43 #[.slice (some ⟨b, off, none⟩) (half ss.length) cap] w' fun e w'' => e = .returned (.string R) ∧ Below w'.heap.size w' w'') :
    Calls Tryd.prog 27 #[.slice (some ⟨b, off, none⟩) ss.length cap, .int .i64 (i : Int)] w (Gives (P ++ [R]) w) := by
  obtain ⟨i0, hi0, hz0, hz1, hz2⟩ := info_parts infoStr
  have HLO := Lib.hid hlo
  have HHI := Lib.hid hhi
  have k1 := half_pos h2
  have k2 := half_lt h2
  have i1 : (0 : Int) ≤ (half ss.length : Int) := by omega
  have i2 : (half ss.length : Int) ≤ (cap : Int) := by omega
  have i3 : (half ss.length : Int) ≤ (ss.length : Int) := by omega
  have i4 : IntKind.i64.wrap ((i : Int) - (half ss.length : Int)) = (i : Int) - (half ss.length : Int) := IntWalk.i64_in _ (by omega)
  have t1 : ((ss.length : Int) == 1) = false := beq_eq_false_iff_ne.2 (by omega)
  have t2 : ¬ cap = half ss.length := by omega
  clear hlo hhi
  unfold maxLen at hcm
  go_enter Tryd.func27, Tryd.ntmps27
  go_wp2_with fail
  refine (split_any _ _ h2 hn).mono ?_
  rintro e w1 ⟨rfl, rfl⟩
  go_wp2_with fail
  go_region_held3 (fun w' => Below w.heap.size w w') (first | (with_reducible assumption) | exact Below.drew (Below.refl _ _) | exact (Below.trans (by assumption) (Below.mono (by assumption) (Below.size (by assumption)))) | exact (Below.alloc (by assumption) (Below.size (by assumption)) _) | exact hB9) (first | (go_at_call 27; (with_reducible refine (HLO.out _ ?hb).mono ?_); (case hb => assumption); rintro e w2 ⟨u, rfl, hu, hb2⟩) | (go_at_call 43; (with_reducible refine (HHI.out _ ?hb).mono ?_); (case hb => assumption); rintro e w3 ⟨rfl, hb3⟩) | (refine step_append_lies _ (by rfl) _ _ _ (by rfl) w.heap.size 9 i0 _ 1 16 Tryd.underlying35 hi0 hz0 hz1 hz2 rfl (by omega) u P.length (P.map Value.string) (by rfl) (((hu.mono (by simp)).below hb3).alloc _) ⟨w3.heap.size, 0, none⟩ 1 1 [.string R] (by rfl) (by rfl) (World.news_of_block (cs := #[.string R]) (t := 9) (fr := (0, 0)) (heap_last w3 _)) (by simp [Value.oneCell']) (by omega) (by unfold maxLen; omega) (by omega) (Below.size ‹Below w.heap.size w (w3.alloc (Obj.cells #[Value.string R] 9))›) (w3.heap.size + 1) (by simp) ?_; intro gg cap4 w4 hown4 hgrow4 hat4 hlt4; have hB9 := below_append ‹Below w.heap.size w (w3.alloc (Obj.cells #[Value.string R] 9))› (hu.mono (by simp)) hgrow4) | fail "no arm")
  go_wp2_with fail
  go_ret
  exact ⟨_, rfl, OwnS.snoc hown4, by assumption⟩
set_option maxHeartbeats 400000 in
theorem ppath_one (a : Option Addr) (cap : Nat) (i : Int) (w : World) :
    Calls Tryd.prog 27 #[.slice a 1 cap, .int .i64 i] w (Gives [] w) := by
  go_enter Tryd.func27, Tryd.ntmps27
  go_wp2_with fail
  go_ret
  exact ⟨_, rfl, OwnS.nil _ _, Below.refl _ _⟩
theorem ppath_any : ∀ (n : Nat) (ss : List ByteArray) (v : Value) (i : Nat) (w : World), ss.length = n → n ≤ 1099511627776 → i < n → Small ss → StrsOk w v ss → TabOk w →
    Calls Tryd.prog 27 #[v, .int .i64 (i : Int)] w (Gives (pathB ss i) w) := by
  intro n
  induction n using Nat.strongRecOn with
  | _ n ih =>
    intro ss v i w hn hle hin hS hok ht
    obtain ⟨b, off, cap, rfl, h1, h3, hc⟩ := hok.open_ (by omega)
    by_cases h2 : 2 ≤ ss.length
    · have k1 := half_pos h2
      have k2 := half_lt h2
      have hfirst : ∀ w', Below w.heap.size w w' → StrsOk w' (.slice (some ⟨b, off, none⟩) (half ss.length) cap) (ss.take (half ss.length)) := fun w' hb => (StrsOk.first h1 h3 hok.sizes hc _ k1 (by omega)).below hb
      have hrest : ∀ w', Below w.heap.size w w' → StrsOk w' (.slice (some ⟨b, off + half ss.length, none⟩) (ss.length - half ss.length) (cap - half ss.length)) (ss.drop (half ss.length)) := fun w' hb => (StrsOk.rest h1 h3 hok.sizes hc _ k2).below hb
      rw [pathB_big h2]
      split
      · rename_i hi
        have p := (pathB_small_all _ (ss.take (half ss.length)) i rfl (hS.take _)).2
        rw [take_length h2] at p
        refine ppath_lo ss b off cap i w h2 (by omega) h1 h3 hi _ _ (by omega) ?_ ?_
        · intro w' hb
          exact ih (half ss.length) (by omega) _ _ i w' (take_length h2) (by omega) hi (hS.take _) (hfirst w' hb) (ht.below hb)
        · intro w' hb
          exact rootOf_any _ _ w' (hrest w' hb) (by rw [drop_length h2]; omega) (hS.drop _) (ht.below hb)
      · rename_i hi
        have p := (pathB_small_all _ (ss.drop (half ss.length)) (i - half ss.length) rfl (hS.drop _)).2
        rw [drop_length h2] at p
        refine ppath_hi ss b off cap i w h2 (by omega) h1 h3 (by omega) (by omega) _ _ (by omega) ?_ ?_
        · intro w' hb
          have := ih (ss.length - half ss.length) (by omega) _ _ (i - half ss.length) w' (drop_length h2) (by omega) (by omega) (hS.drop _) (hrest w' hb) (ht.below hb)
          rw [show ((i - half ss.length : Nat) : Int) = (i : Int) - (half ss.length : Int) by omega] at this
          exact this
        · intro w' hb
          exact rootOf_any _ _ w' (hfirst w' hb) (by rw [take_length h2]; omega) (hS.take _) (ht.below hb)
    · have h1' : ss.length = 1 := by omega
      rw [pathB_small h2, h1']
      exact ppath_one _ cap i w
end Go.Proofs.YtcdnddjoonecdaaDoor
