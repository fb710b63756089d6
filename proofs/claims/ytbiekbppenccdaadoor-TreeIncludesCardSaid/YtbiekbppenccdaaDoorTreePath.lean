import Derived.Test.YtbiekbppenccdaaDoorTreeRoot
import Derived.Deep.AppendLies
set_option linter.unusedVariables false
namespace Go.Proofs.YtbiekbppenccdaaDoor
open Go.RowKit
/-- a slice of strings of the call's own -/
def OwnS (B : Nat) (w : World) (v : Value) (ss : List ByteArray) : Prop := w.ownsRow B 9 1 v ss.length (ss.map Value.string)
theorem OwnS.nil (B : Nat) (w : World) : OwnS B w (.slice none 0 0) [] := World.ownsRow_nil _ _ _ _
theorem OwnS.below {B : Nat} {w w' : World} {v : Value} {ss : List ByteArray} (h : OwnS B w v ss) (hb : Below w.heap.size w w') : OwnS B w' v ss := by
  by_cases e : v.ownBlock = none
  · exact World.ownsRow.kept (row := none) h ⟨hb.os, hb.tape, hb.output, hb.size, fun k hk _ => hb.block k hk⟩ (.inl e)
  · exact World.ownsRow.kept (row := none) h ⟨hb.os, hb.tape, hb.output, hb.size, fun k hk _ => hb.block k hk⟩ (.inr e)
theorem OwnS.mono {B B' : Nat} {w : World} {v : Value} {ss : List ByteArray} (h : OwnS B w v ss) (hB : B' ≤ B) : OwnS B' w v ss := by
  refine ⟨h.1, ?_⟩
  rcases h.2 with h0 | ⟨g, cap, cur, h1, h2, h3⟩
  · exact .inl h0
  · exact .inr ⟨g, cap, cur, h1, Nat.le_trans hB h2, h3⟩
theorem OwnS.ok {B : Nat} {w : World} {v : Value} {ss : List ByteArray} (h : OwnS B w v ss) (hs : ∀ s ∈ ss, s.size ≤ maxLen) : StrsOk w v ss := by
  rcases h.2 with ⟨rfl, h0⟩ | ⟨g, cap, cur, rfl, h2, hg, h3, h4, h5, h6⟩
  · obtain rfl : ss = [] := List.eq_nil_of_length_eq_zero h0
    exact StrsOk.none
  · by_cases h0 : 0 < ss.length
    · refine StrsOk.mk' h0 h3 h4 hs (fun j hj => ?_)
      rw [Nat.zero_add, World.ownsRow.cellAt h j (by omega)]
      simp [hj]
    · have hz : ss.length = 0 := by omega
      obtain rfl : ss = [] := List.eq_nil_of_length_eq_zero hz
      exact ⟨.inl ⟨rfl, _, _, rfl⟩, by simp, hs, _, _, rfl, by simp, h4⟩
/-- what a call says that hands back a list of strings of its own -/
def Gives (ss : List ByteArray) (w : World) (e : Ending) (w' : World) : Prop := ∃ u, e = .returned u ∧ OwnS w.heap.size w' u ss ∧ Below w.heap.size w w'
theorem infoStr : (Tryd.prog.info? 9).map (fun i => (i.zero, i.size, i.bytes)) = some (some (.string ⟨#[]⟩), 1, 16) := by kernel_rfl
theorem below_append {w w2 w3 w4 : World} {u : Value} {P : List ByteArray} (h : Below w.heap.size w w3) (hu : OwnS w.heap.size w2 u P) (hg : w3.grownBy w4 u.ownBlock) : Below w.heap.size w w4 :=
  h.grown hg h.size (fun q hq => (World.ownsRow.lt (w := w2) (base := w.heap.size) hu q hq).1)
theorem OwnS.snoc {B : Nat} {w : World} {v : Value} {P : List ByteArray} {R : ByteArray} (h : w.ownsRow B 9 1 v (P.length + 1) (P.map Value.string ++ [Value.string R])) : OwnS B w v (P ++ [R]) := by
  unfold OwnS
  rw [List.length_append, List.map_append]
  exact h
set_option maxHeartbeats 2000000 in
theorem refpath_lo (ss : List ByteArray) (b off cap : Nat) (i : Nat) (w : World) (h2 : 2 ≤ ss.length) (hn : ss.length ≤ 1099511627776) (hcap : ss.length ≤ cap) (hcm : cap ≤ maxLen) (hi : i < half ss.length) (P : List ByteArray) (R : ByteArray) (hP : P.length ≤ 1099511627776)
    (hlo : ∀ w', Below w.heap.size w w' → Calls Tryd.prog 37 #[.slice (some ⟨b, off, none⟩) (half ss.length) cap, .int .i64 (i : Int)] w' (Gives P w'))
    (hhi : ∀ w', Below w.heap.size w w' → Calls Tryd.prog 35 #[.slice (some ⟨b, off + half ss.length, none⟩) (ss.length - half ss.length) (cap - half ss.length)] w' fun e w'' => e = .returned (.string R) ∧ Below w'.heap.size w' w'') :
    Calls Tryd.prog 37 #[.slice (some ⟨b, off, none⟩) ss.length cap, .int .i64 (i : Int)] w (Gives (P ++ [R]) w) := by
  obtain ⟨i0, hi0, hz0, hz1, hz2⟩ := info_parts infoStr
  have HLO := Lib.hid hlo
  have HHI := Lib.hid hhi
  have k1 := half_pos h2
  have k2 := half_lt h2
  have i1 : (0 : Int) ≤ (half ss.length : Int) := by omega
  have i2 : (half ss.length : Int) ≤ (cap : Int) := by omega
  have i3 : (half ss.length : Int) ≤ (ss.length : Int) := by omega
  have t1 : ((ss.length : Int) == 1) = false := beq_eq_false_iff_ne.2 (by omega)
  clear hlo hhi
  unfold maxLen at hcm
  go_enter Tryd.func37, Tryd.ntmps37
  go_wp2_with fail
  refine (half_any _ _ h2 hn).mono ?_
  rintro e w1 ⟨rfl, rfl⟩
  go_wp2_with fail
  go_region_held3 (fun w' => Below w.heap.size w w') (first | (with_reducible assumption) | exact Below.drew (Below.refl _ _) | exact (Below.trans (by assumption) (Below.mono (by assumption) (Below.size (by assumption)))) | exact (Below.alloc (by assumption) (Below.size (by assumption)) _) | exact hB9) (first | (go_at_call 37; (with_reducible refine (HLO.out _ ?hb).mono ?_); (case hb => assumption); rintro e w2 ⟨u, rfl, hu, hb2⟩) | (go_at_call 35; (with_reducible refine (HHI.out _ ?hb).mono ?_); (case hb => assumption); rintro e w3 ⟨rfl, hb3⟩) | (refine step_append_lies _ (by rfl) _ _ _ (by rfl) w.heap.size 9 i0 _ 1 16 Tryd.underlying22 hi0 hz0 hz1 hz2 rfl (by omega) u P.length (P.map Value.string) (by rfl) (((hu.mono (by simp)).below hb3).alloc _) ⟨w3.heap.size, 0, none⟩ 1 1 [.string R] (by rfl) (by rfl) (World.news_of_block (cs := #[.string R]) (t := 9) (fr := (0, 0)) (heap_last w3 _)) (by simp [Value.oneCell']) (by omega) (by unfold maxLen; omega) (by omega) (Below.size ‹Below w.heap.size w (w3.alloc (Obj.cells #[Value.string R] 9))›) (w3.heap.size + 1) (by simp) ?_; intro gg cap4 w4 hown4 hgrow4 hat4 hlt4; have hB9 := below_append ‹Below w.heap.size w (w3.alloc (Obj.cells #[Value.string R] 9))› (hu.mono (by simp)) hgrow4) | fail "no arm")
  go_wp2_with fail
  go_ret
  exact ⟨_, rfl, OwnS.snoc hown4, by assumption⟩
set_option maxHeartbeats 2000000 in
theorem refpath_hi (ss : List ByteArray) (b off cap : Nat) (i : Nat) (w : World) (h2 : 2 ≤ ss.length) (hn : ss.length ≤ 1099511627776) (hcap : ss.length ≤ cap) (hcm : cap ≤ maxLen) (hi : half ss.length ≤ i) (hi2 : i < ss.length) (P : List ByteArray) (R : ByteArray) (hP : P.length ≤ 1099511627776)
    (hlo : ∀ w', Below w.heap.size w w' → Calls Tryd.prog 37 #[.slice (some ⟨b, off + half ss.length, none⟩) (ss.length - half ss.length) (cap - half ss.length), .int .i64 ((i : Int) - (half ss.length : Int))] w' (Gives P w'))
    (hhi : ∀ w', Below w.heap.size w w' → Calls Tryd.prog 35 #[.slice (some ⟨b, off, none⟩) (half ss.length) cap] w' fun e w'' => e = .returned (.string R) ∧ Below w'.heap.size w' w'') :
    Calls Tryd.prog 37 #[.slice (some ⟨b, off, none⟩) ss.length cap, .int .i64 (i : Int)] w (Gives (P ++ [R]) w) := by
  obtain ⟨i0, hi0, hz0, hz1, hz2⟩ := info_parts infoStr
  have HLO := Lib.hid hlo
  have HHI := Lib.hid hhi
  have k1 := half_pos h2
  have k2 := half_lt h2
  have i1 : (0 : Int) ≤ (half ss.length : Int) := by omega
  have i2 : (half ss.length : Int) ≤ (cap : Int) := by omega
  have i3 : (half ss.length : Int) ≤ (ss.length : Int) := by omega
  have i4 : IntKind.i64.wrap ((i : Int) - (half ss.length : Int)) = (i : Int) - (half ss.length : Int) := IntWalk.i64_in _ (by omega)
  have t1 : ((ss.length : Int) == 1) = false := beq_eq_false_iff_ne.2 (by omega)
  have t2 : ¬ cap = half ss.length := by omega
  clear hlo hhi
  unfold maxLen at hcm
  go_enter Tryd.func37, Tryd.ntmps37
  go_wp2_with fail
  refine (half_any _ _ h2 hn).mono ?_
  rintro e w1 ⟨rfl, rfl⟩
  go_wp2_with fail
  go_region_held3 (fun w' => Below w.heap.size w w') (first | (with_reducible assumption) | exact Below.drew (Below.refl _ _) | exact (Below.trans (by assumption) (Below.mono (by assumption) (Below.size (by assumption)))) | exact (Below.alloc (by assumption) (Below.size (by assumption)) _) | exact hB9) (first | (go_at_call 37; (with_reducible refine (HLO.out _ ?hb).mono ?_); (case hb => assumption); rintro e w2 ⟨u, rfl, hu, hb2⟩) | (go_at_call 35; (with_reducible refine (HHI.out _ ?hb).mono ?_); (case hb => assumption); rintro e w3 ⟨rfl, hb3⟩) | (refine step_append_lies _ (by rfl) _ _ _ (by rfl) w.heap.size 9 i0 _ 1 16 Tryd.underlying22 hi0 hz0 hz1 hz2 rfl (by omega) u P.length (P.map Value.string) (by rfl) (((hu.mono (by simp)).below hb3).alloc _) ⟨w3.heap.size, 0, none⟩ 1 1 [.string R] (by rfl) (by rfl) (World.news_of_block (cs := #[.string R]) (t := 9) (fr := (0, 0)) (heap_last w3 _)) (by simp [Value.oneCell']) (by omega) (by unfold maxLen; omega) (by omega) (Below.size ‹Below w.heap.size w (w3.alloc (Obj.cells #[Value.string R] 9))›) (w3.heap.size + 1) (by simp) ?_; intro gg cap4 w4 hown4 hgrow4 hat4 hlt4; have hB9 := below_append ‹Below w.heap.size w (w3.alloc (Obj.cells #[Value.string R] 9))› (hu.mono (by simp)) hgrow4) | fail "no arm")
  go_wp2_with fail
  go_ret
  exact ⟨_, rfl, OwnS.snoc hown4, by assumption⟩
set_option maxHeartbeats 400000 in
theorem refpath_one (a : Option Addr) (cap : Nat) (i : Int) (w : World) :
    Calls Tryd.prog 37 #[.slice a 1 cap, .int .i64 i] w (Gives [] w) := by
  go_enter Tryd.func37, Tryd.ntmps37
  go_wp2_with fail
  go_ret
  exact ⟨_, rfl, OwnS.nil _ _, Below.refl _ _⟩
theorem pathB_big {l : List ByteArray} (h : 2 ≤ l.length) (i : Nat) : pathB l i = if i < half l.length then pathB (l.take (half l.length)) i ++ [rootB (l.drop (half l.length))] else pathB (l.drop (half l.length)) (i - half l.length) ++ [rootB (l.take (half l.length))] := by rw [pathB, dif_pos h]
theorem pathB_small {l : List ByteArray} (h : ¬ 2 ≤ l.length) (i : Nat) : pathB l i = [] := by rw [pathB, dif_neg h]
theorem pathB_small_all : ∀ (n : Nat) (l : List ByteArray) (i : Nat), l.length = n → Small l → Small (pathB l i) ∧ (pathB l i).length ≤ l.length := by
  intro n
  induction n using Nat.strongRecOn with
  | _ n ih =>
    intro l i hl hS
    by_cases h2 : 2 ≤ l.length
    · have k1 := half_pos h2
      have k2 := half_lt h2
      rw [pathB_big h2]
      split
      · obtain ⟨a1, a2⟩ := ih _ (by omega) (l.take (half l.length)) i (take_length h2) (hS.take _)
        refine ⟨fun s hs => ?_, ?_⟩
        · rcases List.mem_append.1 hs with hs | hs
          · exact a1 s hs
          · simp only [List.mem_singleton] at hs; subst hs; exact rootB_size (hS.drop _)
        · rw [take_length h2] at a2; simp; omega
      · obtain ⟨a1, a2⟩ := ih _ (by omega) (l.drop (half l.length)) (i - half l.length) (drop_length h2) (hS.drop _)
        refine ⟨fun s hs => ?_, ?_⟩
        · rcases List.mem_append.1 hs with hs | hs
          · exact a1 s hs
          · simp only [List.mem_singleton] at hs; subst hs; exact rootB_size (hS.take _)
        · rw [drop_length h2] at a2; simp; omega
    · rw [pathB_small h2]
      exact ⟨fun s hs => by simp at hs, by simp⟩
theorem refpath_any : ∀ (n : Nat) (ss : List ByteArray) (v : Value) (i : Nat) (w : World), ss.length = n → n ≤ 1099511627776 → i < n → Small ss → StrsOk w v ss →
    Calls Tryd.prog 37 #[v, .int .i64 (i : Int)] w (Gives (pathB ss i) w) := by
  intro n
  induction n using Nat.strongRecOn with
  | _ n ih =>
    intro ss v i w hn hle hin hS hok
    obtain ⟨b, off, cap, rfl, h1, h3, hc⟩ := hok.open_ (by omega)
    by_cases h2 : 2 ≤ ss.length
    · have k1 := half_pos h2
      have k2 := half_lt h2
      have hfirst : ∀ w', Below w.heap.size w w' → StrsOk w' (.slice (some ⟨b, off, none⟩) (half ss.length) cap) (ss.take (half ss.length)) := fun w' hb => (StrsOk.first h1 h3 hok.sizes hc _ k1 (by omega)).below hb
      have hrest : ∀ w', Below w.heap.size w w' → StrsOk w' (.slice (some ⟨b, off + half ss.length, none⟩) (ss.length - half ss.length) (cap - half ss.length)) (ss.drop (half ss.length)) := fun w' hb => (StrsOk.rest h1 h3 hok.sizes hc _ k2).below hb
      rw [pathB_big h2]
      split
      · rename_i hi
        have p := (pathB_small_all _ (ss.take (half ss.length)) i rfl (hS.take _)).2
        rw [take_length h2] at p
        refine refpath_lo ss b off cap i w h2 (by omega) h1 h3 hi _ _ (by omega) ?_ ?_
        · intro w' hb
          exact ih (half ss.length) (by omega) _ _ i w' (take_length h2) (by omega) hi (hS.take _) (hfirst w' hb)
        · intro w' hb
          exact refroot_any _ _ _ w' (drop_length h2) (by omega) (hS.drop _) (hrest w' hb)
      · rename_i hi
        have p := (pathB_small_all _ (ss.drop (half ss.length)) (i - half ss.length) rfl (hS.drop _)).2
        rw [drop_length h2] at p
        refine refpath_hi ss b off cap i w h2 (by omega) h1 h3 (by omega) (by omega) _ _ (by omega) ?_ ?_
        · intro w' hb
          have := ih (ss.length - half ss.length) (by omega) _ _ (i - half ss.length) w' (drop_length h2) (by omega) (by omega) (hS.drop _) (hrest w' hb)
          rw [show ((i - half ss.length : Nat) : Int) = (i : Int) - (half ss.length : Int) by omega] at this
          exact this
        · intro w' hb
          exact refroot_any _ _ _ w' (take_length h2) (by omega) (hS.take _) (hfirst w' hb)
    · have h1' : ss.length = 1 := by omega
      rw [pathB_small h2, h1']
      exact refpath_one _ cap i w
end Go.Proofs.YtbiekbppenccdaaDoor
