import Derived.Test.YtbiekbppenccdaaDoorTreeHalf
set_option linter.unusedVariables false
namespace Go.Proofs.YtbiekbppenccdaaDoor
open Go.RowKit
/-- short texts -/
def Small (ss : List ByteArray) : Prop := ∀ s ∈ ss, s.size ≤ 2147483648
theorem Small.take {ss : List ByteArray} (h : Small ss) (k : Nat) : Small (ss.take k) := fun s hs => h s (List.mem_of_mem_take hs)
theorem Small.drop {ss : List ByteArray} (h : Small ss) (k : Nat) : Small (ss.drop k) := fun s hs => h s (List.mem_of_mem_drop hs)
theorem nodeB_size (a b : ByteArray) : (nodeB a b).size = 16 := sumB_size _
theorem emptyB_size : emptyB.size = 16 := sumB_size _
theorem rootB_size {ss : List ByteArray} (h : Small ss) : (rootB ss).size ≤ 2147483648 := by
  by_cases h2 : 2 ≤ ss.length
  · rw [rootB_big h2, nodeB_size]; omega
  · match ss, h2 with
    | [], _ => rw [rootB_nil, emptyB_size]; omega
    | [a], _ => rw [rootB_one]; exact h a (List.mem_cons_self ..)
    | _ :: _ :: _, h2 => simp at h2
set_option maxHeartbeats 1000000 in
theorem refroot_step (ss : List ByteArray) (b off cap : Nat) (w : World) (h2 : 2 ≤ ss.length) (hn : ss.length ≤ 1099511627776) (hcap : ss.length ≤ cap) (hcm : cap ≤ maxLen) (hS : Small ss)
    (hlo : ∀ w', Below w.heap.size w w' → Calls Tryd.prog 35 #[.slice (some ⟨b, off, none⟩) (half ss.length) cap] w' fun e w'' => e = .returned (.string (rootB (ss.take (half ss.length)))) ∧ Below w'.heap.size w' w'')
    (hhi : ∀ w', Below w.heap.size w w' → Calls Tryd.prog 35 #[.slice (some ⟨b, off + half ss.length, none⟩) (ss.length - half ss.length) (cap - half ss.length)] w' fun e w'' => e = .returned (.string (rootB (ss.drop (half ss.length)))) ∧ Below w'.heap.size w' w'') :
    Calls Tryd.prog 35 #[.slice (some ⟨b, off, none⟩) ss.length cap] w fun e w' => e = .returned (.string (rootB ss)) ∧ Below w.heap.size w w' := by
  have HLO := Lib.hid hlo
  have HHI := Lib.hid hhi
  have s1 := rootB_size (hS.take (half ss.length))
  have s2 := rootB_size (hS.drop (half ss.length))
  have S1 := Lib.hid s1
  have S2 := Lib.hid s2
  have HR := Lib.hid (rootB_big h2)
  have k1 := half_pos h2
  have k2 := half_lt h2
  have i1 : (0 : Int) ≤ (half ss.length : Int) := by omega
  have i2 : (half ss.length : Int) ≤ (cap : Int) := by omega
  have i3 : (half ss.length : Int) ≤ (ss.length : Int) := by omega
  have t0 : ((ss.length : Int) == 0) = false := beq_eq_false_iff_ne.2 (by omega)
  have t1 : ((ss.length : Int) == 1) = false := beq_eq_false_iff_ne.2 (by omega)
  clear hlo hhi s1 s2 hS
  unfold maxLen at hcm
  go_enter Tryd.func35, Tryd.ntmps35
  go_wp2_with fail
  refine (half_any _ _ h2 hn).mono ?_
  rintro e w1 ⟨rfl, rfl⟩
  go_wp2_with fail
  go_region_held3 (fun w' => Below w.heap.size w w') (first | (with_reducible assumption) | exact Below.drew (Below.refl _ _) | exact (Below.trans (by assumption) (Below.mono (by assumption) (Below.size (by assumption))))) (first | (go_at_call 35; first | ((with_reducible refine (HLO.out _ ?hb).mono ?_); (case hb => assumption); rintro e w2 ⟨rfl, hb2⟩) | ((with_reducible refine (HHI.out _ ?hb).mono ?_); (case hb => assumption); rintro e w2 ⟨rfl, hb2⟩)) | (go_at_call 60; refine (refnode_any _ _ _ S1.out S2.out).mono ?_; rintro e w2 ⟨rfl, hb2⟩))
  go_wp2_with fail
  go_ret
  exact ⟨by rw [HR.out]; rfl, by assumption⟩
set_option maxHeartbeats 400000 in
theorem refroot_nil (a : Option Addr) (cap : Nat) (w : World) :
    Calls Tryd.prog 35 #[.slice a 0 cap] w fun e w' => e = .returned (.string (rootB [])) ∧ Below w.heap.size w w' := by
  have HR := Lib.hid rootB_nil
  go_enter Tryd.func35, Tryd.ntmps35
  go_wp2_with fail
  refine (refempty_any _).mono ?_
  rintro e w1 ⟨rfl, hb1⟩
  go_wp2_with fail
  go_ret
  exact ⟨by rw [HR.out]; rfl, hb1⟩
set_option maxHeartbeats 400000 in
theorem refroot_one (s : ByteArray) (b off cap : Nat) (w : World) (hc : w.cell? ⟨b, off, none⟩ = some (.string s)) :
    Calls Tryd.prog 35 #[.slice (some ⟨b, off, none⟩) 1 cap] w fun e w' => e = .returned (.string (rootB [s])) ∧ Below w.heap.size w w' := by
  have HR := Lib.hid (rootB_one s)
  go_enter Tryd.func35, Tryd.ntmps35
  go_wp2_with fail
  go_ret
  exact ⟨by rw [HR.out]; rfl, Below.refl _ _⟩
theorem refroot_any : ∀ (n : Nat) (ss : List ByteArray) (v : Value) (w : World), ss.length = n → n ≤ 1099511627776 → Small ss → StrsOk w v ss →
    Calls Tryd.prog 35 #[v] w fun e w' => e = .returned (.string (rootB ss)) ∧ Below w.heap.size w w' := by
  intro n
  induction n using Nat.strongRecOn with
  | _ n ih =>
    intro ss v w hn hle hS hok
    by_cases h2 : 2 ≤ ss.length
    · obtain ⟨b, off, cap, rfl, h1, h3, hc⟩ := hok.open_ (by omega)
      have k1 := half_pos h2
      have k2 := half_lt h2
      refine refroot_step ss b off cap w h2 (by omega) h1 h3 hS ?_ ?_
      · intro w' hb
        exact ih (half ss.length) (by omega) (ss.take (half ss.length)) _ w' (take_length h2) (by omega) (hS.take _) ((StrsOk.first h1 h3 hok.sizes hc _ k1 (by omega)).below hb)
      · intro w' hb
        exact ih (ss.length - half ss.length) (by omega) (ss.drop (half ss.length)) _ w' (drop_length h2) (by omega) (hS.drop _) ((StrsOk.rest h1 h3 hok.sizes hc _ k2).below hb)
    · match ss, h2 with
      | [], _ =>
        obtain ⟨a, cap, rfl, _, _⟩ := hok.room
        exact refroot_nil a cap w
      | [s], _ =>
        obtain ⟨b, off, cap, rfl, h1, h3, hc⟩ := hok.open_ (by simp)
        exact refroot_one s b off cap w (hc 0 (by simp))
      | _ :: _ :: _, h2 => simp at h2
end Go.Proofs.YtbiekbppenccdaaDoor
