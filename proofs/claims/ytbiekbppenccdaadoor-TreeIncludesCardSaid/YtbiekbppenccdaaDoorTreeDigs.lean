import Derived.Test.YtbiekbppenccdaaDoorTreePath
set_option linter.unusedVariables false
namespace Go.Proofs.YtbiekbppenccdaaDoor
open Go.RowKit
/-- every string of a list is a digest -/
def digsB (ss : List ByteArray) : Bool := ss.all isB
theorem digsB_is {ss : List ByteArray} (h : digsB ss = true) : ∀ s ∈ ss, isB s = true := by
  unfold digsB at h; rw [List.all_eq_true] at h; exact h
theorem isB_size {s : ByteArray} (h : isB s = true) : s.size = 16 := by
  unfold isB at h
  simp only [Bool.and_eq_true, decide_eq_true_eq] at h
  omega
theorem digsB_small {ss : List ByteArray} (h : digsB ss = true) : Small ss := fun s hs => by
  have := isB_size (digsB_is h s hs); omega
theorem digests_empty (a : Option Addr) (cap : Nat) (w : World) :
    Calls Tryd.prog 34 #[.slice a 0 cap] w fun e w' => e = .returned (.bool (digsB [])) ∧ w = w' := by
  go_enter Tryd.func34, Tryd.ntmps34
  go_wp2_with fail
  refine wp_loop_rounds 1 ?_
  rw [rounds_succ]
  go_wp2_with fail
  go_ret
  exact ⟨rfl, rfl⟩
theorem digests_full (b off cap : Nat) (ss : List ByteArray) (w : World) (h0 : 0 < ss.length) (hl : ss.length ≤ maxLen) (hsz : ∀ s ∈ ss, s.size ≤ maxLen) (hc : ∀ j (hj : j < ss.length), w.cell? ⟨b, off + j, none⟩ = some (.string ss[j])) :
    Calls Tryd.prog 34 #[.slice (some ⟨b, off, none⟩) ss.length cap] w fun e w' => e = .returned (.bool (digsB ss)) ∧ w = w' := by
  unfold maxLen at hl
  have HC := Lib.hid hc
  have HS := Lib.hid hsz
  clear hc hsz
  go_enter Tryd.func34, Tryd.ntmps34
  go_wp2_with fail
  go_loop [3] (fun i => ∃ k : Nat, k ≤ ss.length ∧ i = .int .i64 k ∧ Hid (∀ j (hj : j < ss.length), j < k → isB ss[j] = true)) (fun i => ss.length - (intOf i).toNat)
  case atStart => exact ⟨0, by omega, rfl, (show _ from fun j _ h => absurd h (by omega))⟩
  case round =>
    obtain ⟨k, hk, rfl, hx⟩ := hrel
    by_cases hlt : k < ss.length
    · have hcell := HC.out k hlt
      have hsz : ss[k].size ≤ maxLen := HS.out _ (List.getElem_mem hlt)
      have HSZ := Lib.hid hsz
      clear hsz
      by_cases hm : isB ss[k] = true
      · have HM := Lib.hid hm
        clear hm
        go_wp2_with fail
        refine (refis_any ss[k] _ HSZ.out).mono ?_
        rintro e w1 ⟨rfl, rfl⟩
        rw [HM.out]
        go_wp2_with fail
        go_round
        case rel =>
          refine ⟨k + 1, by omega, by go_num, (show _ from fun j hj h => ?_)⟩
          by_cases e : j = k
          · subst e; exact HM.out
          · exact hx.out j hj (by omega)
        case measure => simp [intOf]; omega
      · have hf : isB ss[k] = false := by simpa using hm
        clear hm
        have HF := Lib.hid hf
        have hb : digsB ss = false := by
          unfold digsB
          rw [List.all_eq_false]
          exact ⟨_, List.getElem_mem hlt, by rw [hf]; simp⟩
        have HB := Lib.hid hb
        clear hb hf
        go_wp2_with fail
        refine (refis_any ss[k] _ HSZ.out).mono ?_
        rintro e w1 ⟨rfl, rfl⟩
        rw [HF.out]
        go_wp2_with fail
        go_ret
        exact ⟨by rw [HB.out]; rfl, rfl⟩
    · obtain rfl : k = ss.length := by omega
      have hb : digsB ss = true := by
        unfold digsB
        rw [List.all_eq_true]
        intro s hs
        obtain ⟨j, hj, rfl⟩ := List.getElem_of_mem hs
        exact hx.out j hj hj
      have HB := Lib.hid hb
      clear hb
      go_wp2_with fail
      go_ret
      exact ⟨by rw [HB.out]; rfl, rfl⟩
theorem digests_any (v : Value) (ss : List ByteArray) (w : World) (h : StrsOk w v ss) (hl : ss.length ≤ maxLen) :
    Calls Tryd.prog 34 #[v] w fun e w' => e = .returned (.bool (digsB ss)) ∧ w = w' := by
  rcases h.at_ with ⟨rfl, a, cap, rfl⟩ | ⟨h0, b, off, cap, rfl, hc⟩
  · exact digests_empty a cap w
  · exact digests_full b off cap ss w h0 hl h.sizes hc
theorem lenB_big {n : Nat} (h : 2 ≤ n) (i : Nat) : lenB n i = if i < half n then 1 + lenB (half n) i else 1 + lenB (n - half n) (i - half n) := by rw [lenB, dif_pos h]
theorem lenB_small {n : Nat} (h : ¬ 2 ≤ n) (i : Nat) : lenB n i = 0 := by rw [lenB, dif_neg h]
theorem lenB_le : ∀ (n : Nat) (i : Nat), lenB n i ≤ n := by
  intro n
  induction n using Nat.strongRecOn with
  | _ n ih =>
    intro i
    by_cases h2 : 2 ≤ n
    · have k1 := half_pos h2
      have k2 := half_lt h2
      have h3 := half_le h2
      rw [lenB_big h2]
      split
      · have := ih (half n) (by omega) i; omega
      · have := ih (n - half n) (by omega) (i - half n); omega
    · rw [lenB_small h2]; omega
set_option maxHeartbeats 400000 in
theorem reflen_step (n i : Nat) (w : World) (h2 : 2 ≤ n) (hn : n ≤ 1099511627776) (hi : i < n)
    (hlo : i < half n → Calls Tryd.prog 44 #[.int .i64 (half n : Nat), .int .i64 (i : Int)] w fun e w' => e = .returned (.int .i64 (lenB (half n) i : Nat)) ∧ w = w')
    (hhi : half n ≤ i → Calls Tryd.prog 44 #[.int .i64 ((n - half n : Nat) : Int), .int .i64 ((i - half n : Nat) : Int)] w fun e w' => e = .returned (.int .i64 (lenB (n - half n) (i - half n) : Nat)) ∧ w = w') :
    Calls Tryd.prog 44 #[.int .i64 (n : Int), .int .i64 (i : Int)] w fun e w' => e = .returned (.int .i64 (lenB n i : Nat)) ∧ w = w' := by
  have HLO := Lib.hid hlo
  have HHI := Lib.hid hhi
  clear hlo hhi
  have k1 := half_pos h2
  have k2 := half_lt h2
  have l1 := lenB_le (half n) i
  have l2 := lenB_le (n - half n) (i - half n)
  have t1 : ((n : Int) == 1) = false := beq_eq_false_iff_ne.2 (by omega)
  have HB := Lib.hid (lenB_big h2 i)
  by_cases hlt : i < half n
  · rw [if_pos hlt] at HB
    go_enter Tryd.func44, Tryd.ntmps44
    go_wp2_with fail
    refine (half_any _ _ h2 hn).mono ?_
    rintro e w1 ⟨rfl, rfl⟩
    go_wp2_with fail
    refine (HLO.out hlt).mono ?_
    rintro e w1 ⟨rfl, rfl⟩
    go_wp2_with fail
    go_ret
    exact ⟨by rw [HB.out]; go_num, rfl⟩
  · rw [if_neg hlt] at HB
    have i4 : IntKind.i64.wrap ((i : Int) - (half n : Int)) = ((i - half n : Nat) : Int) := by rw [IntWalk.i64_in _ (by omega)]; omega
    have i5 : IntKind.i64.wrap ((n : Int) - (half n : Int)) = ((n - half n : Nat) : Int) := by rw [IntWalk.i64_in _ (by omega)]; omega
    go_enter Tryd.func44, Tryd.ntmps44
    go_wp2_with fail
    refine (half_any _ _ h2 hn).mono ?_
    rintro e w1 ⟨rfl, rfl⟩
    go_wp2_with fail
    refine (HHI.out (by omega)).mono ?_
    rintro e w1 ⟨rfl, rfl⟩
    go_wp2_with fail
    go_ret
    exact ⟨by rw [HB.out]; go_num, rfl⟩
theorem reflen_one (i : Int) (w : World) :
    Calls Tryd.prog 44 #[.int .i64 1, .int .i64 i] w fun e w' => e = .returned (.int .i64 0) ∧ w = w' := by
  go_enter Tryd.func44, Tryd.ntmps44
  go_wp2_with fail
  go_ret
  exact ⟨rfl, rfl⟩
theorem reflen_any : ∀ (n i : Nat) (w : World), n ≤ 1099511627776 → i < n →
    Calls Tryd.prog 44 #[.int .i64 (n : Int), .int .i64 (i : Int)] w fun e w' => e = .returned (.int .i64 (lenB n i : Nat)) ∧ w = w' := by
  intro n
  induction n using Nat.strongRecOn with
  | _ n ih =>
    intro i w hn hi
    by_cases h2 : 2 ≤ n
    · have k1 := half_pos h2
      have k2 := half_lt h2
      exact reflen_step n i w h2 hn hi (fun h => ih _ (by omega) i w (by omega) h) (fun h => ih _ (by omega) _ w (by omega) (by omega))
    · obtain rfl : n = 1 := by omega
      rw [lenB_small h2]
      exact reflen_one _ w
end Go.Proofs.YtbiekbppenccdaaDoor
