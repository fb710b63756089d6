/-
  The contracts of the check of lengths in the statements of layer 3: for lists that are not empty.
-/
import Derived.Test.YtfkdhkbegfbkaaaDoorNatMulF
import Derived.Test.YtfkdhkbegfbkaaaDoorNatInt
set_option linter.unusedVariables false
set_option maxRecDepth 100000
namespace Go.Proofs.YtfkdhkbegfbkaaaDoor
open Go.RowKit
/-- a list of texts, not empty -/
def TxtAt (w : World) (v : Value) (ss : List ByteArray) : Prop :=
  0 < ss.length ∧ ∃ b off cap, v = .slice (some ⟨b, off, none⟩) ss.length cap ∧ ∀ j (hj : j < ss.length), w.cell? ⟨b, off + j, none⟩ = some (.string ss[j])
def few80 (ss : List ByteArray) : Bool := ss.all fun s => decide (s.size ≤ 80)
theorem reffew_full (b off cap : Nat) (ss : List ByteArray) (w : World) (h0 : 0 < ss.length) (hl : ss.length ≤ maxLen) (hsz : ∀ s ∈ ss, s.size ≤ maxLen) (hc : ∀ j (hj : j < ss.length), w.cell? ⟨b, off + j, none⟩ = some (.string ss[j])) :
    Calls Tryd.prog 31 #[.slice (some ⟨b, off, none⟩) ss.length cap] w fun e w' => e = .returned (.bool (few80 ss)) ∧ w = w' := by
  unfold maxLen at hl
  have HC := Lib.hid hc
  have HS := Lib.hid hsz
  clear hc hsz
  go_enter Tryd.func31, Tryd.ntmps31
  go_wp2_with fail
  go_loop [3] (fun i => ∃ k : Nat, k ≤ ss.length ∧ i = .int .i64 k ∧ Hid (∀ j (hj : j < ss.length), j < k → ss[j].size ≤ 80)) (fun i => ss.length - (intOf i).toNat)
  case atStart => exact ⟨0, by omega, rfl, (show _ from fun j _ h => absurd h (by omega))⟩
  case round =>
    obtain ⟨k, hk, rfl, hx⟩ := hrel
    by_cases hlt : k < ss.length
    · have hcell := HC.out k hlt
      have hs := HS.out _ (List.getElem_mem hlt)
      unfold maxLen at hs
      by_cases hm : ss[k].size ≤ 80
      · have t1 : decide (80 < ss[k].size) = false := decide_eq_false (by omega)
        go_wp2_with fail
        go_round
        case rel =>
          refine ⟨k + 1, by omega, by go_num, (show _ from fun j hj h => ?_)⟩
          by_cases e : j = k
          · subst e; exact hm
          · exact hx.out j hj (by omega)
        case measure => simp [intOf]; omega
      · have t1 : decide (80 < ss[k].size) = true := decide_eq_true (by omega)
        have hB : few80 ss = false := by
          unfold few80
          rw [List.all_eq_false]
          exact ⟨ss[k], List.getElem_mem hlt, by simpa using hm⟩
        have HB := Lib.hid hB
        clear hB
        go_wp2_with fail
        go_ret
        exact ⟨by rw [HB.out]; rfl, rfl⟩
    · have hB : few80 ss = true := by
        unfold few80
        rw [List.all_eq_true]
        intro s hs
        obtain ⟨j, hj, rfl⟩ := List.getElem_of_mem hs
        exact decide_eq_true (hx.out j hj (by omega))
      have HB := Lib.hid hB
      clear hB
      go_wp2_with fail
      go_ret
      exact ⟨by rw [HB.out]; rfl, rfl⟩
theorem few03_any (v : Value) (ss : List ByteArray) (w : World) (h : TxtAt w v ss) (hl : ss.length ≤ maxLen) (hsz : ∀ s ∈ ss, s.size ≤ maxLen) :
    Calls Tryd.prog 12 #[v] w fun e w' => e = .returned (.bool (few80 ss)) ∧ w = w' := by
  obtain ⟨h0, b, off, cap, rfl, hc⟩ := h
  go_enter Tryd.func12, Tryd.ntmps12
  go_wp2_with fail
  refine (reffew_full b off cap ss _ h0 hl hsz hc).mono ?_
  rintro e w' ⟨rfl, rfl⟩
  go_wp2_with fail
  go_ret
  exact ⟨rfl, rfl⟩
end Go.Proofs.YtfkdhkbegfbkaaaDoor
