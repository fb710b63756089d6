/-
  The program's tree package: contracts of split, the roots of parts, Leaf and the check of a list of digests.
-/
import Derived.Test.YtcdnddjoonecdaaDoorTmA
set_option linter.unusedVariables false
set_option maxRecDepth 100000
namespace Go.Proofs.YtcdnddjoonecdaaDoor
open Go.RowKit
set_option maxHeartbeats 400000 in
theorem split_any (n : Nat) (w : World) (h2 : 2 ≤ n) (hn : n ≤ 1099511627776) :
    Calls Tryd.prog 45 #[.int .i64 (n : Int)] w fun e w' => e = .returned (.int .i64 (half n : Nat)) ∧ w = w' := by
  go_enter Tryd.func45, Tryd.ntmps45
  go_wp2_with fail
  go_loop [3] (fun i => ∃ f k : Nat, i = .int .i64 k ∧ 1 ≤ k ∧ k < n ∧ n ≤ f + k ∧ halfGo f k n = half n) (fun i => n - (intOf i).toNat)
  case atStart => exact ⟨n, 1, rfl, by omega, by omega, by omega, rfl⟩
  case round =>
    obtain ⟨f, k, rfl, h1, h3, h4, h5⟩ := hrel
    have H5 := Lib.hid h5
    clear h5
    have e1 : IntKind.i64.wrap ((k : Int) * 2) = (k : Int) * 2 := IntWalk.i64_in _ (by omega)
    by_cases hlt : 2 * k < n
    · go_wp2_with fail
      go_round
      case rel =>
        obtain ⟨g, rfl⟩ : ∃ g, f = g + 1 := ⟨f - 1, by omega⟩
        refine ⟨g, 2 * k, by go_num, by omega, hlt, by omega, ?_⟩
        have := H5.out
        rwa [halfGo, if_pos hlt] at this
      case measure => simp [intOf]; omega
    · have hk : half n = k := by rw [← H5.out, halfGo_end _ _ _ hlt]
      have HK := Lib.hid hk
      clear hk
      go_wp2_with fail
      go_ret
      exact ⟨by rw [HK.out]; rfl, rfl⟩
/-- the program's List of a short literal -/
theorem plit_any (v : Value) (ss : List ByteArray) (w : World) (h : StrsAt w v ss) (hl : ss.length ≤ 10) (hs : ∀ s ∈ ss, s.size ≤ 2147483648) (ht : TabOk w) :
    Calls Tryd.prog 60 #[v] w fun e w' => e = .returned (.string (sumB (joinB ss))) ∧ Below w.heap.size w w' := by
  have hc : ∀ l : List ByteArray, (∀ s ∈ l, s.size ≤ 2147483648) → capN l ≤ 2147483669 * l.length := by
    intro l
    induction l with
    | nil => intro _; simp [capN]
    | cons s r ih =>
      intro h
      have h1 := h s (List.mem_cons_self ..)
      have h2 := ih (fun x hx => h x (List.mem_cons_of_mem _ hx))
      simp only [capN, List.length_cons]; omega
  have c1 := hc ss hs
  have c2 := join_le_cap (ss := ss) (fun s h => by have := hs s h; omega)
  exact list_any v ss w h (by unfold maxLen; omega) (by omega) ht
theorem pnode_any (a b : ByteArray) (w : World) (ha : a.size ≤ 2147483648) (hb : b.size ≤ 2147483648) (ht : TabOk w) :
    Calls Tryd.prog 64 #[.string a, .string b] w fun e w' => e = .returned (.string (nodeB a b)) ∧ Below w.heap.size w w' := by
  have HT := Lib.hid ht
  clear ht
  go_enter Tryd.func64, Tryd.ntmps64
  go_wp2_with fail
  refine (plit_any _ _ _ (lit3_at w kNode a b) (by simp) (by
    intro s h; simp only [List.mem_cons, List.not_mem_nil, or_false] at h
    rcases h with rfl | rfl | rfl
    · decide
    · exact ha
    · exact hb) (HT.out.below ((Below.refl _ _).alloc (Nat.le_refl _) _))).mono ?_
  rintro e w1 ⟨rfl, hb1⟩
  go_wp2_with fail
  go_ret
  exact ⟨rfl, ((Below.refl _ _).alloc (Nat.le_refl _) _).trans (hb1.mono (by simp))⟩
theorem pleaf_any (a : ByteArray) (w : World) (ha : a.size ≤ 2147483648) (ht : TabOk w) :
    Calls Tryd.prog 41 #[.string a] w fun e w' => e = .returned (.string (leafB a)) ∧ Below w.heap.size w w' := by
  have HT := Lib.hid ht
  clear ht
  go_enter Tryd.func41, Tryd.ntmps41
  go_wp2_with fail
  refine (plit_any _ _ _ (lit2_at w kLeaf a) (by simp) (by
    intro s h; simp only [List.mem_cons, List.not_mem_nil, or_false] at h
    rcases h with rfl | rfl
    · decide
    · exact ha) (HT.out.below ((Below.refl _ _).alloc (Nat.le_refl _) _))).mono ?_
  rintro e w1 ⟨rfl, hb1⟩
  go_wp2_with fail
  go_ret
  exact ⟨rfl, ((Below.refl _ _).alloc (Nat.le_refl _) _).trans (hb1.mono (by simp))⟩
theorem pempty_any (w : World) (ht : TabOk w) :
    Calls Tryd.prog 62 #[] w fun e w' => e = .returned (.string emptyB) ∧ Below w.heap.size w w' := by
  have HT := Lib.hid ht
  clear ht
  go_enter Tryd.func62, Tryd.ntmps62
  go_wp2_with fail
  refine (plit_any _ _ _ (one_at w kEmpty) (by simp) (by
    intro s h; simp only [List.mem_cons, List.not_mem_nil, or_false] at h
    subst h; decide) (HT.out.below ((Below.refl _ _).alloc (Nat.le_refl _) _))).mono ?_
  rintro e w1 ⟨rfl, hb1⟩
  go_wp2_with fail
  go_ret
  exact ⟨rfl, ((Below.refl _ _).alloc (Nat.le_refl _) _).trans (hb1.mono (by simp))⟩
theorem valid_empty (a : Option Addr) (cap : Nat) (w : World) :
    Calls Tryd.prog 26 #[.slice a 0 cap] w fun e w' => e = .returned (.bool (digsB [])) ∧ w = w' := by
  go_enter Tryd.func26, Tryd.ntmps26
  go_wp2_with fail
  refine wp_loop_rounds 1 ?_
  rw [rounds_succ]
  go_wp2_with fail
  go_ret
  exact ⟨rfl, rfl⟩
theorem valid_full (b off cap : Nat) (ss : List ByteArray) (w : World) (h0 : 0 < ss.length) (hl : ss.length ≤ maxLen) (hsz : ∀ s ∈ ss, s.size ≤ maxLen) (hc : ∀ j (hj : j < ss.length), w.cell? ⟨b, off + j, none⟩ = some (.string ss[j])) :
    Calls Tryd.prog 26 #[.slice (some ⟨b, off, none⟩) ss.length cap] w fun e w' => e = .returned (.bool (digsB ss)) ∧ w = w' := by
  unfold maxLen at hl
  have HC := Lib.hid hc
  have HS := Lib.hid hsz
  clear hc hsz
  go_enter Tryd.func26, Tryd.ntmps26
  go_wp2_with fail
  go_loop [7] (fun i => ∃ k : Nat, k ≤ ss.length ∧ i = .int .i64 k ∧ Hid (∀ j (hj : j < ss.length), j < k → isB ss[j] = true)) (fun i => ss.length - (intOf i).toNat)
  case atStart => exact ⟨0, by omega, rfl, (show _ from fun j _ h => absurd h (by omega))⟩
  case round =>
    obtain ⟨k, hk, rfl, hx⟩ := hrel
    by_cases hlt : k < ss.length
    · have hcell := HC.out k hlt
      have hsz : ss[k].size ≤ maxLen := HS.out _ (List.getElem_mem hlt)
      have HSZ := Lib.hid hsz
      clear hsz
      by_cases hm : isB ss[k] = true
      · have HM := Lib.hid hm
        clear hm
        go_wp2_with fail
        refine (is_any ss[k] _ HSZ.out).mono ?_
        rintro e w1 ⟨rfl, rfl⟩
        rw [HM.out]
        go_wp2_with fail
        go_round
        case rel =>
          refine ⟨k + 1, by omega, by go_num, (show _ from fun j hj h => ?_)⟩
          by_cases e : j = k
          · subst e; exact HM.out
          · exact hx.out j hj (by omega)
        case measure => simp [intOf]; omega
      · have hf : isB ss[k] = false := by simpa using hm
        clear hm
        have HF := Lib.hid hf
        have hb : digsB ss = false := by
          unfold digsB
          rw [List.all_eq_false]
          exact ⟨_, List.getElem_mem hlt, by rw [hf]; simp⟩
        have HB := Lib.hid hb
        clear hb hf
        go_wp2_with fail
        refine (is_any ss[k] _ HSZ.out).mono ?_
        rintro e w1 ⟨rfl, rfl⟩
        rw [HF.out]
        go_wp2_with fail
        go_ret
        exact ⟨by rw [HB.out]; rfl, rfl⟩
    · obtain rfl : k = ss.length := by omega
      have hb : digsB ss = true := by
        unfold digsB
        rw [List.all_eq_true]
        intro s hs
        obtain ⟨j, hj, rfl⟩ := List.getElem_of_mem hs
        exact hx.out j hj hj
      have HB := Lib.hid hb
      clear hb
      go_wp2_with fail
      go_ret
      exact ⟨by rw [HB.out]; rfl, rfl⟩
theorem valid_any (v : Value) (ss : List ByteArray) (w : World) (h : StrsOk w v ss) (hl : ss.length ≤ maxLen) :
    Calls Tryd.prog 26 #[v] w fun e w' => e = .returned (.bool (digsB ss)) ∧ w = w' := by
  rcases h.at_ with ⟨rfl, a, cap, rfl⟩ | ⟨h0, b, off, cap, rfl, hc⟩
  · exact valid_empty a cap w
  · exact valid_full b off cap ss w h0 hl h.sizes hc
end Go.Proofs.YtcdnddjoonecdaaDoor
