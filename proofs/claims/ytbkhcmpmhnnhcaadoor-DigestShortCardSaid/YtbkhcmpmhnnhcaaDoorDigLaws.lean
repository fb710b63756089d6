/-
  The walks of the laws DigestChains and DigestForm: each returns true for every input.
-/
import Derived.Test.YtbkhcmpmhnnhcaaDoorDigLong
set_option linter.unusedVariables false
namespace Go.Proofs.YtbkhcmpmhnnhcaaDoor
open Go.RowKit
theorem hexTo_sum (x : ByteArray) (l : List UInt8) (hl : l.length = 16) (hx : x.data.toList = l) (hd : ∀ b ∈ l, isHex b.toNat = true) : isB x = true := by
  have hs : x.size = 16 := by
    have : x.data.toList.length = x.size := by simp
    rw [← this, hx, hl]
  have key : ∀ k, k ≤ 16 → hexTo x k = true := by
    intro k
    induction k with
    | zero => intro _; rfl
    | succ k ih =>
      intro hk
      simp only [hexTo, ih (by omega), Bool.true_and]
      rw [hx, Dig.byteAt_in (by omega)]
      exact hd _ (List.getElem_mem _)
  simp [isB, hs, key 16 (Nat.le_refl _)]
theorem hexK_hex (k x : Nat) : ∀ b ∈ Dig.hexK k x, isHex b.toNat = true := by
  induction k generalizing x with
  | zero => intro b hb; simp [Dig.hexK] at hb
  | succ k ih =>
    intro b hb
    simp only [Dig.hexK, List.mem_append, List.mem_singleton] at hb
    rcases hb with hb | rfl
    · exact ih _ b hb
    · have h := Nat.mod_lt x (show 0 < 16 by omega)
      generalize x % 16 = n at h
      unfold Dig.dg isHex
      split
      · simp [UInt8.toNat_ofNat']; omega
      · simp [UInt8.toNat_ofNat']; omega
theorem isB_sum (s : ByteArray) : isB (sumB s) = true :=
  hexTo_sum (sumB s) (Dig.sumL s.data.toList) (Dig.sumL_length _) (by simp [sumB]) (hexK_hex 16 _)
theorem isB_chain (s : ByteArray) (k : Nat) (hk : k ≠ 0) : isB (chB s k) = true := by
  cases k with
  | zero => exact absurd rfl hk
  | succ k => exact isB_sum _
theorem chB_add (s : ByteArray) (a b : Nat) : chB (chB s a) b = chB s (a + b) := by
  induction b with
  | zero => rfl
  | succ b ih => rw [← Nat.add_assoc, chB, chB, ih]
theorem isSum_any (s : ByteArray) (w : World) : Calls Tryd.prog 18 #[.string (sumB s)] w fun e w' => e = .returned (.bool true) ∧ w = w' := by
  refine (is_any (sumB s) w (by rw [sumB_size]; unfold maxLen; omega)).mono ?_
  rintro e w' ⟨rfl, rfl⟩
  exact ⟨by rw [isB_sum], rfl⟩
theorem isChain_any (s : ByteArray) (k : Nat) (w : World) (hs : s.size ≤ 140737488355328) (hk : k ≠ 0) : Calls Tryd.prog 18 #[.string (chB s k)] w fun e w' => e = .returned (.bool true) ∧ w = w' := by
  refine (is_any (chB s k) w (by have := chB_size s hs k; unfold maxLen; omega)).mono ?_
  rintro e w' ⟨rfl, rfl⟩
  exact ⟨by rw [isB_chain s k hk], rfl⟩
/-- what passes Few -/
theorem few_bounds {ss : List ByteArray} (h : fewB ss 200 = true) : ss.length ≤ 30 ∧ ∀ s ∈ ss, s.size ≤ 200 := by
  simp only [fewB, Bool.and_eq_true, List.all_eq_true, decide_eq_true_eq] at h
  exact ⟨h.2, fun s hs => by have := h.1 s hs; omega⟩
theorem join_bound {ss : List ByteArray} (h : ∀ s ∈ ss, s.size ≤ 200) : (joinL ss).length ≤ 221 * ss.length := by
  induction ss with
  | nil => simp [joinL]
  | cons s r ih =>
    have h1 := h s (List.mem_cons_self ..)
    have h2 := ih (fun x hx => h x (List.mem_cons_of_mem _ hx))
    have h3 : (decB s.size).size ≤ 20 := decB_size _ (by omega)
    have h4 : (decB s.size).size = (Lib.decDigits s.size).length := by show (Lib.decDigits s.size).toArray.size = _; simp
    have h5 : s.data.toList.length = s.size := by simp
    simp only [joinL, oneL, List.length_append, List.length_cons]
    omega
theorem cap_bound {ss : List ByteArray} (h : ∀ s ∈ ss, s.size ≤ 200) : capN ss ≤ 221 * ss.length := by
  induction ss with
  | nil => simp [capN]
  | cons s r ih =>
    have h1 := h s (List.mem_cons_self ..)
    have h2 := ih (fun x hx => h x (List.mem_cons_of_mem _ hx))
    simp only [capN, List.length_cons]
    omega
set_option maxHeartbeats 1000000 in
theorem walkDigestChains (s : ByteArray) (x y : Int) (w : World) (hs : s.size ≤ maxLen) (hx : (Lit.int .u8 x).wf = true) (hy : (Lit.int .u8 y).wf = true) (ht : TabOk w) :
    Calls Tryd.prog 8 #[.string s, .int .u8 x, .int .u8 y] w fun e w' => e = .returned (.bool true) ∧ Below w.heap.size w w' := by
  obtain ⟨x0, x1⟩ := u8_bounds hx
  obtain ⟨y0, y1⟩ := u8_bounds hy
  unfold maxLen at hs
  by_cases h1 : s.size ≤ 2000
  · have hch : (chB s (min (x % 51) 1000).toNat).size ≤ 140737488355328 := chB_size s (by omega) _
    have q : ((chB (chB s (min (x % 51) 1000).toNat) (min (y % 51) 1000).toNat).toList == (chB s (min (x % 51 + y % 51) 1000).toNat).toList) = true := by
      rw [chB_add, show (min (x % 51) 1000).toNat + (min (y % 51) 1000).toNat = (min (x % 51 + y % 51) 1000).toNat by omega]
      exact str_self _
    go_enter Tryd.func8, Tryd.ntmps8
    go_wp2_with fail
    refine (head_any _ ht).mono ?_
    rintro e w1 ⟨rfl, hb1⟩
    go_wp2_with fail
    refine (chain_any _ _ _ (by omega) (by omega) (by omega)).mono ?_
    rintro e w2 ⟨rfl, hb2⟩
    have hB2 := hb1.trans (hb2.mono hb1.size)
    go_wp2_with fail
    refine (chain_any _ _ _ hch (by omega) (by omega)).mono ?_
    rintro e w3 ⟨rfl, hb3⟩
    have hB3 := hB2.trans (hb3.mono hB2.size)
    go_wp2_with fail
    refine (chain_any _ _ _ (by omega) (by omega) (by omega)).mono ?_
    rintro e w4 ⟨rfl, hb4⟩
    have hB4 := hB3.trans (hb4.mono hB3.size)
    go_wp2_with fail
    go_ret
    exact ⟨rfl, hB4⟩
  · go_enter Tryd.func8, Tryd.ntmps8
    go_wp2_with fail
    refine (head_any _ ht).mono ?_
    rintro e w1 ⟨rfl, hb1⟩
    go_wp2_with fail
    go_ret
    exact ⟨rfl, hb1⟩
set_option maxHeartbeats 1000000 in
theorem walkDigestForm (s : ByteArray) (v : Value) (ss : List ByteArray) (x : Int) (w : World) (hs : s.size ≤ maxLen) (hv : StrsOk w v ss) (hx : (Lit.int .u8 x).wf = true) (ht' : TabOk w) :
    Calls Tryd.prog 5 #[.string s, v, .int .u8 x] w fun e w' => e = .returned (.bool true) ∧ Below w.heap.size w w' := by
  have ht := Lib.hid ht'
  clear ht'
  obtain ⟨x0, x1⟩ := u8_bounds hx
  unfold maxLen at hs
  by_cases h1 : s.size ≤ 2000
  · by_cases h2 : fewB ss 200 = true
    · obtain ⟨f1, f2⟩ := few_bounds h2
      have j1 := join_bound f2
      have j2 : (joinL ss).length ≤ 1099511627776 := by omega
      clear j1
      have H2 := Lib.hid h2
      have F2 := Lib.hid f2
      clear f2
      go_enter Tryd.func5, Tryd.ntmps5
      go_wp2_with fail
      refine (head_any _ ht.out).mono ?_
      rintro e w1 ⟨rfl, hb1⟩
      have hv1 := hv.below hb1
      have ht1 := Lib.hid (TabOk.below ht.out hb1)
      go_wp2_with fail
      refine (few_any _ _ 200 _ hv1.at_ hv1.len hv1.sizes).mono ?_
      rintro e w2 ⟨rfl, rfl⟩
      go_wp2_with fail
      refine (sum_any _ _ (by unfold maxLen; omega)).mono ?_
      rintro e w3 ⟨rfl, hb3⟩
      have hB3 := hb1.trans (hb3.mono hb1.size)
      have hv3 := hv1.below hb3
      have ht3 := Lib.hid (TabOk.below ht1.out hb3)
      go_wp2_with fail
      refine (isSum_any _ _).mono ?_
      rintro e w4 ⟨rfl, rfl⟩
      go_wp2_with fail
      refine (list_any _ _ _ hv3.at_ hv3.len j2 ht3.out).mono ?_
      rintro e w5 ⟨rfl, hb5⟩
      have hB5 := hB3.trans (hb5.mono hB3.size)
      go_wp2_with fail
      refine (isSum_any _ _).mono ?_
      rintro e w6 ⟨rfl, rfl⟩
      go_wp2_with fail
      refine (chain_any _ _ _ (by omega) (by omega) (by omega)).mono ?_
      rintro e w7 ⟨rfl, hb7⟩
      have hB7 := hB5.trans (hb7.mono hB5.size)
      go_wp2_with fail
      refine (isChain_any _ _ _ (by omega) (by omega)).mono ?_
      rintro e w8 ⟨rfl, rfl⟩
      go_wp2_with fail
      go_ret
      exact ⟨rfl, hB7⟩
    · have h2' : fewB ss 200 = false := by simpa using h2
      clear h2
      go_enter Tryd.func5, Tryd.ntmps5
      go_wp2_with fail
      refine (head_any _ ht.out).mono ?_
      rintro e w1 ⟨rfl, hb1⟩
      have hv1 := hv.below hb1
      go_wp2_with fail
      refine (few_any _ _ 200 _ hv1.at_ hv1.len hv1.sizes).mono ?_
      rintro e w2 ⟨rfl, rfl⟩
      go_wp2_with fail
      go_ret
      exact ⟨rfl, hb1⟩
  · go_enter Tryd.func5, Tryd.ntmps5
    go_wp2_with fail
    refine (head_any _ ht.out).mono ?_
    rintro e w1 ⟨rfl, hb1⟩
    go_wp2_with fail
    go_ret
    exact ⟨rfl, hb1⟩
end Go.Proofs.YtbkhcmpmhnnhcaaDoor
