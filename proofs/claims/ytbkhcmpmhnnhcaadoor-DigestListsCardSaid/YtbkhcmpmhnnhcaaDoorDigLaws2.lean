/-
  The walks of the laws DigestMatchesReference and DigestShort: each returns true for every input.
-/
import Derived.Test.YtbkhcmpmhnnhcaaDoorDigLaws
set_option linter.unusedVariables false
namespace Go.Proofs.YtbkhcmpmhnnhcaaDoor
open Go.RowKit
theorem tmod_bounds (n : Int) : -40 < n.tmod 40 ∧ n.tmod 40 < 40 := by
  constructor
  · have := Int.lt_tmod_of_pos n (b := 40) (by omega); omega
  · exact Int.tmod_lt_of_pos n (by omega)
set_option maxHeartbeats 1000000 in
theorem walkDigestMatchesReference (s : ByteArray) (v : Value) (ss : List ByteArray) (n : Int) (w : World) (hs : s.size ≤ maxLen) (hv : StrsOk w v ss) (hn : (Lit.int .i64 n).wf = true) (ht' : TabOk w) :
    Calls Tryd.prog 3 #[.string s, v, .int .i64 n] w fun e w' => e = .returned (.bool true) ∧ Below w.heap.size w w' := by
  have ht := Lib.hid ht'
  clear ht'
  obtain ⟨n0, n1⟩ := i64_bounds hn
  clear hn
  unfold maxLen at hs
  by_cases h1 : s.size ≤ 2000
  · by_cases h2 : fewB ss 200 = true
    · obtain ⟨f1, f2⟩ := few_bounds h2
      have j1 := join_bound f2
      have j2 : (joinL ss).length ≤ 1099511627776 := by omega
      have j3 := cap_bound f2
      have j4 : capN ss ≤ 140737488355328 := by omega
      clear j1 j3 f2
      obtain ⟨t0, t1⟩ := tmod_bounds n
      go_enter Tryd.func3, Tryd.ntmps3
      go_wp2_with fail
      refine (head_any _ ht.out).mono ?_
      rintro e w1 ⟨rfl, hb1⟩
      have hv1 := hv.below hb1
      have ht1 := Lib.hid (TabOk.below ht.out hb1)
      go_wp2_with fail
      refine (few_any _ _ 200 _ hv1.at_ hv1.len hv1.sizes).mono ?_
      rintro e w2 ⟨rfl, rfl⟩
      go_wp2_with fail
      refine (sum_any _ _ (by unfold maxLen; omega)).mono ?_
      rintro e w3 ⟨rfl, hb3⟩
      have hB3 := hb1.trans (hb3.mono hb1.size)
      have hv3 := hv1.below hb3
      have ht3 := Lib.hid (TabOk.below ht1.out hb3)
      go_wp2_with fail
      refine (refsum_any _ _ (by omega)).mono ?_
      rintro e w4 ⟨rfl, rfl⟩
      go_wp2_with fail
      refine (list_any _ _ _ hv3.at_ hv3.len j2 ht3.out).mono ?_
      rintro e w5 ⟨rfl, hb5⟩
      have hB5 := hB3.trans (hb5.mono hB3.size)
      have hv5 := hv3.below hb5
      go_wp2_with fail
      refine (reflist_any _ _ _ hv5.at_ hv5.len j2 j4).mono ?_
      rintro e w6 ⟨rfl, hb6⟩
      have hB6 := hB5.trans (hb6.mono hB5.size)
      go_wp2_with fail
      refine (chain_any _ _ _ (by omega) (by omega) (by omega)).mono ?_
      rintro e w7 ⟨rfl, hb7⟩
      have hB7 := hB6.trans (hb7.mono hB6.size)
      go_wp2_with fail
      refine (refchain_any _ _ _ (by omega) (by omega) (by omega)).mono ?_
      rintro e w8 ⟨rfl, rfl⟩
      go_wp2_with fail
      refine (is_any _ _ (by unfold maxLen; omega)).mono ?_
      rintro e w9 ⟨rfl, rfl⟩
      go_wp2_with fail
      refine (refis_any _ _ (by unfold maxLen; omega)).mono ?_
      rintro e w10 ⟨rfl, rfl⟩
      go_wp2_with fail
      go_ret
      exact ⟨rfl, hB7⟩
    · have h2' : fewB ss 200 = false := by simpa using h2
      clear h2
      go_enter Tryd.func3, Tryd.ntmps3
      go_wp2_with fail
      refine (head_any _ ht.out).mono ?_
      rintro e w1 ⟨rfl, hb1⟩
      have hv1 := hv.below hb1
      go_wp2_with fail
      refine (few_any _ _ 200 _ hv1.at_ hv1.len hv1.sizes).mono ?_
      rintro e w2 ⟨rfl, rfl⟩
      go_wp2_with fail
      go_ret
      exact ⟨rfl, hb1⟩
  · go_enter Tryd.func3, Tryd.ntmps3
    go_wp2_with fail
    refine (head_any _ ht.out).mono ?_
    rintro e w1 ⟨rfl, hb1⟩
    go_wp2_with fail
    go_ret
    exact ⟨rfl, hb1⟩
theorem short_key (A B : ByteArray) (hA : A.size ≤ 7) (hB : B.size ≤ 7) : (((sumB A).toList == (sumB B).toList) == (A.toList == B.toList)) = true := by
  rw [str_beq, str_beq]
  by_cases h : A = B
  · subst h; simp
  · have : sumB A ≠ sumB B := fun e => h ((sumB_short hA hB).1 e)
    simp [h, this]
set_option maxHeartbeats 1000000 in
theorem walkDigestShort (s t : ByteArray) (w : World) (hs : s.size ≤ maxLen) (hs2 : t.size ≤ maxLen) (ht' : TabOk w) :
    Calls Tryd.prog 6 #[.string s, .string t] w fun e w' => e = .returned (.bool true) ∧ Below w.heap.size w w' := by
  have ht := Lib.hid ht'
  clear ht'
  unfold maxLen at hs hs2
  have hA : (s.extract 0 (min (s.size : Int) 7).toNat).size ≤ 7 := by simp; omega
  have hB : (t.extract 0 (min (t.size : Int) 7).toNat).size ≤ 7 := by simp; omega
  have hK := Lib.hid (short_key _ _ hA hB)
  go_enter Tryd.func6, Tryd.ntmps6
  go_wp2_with fail
  refine (head_any _ ht.out).mono ?_
  rintro e w1 ⟨rfl, hb1⟩
  go_wp2_with fail
  refine (sum_any _ _ (by unfold maxLen; omega)).mono ?_
  rintro e w2 ⟨rfl, hb2⟩
  have hB2 := hb1.trans (hb2.mono hb1.size)
  go_wp2_with fail
  refine (sum_any _ _ (by unfold maxLen; omega)).mono ?_
  rintro e w3 ⟨rfl, hb3⟩
  have hB3 := hB2.trans (hb3.mono hB2.size)
  have hq := hK.out
  go_wp2_with fail
  go_ret
  exact ⟨by rw [← hq]; rfl, hB3⟩
end Go.Proofs.YtbkhcmpmhnnhcaaDoor
