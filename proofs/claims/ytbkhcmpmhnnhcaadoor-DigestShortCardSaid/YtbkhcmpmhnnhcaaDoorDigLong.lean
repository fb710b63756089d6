/-
  What a slice of texts that came in gives; the walk of the law DigestLong: it returns true for every text and int.
-/
import Derived.Test.YtbkhcmpmhnnhcaaDoorDigHead
import Derived.SliceStrings
set_option linter.unusedVariables false
namespace Go.Proofs.YtbkhcmpmhnnhcaaDoor
open Go.RowKit
/-- a slice of strings that came in -/
structure StrsOk (w : World) (v : Value) (ss : List ByteArray) : Prop where
  at_ : StrsAt w v ss
  len : ss.length ≤ maxLen
  sizes : ∀ s ∈ ss, s.size ≤ maxLen
theorem StrsOk.none {w : World} : StrsOk w (.slice .none 0 0) [] := ⟨.inl ⟨rfl, _, _, rfl⟩, by simp, by intro s h; cases h⟩
theorem StrsOk.some {w : World} {x : Addr} {len cap : Nat} {ss : List ByteArray} (hl : len ≤ cap) (hm : cap ≤ maxLen) (hz : ss.length = cap)
    (hc : ∀ i, i < ss.length → w.cell? (x.add i) = Option.some (.string (ss.getD i ByteArray.empty))) (hs : ∀ s ∈ ss, s.size ≤ maxLen) : StrsOk w (.slice (Option.some x) len cap) (ss.take len) := by
  have hlen : (ss.take len).length = len := by rw [List.length_take]; omega
  refine ⟨?_, by rw [hlen]; omega, fun s h => hs s (List.mem_of_mem_take h)⟩
  by_cases h0 : len = 0
  · subst h0
    exact .inl ⟨by simp, _, _, rfl⟩
  · obtain ⟨b, off, spot⟩ := x
    have hspot : spot = Option.none := by simpa [Addr.add] using World.cell?_spot (hc 0 (by omega))
    subst hspot
    refine .inr ⟨by omega, b, off, cap, by rw [hlen], fun j hj => ?_⟩
    have h := hc j (by omega)
    rw [show (⟨b, off, Option.none⟩ : Addr).add j = ⟨b, off + j, Option.none⟩ from by unfold Addr.add; split <;> simp_all] at h
    rw [h]
    have hj' : j < ss.length := by omega
    simp [List.getD, hj']
theorem StrsOk.below {w w' : World} {v : Value} {ss : List ByteArray} (h : StrsOk w v ss) (hb : Below w.heap.size w w') : StrsOk w' v ss := ⟨h.at_.below hb, h.len, h.sizes⟩
theorem i64_bounds {n : Int} (h : (Lit.int .i64 n).wf = true) : -9223372036854775808 ≤ n ∧ n ≤ 9223372036854775807 := by
  have := h
  simp [Lit.wf, IntKind.min, IntKind.max, IntKind.bits, IntKind.signed] at this
  omega
theorem u8_bounds {n : Int} (h : (Lit.int .u8 n).wf = true) : 0 ≤ n ∧ n ≤ 255 := by
  have := h
  simp [Lit.wf, IntKind.min, IntKind.max, IntKind.bits, IntKind.signed] at this
  omega
set_option maxHeartbeats 400000 in
theorem walkDigestLong (s : ByteArray) (n : Int) (w : World) (hs : s.size ≤ maxLen) (hn : (Lit.int .i64 n).wf = true) (ht : TabOk w) :
    Calls Tryd.prog 4 #[.string s, .int .i64 n] w fun e w' => e = .returned (.bool true) ∧ Below w.heap.size w w' := by
  obtain ⟨n0, n1⟩ := i64_bounds hn
  unfold maxLen at hs
  by_cases h1 : s.size ≤ 200
  · by_cases h2 : 1000 < n
    · go_enter Tryd.func4, Tryd.ntmps4
      go_wp2_with fail
      refine (head_any _ ht).mono ?_
      rintro e w1 ⟨rfl, hb1⟩
      go_wp2_with fail
      refine (chain_any _ _ _ (by omega) n0 n1).mono ?_
      rintro e w2 ⟨rfl, hb2⟩
      go_wp2_with fail
      refine (refchain_any _ _ _ (by omega) (by omega) (by omega)).mono ?_
      rintro e w3 ⟨rfl, rfl⟩
      have q := str_self (chB s (min n 1000).toNat)
      have q2 : (min (1000:Int) 1000).toNat = (min n 1000).toNat := by omega
      rw [q2]
      have Q := Lib.hid q2
      clear q2
      go_wp2_with fail
      go_ret
      exact ⟨rfl, hb1.trans (hb2.mono hb1.size)⟩
    · go_enter Tryd.func4, Tryd.ntmps4
      go_wp2_with fail
      refine (head_any _ ht).mono ?_
      rintro e w1 ⟨rfl, hb1⟩
      go_wp2_with fail
      go_ret
      exact ⟨rfl, hb1⟩
  · go_enter Tryd.func4, Tryd.ntmps4
    go_wp2_with fail
    refine (head_any _ ht).mono ?_
    rintro e w1 ⟨rfl, hb1⟩
    go_wp2_with fail
    go_ret
    exact ⟨rfl, hb1⟩
end Go.Proofs.YtbkhcmpmhnnhcaaDoor
