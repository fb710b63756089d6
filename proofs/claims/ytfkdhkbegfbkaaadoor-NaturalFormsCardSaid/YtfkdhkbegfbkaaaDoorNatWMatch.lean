/-
  The walk of NaturalMatchesReference.
-/
import Derived.Test.YtfkdhkbegfbkaaaDoorNatHead
set_option linter.unusedVariables false
set_option maxRecDepth 100000
namespace Go.Proofs.YtfkdhkbegfbkaaaDoor
open Go.RowKit
theorem txt_lit2 (w : World) (a b : ByteArray) : TxtAt (w.alloc (Obj.cells #[Value.string a, Value.string b] 22)) (.slice (some ⟨w.heap.size, 0, none⟩) 2 2) [a, b] :=
  ⟨by simp, _, _, _, rfl, by
    intro j hj
    match j, hj with
    | 0, _ => simp
    | 1, _ => simp⟩
theorem few_lit2 (w : World) (a b : ByteArray) (ha : a.size ≤ maxLen) (hb : b.size ≤ maxLen) :
    Calls Tryd.prog 12 #[.slice (some ⟨w.heap.size, 0, none⟩) 2 2] (w.alloc (Obj.cells #[Value.string a, Value.string b] 22)) fun e w' => e = .returned (.bool (few80 [a, b])) ∧ Below w.heap.size w w' := by
  refine (few03_any _ [a, b] _ (txt_lit2 w a b) (by simp [maxLen]) (by intro s h; simp only [List.mem_cons, List.not_mem_nil, or_false] at h; rcases h with rfl | rfl <;> assumption)).mono ?_
  rintro e w' ⟨rfl, rfl⟩
  exact ⟨rfl, below_lit w _⟩
set_option maxRecDepth 100000 in
set_option maxHeartbeats 4000000 in
theorem walkNaturalMatchesReference (a b : ByteArray) (n : Int) (w : World) (henv : Env w) (ha : a.size ≤ maxLen) (hb : b.size ≤ maxLen) (hn : n ≤ 9223372036854775807) :
    Calls Tryd.prog 3 #[.string a, .string b, .int .i64 n] w fun e w' => e = .returned (.bool true) ∧ Below w.heap.size w w' := by
  have HENV := Lib.hid henv
  clear henv
  have HA := Lib.hid ha
  have HB := Lib.hid hb
  have D0 : Below w.heap.size w w := Below.refl _ _
  clear ha hb
  go_enter Tryd.func3, Tryd.ntmps3
  go_wp2_with fail
  refine (head_any _ HENV.out).mono ?_
  rintro e w1 ⟨rfl, hb⟩
  have D1 := D0.trans (hb.mono D0.size)
  clear hb D0
  go_wp2_with fail
  refine (few_lit2 _ a b HA.out HB.out).mono ?_
  rintro e w2 ⟨rfl, hb⟩
  have D2 := D1.trans (hb.mono D1.size)
  clear hb D1
  by_cases hf : few80 [a, b] = true
  · rw [hf]
    go_wp2_with fail
    refine (pAdd_any a b _).mono ?_
    rintro e w3 ⟨rfl, hb⟩
    have D3 := D2.trans (hb.mono D2.size)
    clear hb D2
    go_wp2_with fail
    refine (refAdd_any a b _).mono ?_
    rintro e w4 ⟨rfl, hb⟩
    have D4 := D3.trans (hb.mono D3.size)
    clear hb D3
    go_wp2_with fail
    refine (pSub_any a b _).mono ?_
    rintro e w5 ⟨rfl, hb⟩
    have D5 := D4.trans (hb.mono D4.size)
    clear hb D4
    go_wp2_with fail
    refine (refSub_any a b _).mono ?_
    rintro e w6 ⟨rfl, hb⟩
    have D6 := D5.trans (hb.mono D5.size)
    clear hb D5
    go_wp2_with fail
    refine (pMul_any a b _).mono ?_
    rintro e w7 ⟨rfl, hb⟩
    have D7 := D6.trans (hb.mono D6.size)
    clear hb D6
    go_wp2_with fail
    refine (refMul_any a b _).mono ?_
    rintro e w8 ⟨rfl, hb⟩
    have D8 := D7.trans (hb.mono D7.size)
    clear hb D7
    go_wp2_with fail
    refine (pDiv_any a b _).mono ?_
    rintro e w9 ⟨rfl, hb⟩
    have D9 := D8.trans (hb.mono D8.size)
    clear hb D8
    go_wp2_with fail
    refine (refDiv_any a b _).mono ?_
    rintro e w10 ⟨rfl, hb⟩
    have D10 := D9.trans (hb.mono D9.size)
    clear hb D9
    go_wp2_with fail
    refine (pGcd_any a b _).mono ?_
    rintro e w11 ⟨rfl, hb⟩
    have D11 := D10.trans (hb.mono D10.size)
    clear hb D10
    go_wp2_with fail
    refine (refGcd_any a b _).mono ?_
    rintro e w12 ⟨rfl, hb⟩
    have D12 := D11.trans (hb.mono D11.size)
    clear hb D11
    go_wp2_with fail
    refine (pOf_any n _ hn (HENV.out.below D12)).mono ?_
    rintro e w13 ⟨rfl, hb⟩
    have D13 := D12.trans (hb.mono D12.size)
    clear hb D12
    go_wp2_with fail
    refine (refOf_any n _ hn).mono ?_
    rintro e w14 ⟨rfl, hb⟩
    have D14 := D13.trans (hb.mono D13.size)
    clear hb D13
    go_wp2_with fail
    refine (pInt_any a _ (HENV.out.below D14)).mono ?_
    rintro e w15 ⟨rfl, hb⟩
    have D15 := D14.trans (hb.mono D14.size)
    clear hb D14
    go_wp2_with fail
    refine (refInt_any a _).mono ?_
    rintro e wz ⟨rfl, rfl⟩
    go_wp2_with fail
    refine (pValid_any a _).mono ?_
    rintro e w16 ⟨rfl, n16, hw⟩
    have D16 : Below w.heap.size w w16 := by rw [hw]; exact D15.trans ((nat_dn _ n16).mono D15.size)
    clear hw D15
    go_wp2_with fail
    refine (refvalid_any a _).mono ?_
    rintro e wz ⟨rfl, rfl⟩
    go_wp2_with fail
    refine (pCompare_any a b _).mono ?_
    rintro e w17 ⟨rfl, n17, hw⟩
    have D17 : Below w.heap.size w w17 := by rw [hw]; exact D16.trans ((nat_dn _ n17).mono D16.size)
    clear hw D16
    go_wp2_with fail
    refine (refCompare_any a b _).mono ?_
    rintro e wz ⟨rfl, rfl⟩
    go_wp2_with fail
    go_ret
    exact ⟨by simp, D17⟩
  · rw [Bool.eq_false_iff.2 hf]
    go_wp2_with fail
    go_ret
    exact ⟨rfl, D2⟩
end Go.Proofs.YtfkdhkbegfbkaaaDoor
