/-
  The walk of NaturalLimits.
-/
import Derived.Test.YtfkdhkbegfbkaaaDoorNatWMatch
set_option linter.unusedVariables false
set_option maxRecDepth 100000
namespace Go.Proofs.YtfkdhkbegfbkaaaDoor
open Go.RowKit
theorem txt_lit1 (w : World) (a : ByteArray) : TxtAt (w.alloc (Obj.cells #[Value.string a] 22)) (.slice (some ⟨w.heap.size, 0, none⟩) 1 1) [a] :=
  ⟨by simp, _, _, _, rfl, by
    intro j hj
    match j, hj with
    | 0, _ => simp⟩
theorem few_lit1 (w : World) (a : ByteArray) (ha : a.size ≤ maxLen) :
    Calls Tryd.prog 12 #[.slice (some ⟨w.heap.size, 0, none⟩) 1 1] (w.alloc (Obj.cells #[Value.string a] 22)) fun e w' => e = .returned (.bool (few80 [a])) ∧ Below w.heap.size w w' := by
  refine (few03_any _ [a] _ (txt_lit1 w a) (by simp [maxLen]) (by intro s h; simp only [List.mem_cons, List.not_mem_nil, or_false] at h; subst h; assumption)).mono ?_
  rintro e w' ⟨rfl, rfl⟩
  exact ⟨rfl, below_lit w _⟩
set_option maxRecDepth 100000 in
set_option maxHeartbeats 4000000 in
theorem walkLim1 (a b : ByteArray) (w : World) (henv : Env w) (ha : a.size ≤ maxLen) (hb : b.size ≤ maxLen) (fa : few80 [a] = false) :
    Calls Tryd.prog 4 #[.string a, .string b] w fun e w' => e = .returned (.bool true) ∧ Below w.heap.size w w' := by
  have HENV := Lib.hid henv
  clear henv
  have HA := Lib.hid ha
  have HB := Lib.hid hb
  have FA := Lib.hid fa
  clear fa
  have D0 : Below w.heap.size w w := Below.refl _ _
  clear ha hb
  go_enter Tryd.func4, Tryd.ntmps4
  go_wp2_with fail
  refine (head_any _ HENV.out).mono ?_
  rintro e w1 ⟨rfl, hb⟩
  have D1 := D0.trans (hb.mono D0.size)
  clear hb D0
  go_wp2_with fail
  refine (few_lit1 _ a HA.out).mono ?_
  rintro e w2 ⟨rfl, hb⟩
  have D2 := D1.trans (hb.mono D1.size)
  clear hb D1
  simp only [FA.out]
  go_wp2_with fail
  go_ret
  exact ⟨rfl, D2⟩
set_option maxRecDepth 100000 in
set_option maxHeartbeats 4000000 in
theorem walkLim2 (a b : ByteArray) (w : World) (henv : Env w) (ha : a.size ≤ maxLen) (hb : b.size ≤ maxLen) (fa : few80 [a] = true) (fb : few80 [b] = true) :
    Calls Tryd.prog 4 #[.string a, .string b] w fun e w' => e = .returned (.bool true) ∧ Below w.heap.size w w' := by
  have HENV := Lib.hid henv
  clear henv
  have HA := Lib.hid ha
  have HB := Lib.hid hb
  have FA := Lib.hid fa
  clear fa
  have FB := Lib.hid fb
  clear fb
  have D0 : Below w.heap.size w w := Below.refl _ _
  clear ha hb
  go_enter Tryd.func4, Tryd.ntmps4
  go_wp2_with fail
  refine (head_any _ HENV.out).mono ?_
  rintro e w1 ⟨rfl, hb⟩
  have D1 := D0.trans (hb.mono D0.size)
  clear hb D0
  go_wp2_with fail
  refine (few_lit1 _ a HA.out).mono ?_
  rintro e w2 ⟨rfl, hb⟩
  have D2 := D1.trans (hb.mono D1.size)
  clear hb D1
  simp only [FA.out]
  go_wp2_with fail
  refine (few_lit1 _ b HB.out).mono ?_
  rintro e w3 ⟨rfl, hb⟩
  have D3 := D2.trans (hb.mono D2.size)
  clear hb D2
  simp only [FB.out]
  go_wp2_with fail
  refine (pAdd_any a b _).mono ?_
  rintro e w4 ⟨rfl, hb⟩
  have D4 := D3.trans (hb.mono D3.size)
  clear hb D3
  go_wp2_with fail
  refine (refAdd_any a b _).mono ?_
  rintro e w5 ⟨rfl, hb⟩
  have D5 := D4.trans (hb.mono D4.size)
  clear hb D4
  go_wp2_with fail
  refine (pSub_any b a _).mono ?_
  rintro e w6 ⟨rfl, hb⟩
  have D6 := D5.trans (hb.mono D5.size)
  clear hb D5
  go_wp2_with fail
  refine (refSub_any b a _).mono ?_
  rintro e w7 ⟨rfl, hb⟩
  have D7 := D6.trans (hb.mono D6.size)
  clear hb D6
  go_wp2_with fail
  refine (pMul_any a b _).mono ?_
  rintro e w8 ⟨rfl, hb⟩
  have D8 := D7.trans (hb.mono D7.size)
  clear hb D7
  go_wp2_with fail
  refine (refMul_any a b _).mono ?_
  rintro e w9 ⟨rfl, hb⟩
  have D9 := D8.trans (hb.mono D8.size)
  clear hb D8
  go_wp2_with fail
  refine (pAdd_any b b _).mono ?_
  rintro e w10 ⟨rfl, hb⟩
  have D10 := D9.trans (hb.mono D9.size)
  clear hb D9
  go_wp2_with fail
  refine (refAdd_any b b _).mono ?_
  rintro e w11 ⟨rfl, hb⟩
  have D11 := D10.trans (hb.mono D10.size)
  clear hb D10
  go_wp2_with fail
  refine (pCompare_any a b _).mono ?_
  rintro e w12 ⟨rfl, n12, hw⟩
  have D12 : Below w.heap.size w w12 := by rw [hw]; exact D11.trans ((nat_dn _ n12).mono D11.size)
  clear hw D11
  go_wp2_with fail
  refine (refCompare_any a b _).mono ?_
  rintro e wz ⟨rfl, rfl⟩
  go_wp2_with fail
  go_ret
  exact ⟨by simp, D12⟩
set_option maxRecDepth 100000 in
set_option maxHeartbeats 4000000 in
theorem walkLim3 (a b : ByteArray) (w : World) (henv : Env w) (ha : a.size ≤ maxLen) (hb : b.size ≤ maxLen) (fa : few80 [a] = true) (fb : few80 [b] = false) (c1 : b.size < 900) :
    Calls Tryd.prog 4 #[.string a, .string b] w fun e w' => e = .returned (.bool true) ∧ Below w.heap.size w w' := by
  have HENV := Lib.hid henv
  clear henv
  have HA := Lib.hid ha
  have HB := Lib.hid hb
  have t1 : decide (b.size < 900) = true := decide_eq_true c1
  have FA := Lib.hid fa
  clear fa
  have FB := Lib.hid fb
  clear fb
  have D0 : Below w.heap.size w w := Below.refl _ _
  clear ha hb
  go_enter Tryd.func4, Tryd.ntmps4
  go_wp2_with fail
  refine (head_any _ HENV.out).mono ?_
  rintro e w1 ⟨rfl, hb⟩
  have D1 := D0.trans (hb.mono D0.size)
  clear hb D0
  go_wp2_with fail
  refine (few_lit1 _ a HA.out).mono ?_
  rintro e w2 ⟨rfl, hb⟩
  have D2 := D1.trans (hb.mono D1.size)
  clear hb D1
  simp only [FA.out]
  go_wp2_with fail
  refine (few_lit1 _ b HB.out).mono ?_
  rintro e w3 ⟨rfl, hb⟩
  have D3 := D2.trans (hb.mono D2.size)
  clear hb D2
  simp only [FB.out]
  go_wp2_with fail
  go_ret
  exact ⟨rfl, D3⟩
set_option maxRecDepth 100000 in
set_option maxHeartbeats 4000000 in
theorem walkLim4 (a b : ByteArray) (w : World) (henv : Env w) (ha : a.size ≤ maxLen) (hb : b.size ≤ maxLen) (fa : few80 [a] = true) (fb : few80 [b] = false) (c1 : ¬ b.size < 900) (c2 : 1010 < b.size) :
    Calls Tryd.prog 4 #[.string a, .string b] w fun e w' => e = .returned (.bool true) ∧ Below w.heap.size w w' := by
  have HENV := Lib.hid henv
  clear henv
  have HA := Lib.hid ha
  have HB := Lib.hid hb
  have t1 : decide (b.size < 900) = false := decide_eq_false c1
  have t2 : decide (1010 < b.size) = true := decide_eq_true c2
  have FA := Lib.hid fa
  clear fa
  have FB := Lib.hid fb
  clear fb
  have D0 : Below w.heap.size w w := Below.refl _ _
  clear ha hb
  go_enter Tryd.func4, Tryd.ntmps4
  go_wp2_with fail
  refine (head_any _ HENV.out).mono ?_
  rintro e w1 ⟨rfl, hb⟩
  have D1 := D0.trans (hb.mono D0.size)
  clear hb D0
  go_wp2_with fail
  refine (few_lit1 _ a HA.out).mono ?_
  rintro e w2 ⟨rfl, hb⟩
  have D2 := D1.trans (hb.mono D1.size)
  clear hb D1
  simp only [FA.out]
  go_wp2_with fail
  refine (few_lit1 _ b HB.out).mono ?_
  rintro e w3 ⟨rfl, hb⟩
  have D3 := D2.trans (hb.mono D2.size)
  clear hb D2
  simp only [FB.out]
  go_wp2_with fail
  go_ret
  exact ⟨rfl, D3⟩
set_option maxRecDepth 100000 in
set_option maxHeartbeats 4000000 in
theorem walkLim5 (a b : ByteArray) (w : World) (henv : Env w) (ha : a.size ≤ maxLen) (hb : b.size ≤ maxLen) (fa : few80 [a] = true) (fb : few80 [b] = false) (c1 : ¬ b.size < 900) (c2 : ¬ 1010 < b.size) :
    Calls Tryd.prog 4 #[.string a, .string b] w fun e w' => e = .returned (.bool true) ∧ Below w.heap.size w w' := by
  have HENV := Lib.hid henv
  clear henv
  have HA := Lib.hid ha
  have HB := Lib.hid hb
  have t1 : decide (b.size < 900) = false := decide_eq_false c1
  have t2 : decide (1010 < b.size) = false := decide_eq_false c2
  have FA := Lib.hid fa
  clear fa
  have FB := Lib.hid fb
  clear fb
  have D0 : Below w.heap.size w w := Below.refl _ _
  clear ha hb
  go_enter Tryd.func4, Tryd.ntmps4
  go_wp2_with fail
  refine (head_any _ HENV.out).mono ?_
  rintro e w1 ⟨rfl, hb⟩
  have D1 := D0.trans (hb.mono D0.size)
  clear hb D0
  go_wp2_with fail
  refine (few_lit1 _ a HA.out).mono ?_
  rintro e w2 ⟨rfl, hb⟩
  have D2 := D1.trans (hb.mono D1.size)
  clear hb D1
  simp only [FA.out]
  go_wp2_with fail
  refine (few_lit1 _ b HB.out).mono ?_
  rintro e w3 ⟨rfl, hb⟩
  have D3 := D2.trans (hb.mono D2.size)
  clear hb D2
  simp only [FB.out]
  go_wp2_with fail
  refine (pAdd_any a b _).mono ?_
  rintro e w4 ⟨rfl, hb⟩
  have D4 := D3.trans (hb.mono D3.size)
  clear hb D3
  go_wp2_with fail
  refine (refAdd_any a b _).mono ?_
  rintro e w5 ⟨rfl, hb⟩
  have D5 := D4.trans (hb.mono D4.size)
  clear hb D4
  go_wp2_with fail
  refine (pSub_any b a _).mono ?_
  rintro e w6 ⟨rfl, hb⟩
  have D6 := D5.trans (hb.mono D5.size)
  clear hb D5
  go_wp2_with fail
  refine (refSub_any b a _).mono ?_
  rintro e w7 ⟨rfl, hb⟩
  have D7 := D6.trans (hb.mono D6.size)
  clear hb D6
  go_wp2_with fail
  refine (pMul_any a b _).mono ?_
  rintro e w8 ⟨rfl, hb⟩
  have D8 := D7.trans (hb.mono D7.size)
  clear hb D7
  go_wp2_with fail
  refine (refMul_any a b _).mono ?_
  rintro e w9 ⟨rfl, hb⟩
  have D9 := D8.trans (hb.mono D8.size)
  clear hb D8
  go_wp2_with fail
  refine (pAdd_any b b _).mono ?_
  rintro e w10 ⟨rfl, hb⟩
  have D10 := D9.trans (hb.mono D9.size)
  clear hb D9
  go_wp2_with fail
  refine (refAdd_any b b _).mono ?_
  rintro e w11 ⟨rfl, hb⟩
  have D11 := D10.trans (hb.mono D10.size)
  clear hb D10
  go_wp2_with fail
  refine (pCompare_any a b _).mono ?_
  rintro e w12 ⟨rfl, n12, hw⟩
  have D12 : Below w.heap.size w w12 := by rw [hw]; exact D11.trans ((nat_dn _ n12).mono D11.size)
  clear hw D11
  go_wp2_with fail
  refine (refCompare_any a b _).mono ?_
  rintro e wz ⟨rfl, rfl⟩
  go_wp2_with fail
  go_ret
  exact ⟨by simp, D12⟩
theorem walkNaturalLimits (a b : ByteArray) (w : World) (henv : Env w) (ha : a.size ≤ maxLen) (hb : b.size ≤ maxLen) :
    Calls Tryd.prog 4 #[.string a, .string b] w fun e w' => e = .returned (.bool true) ∧ Below w.heap.size w w' := by
  cases fa : few80 [a] with
  | false => exact walkLim1 a b w henv ha hb fa
  | true =>
    cases fb : few80 [b] with
    | true => exact walkLim2 a b w henv ha hb fa fb
    | false =>
      by_cases c1 : b.size < 900
      · exact walkLim3 a b w henv ha hb fa fb c1
      · by_cases c2 : 1010 < b.size
        · exact walkLim4 a b w henv ha hb fa fb c1 c2
        · exact walkLim5 a b w henv ha hb fa fb c1 c2
end Go.Proofs.YtfkdhkbegfbkaaaDoor
