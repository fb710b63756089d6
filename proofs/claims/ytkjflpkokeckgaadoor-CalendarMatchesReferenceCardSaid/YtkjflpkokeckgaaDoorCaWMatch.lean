/-
  The law CalendarMatchesReference (layer 9): its walk.
-/
import Derived.Test.YtkjflpkokeckgaaDoorCaHead
set_option linter.unusedVariables false
set_option maxRecDepth 100000
namespace Go.Proofs.YtkjflpkokeckgaaDoor
open Go.RowKit
open Ca
set_option maxHeartbeats 4000000 in
theorem walkCalendarMatchesReference (n s m a : Int) (t : ByteArray) (w : World) (henv : Env w) (hn : -9223372036854775808 ≤ n ∧ n ≤ 9223372036854775807) (hs : -9223372036854775808 ≤ s ∧ s ≤ 9223372036854775807) (hm : -9223372036854775808 ≤ m ∧ m ≤ 9223372036854775807) (ha : -9223372036854775808 ≤ a ∧ a ≤ 9223372036854775807) (ht : t.size ≤ maxLen) :
    Calls Tryd.prog 3 #[.int .i64 n, .int .i64 s, .int .i64 m, .int .i64 a, .string t] w fun e w' => e = .returned (.bool true) ∧ Below w.heap.size w w' := by
  have HE := Lib.hid henv
  clear henv
  by_cases g1 : 20 < t.size
  · skip
    have D0 := Lib.hid (Below.refl w.heap.size w)
    go_enter Tryd.func3, Tryd.ntmps3
    go_wp2_with fail
    refine (head_any _ (HE.out.below D0.out)).mono ?_
    rintro e w1 ⟨rfl, hb⟩
    have D1 := Lib.hid (D0.out.trans (hb.mono D0.out.size))
    clear hb D0
    go_wp2_with fail
    go_ret
    exact ⟨rfl, D1.out⟩
  · have hts : t.size ≤ 1000000 := by omega
    have c1 : Hid (∀ w, Calls Tryd.prog 8 _ w _) := Lib.hid (fun w => pMoment_any n s (i64_of hn) (i64_of hs) w)
    have d1 : Hid (∀ w, Calls Tryd.prog 9 _ w _) := Lib.hid (fun w => refMoment_any n s w)
    have c2 : Hid (∀ w, Calls Tryd.prog 10 _ w _) := Lib.hid (fun w => pSplit_any m (i64_of hm) w)
    have d2 : Hid (∀ w, Calls Tryd.prog 11 _ w _) := Lib.hid (fun w => refSplit_any m w)
    have c3 : Hid (∀ w, Calls Tryd.prog 12 _ w _) := Lib.hid (fun w => pSidereal_any m (i64_of hm) w)
    have d3 : Hid (∀ w, Calls Tryd.prog 13 _ w _) := Lib.hid (fun w => refSid_any m w)
    have c4 : Hid (∀ w, Env w → Calls Tryd.prog 14 _ w _) := Lib.hid (fun w he => pText_any m (i64_of hm) w he)
    have d4 : Hid (∀ w, Calls Tryd.prog 15 _ w _) := Lib.hid (fun w => refText_any m w)
    have c5 : Hid (∀ w, Env w → Calls Tryd.prog 16 _ w _) := Lib.hid (fun w he => pParse_any t hts w he)
    have d5 : Hid (∀ w, Calls Tryd.prog 17 _ w _) := Lib.hid (fun w => refParse_any t w hts)
    have c6 : Hid (∀ w, Calls Tryd.prog 18 _ w _) := Lib.hid (fun w => pNext_any m a (i64_of hm) (i64_of ha) w)
    have d6 : Hid (∀ w, Calls Tryd.prog 19 _ w _) := Lib.hid (fun w => refNext_any m a w)
    unfold GivesS at c4 d4
    generalize (momA n s).1 = u1 at c1 d1
    generalize (momA n s).2 = v1 at c1 d1
    generalize (splA m).1 = u2 at c2 d2
    generalize (splA m).2.1 = u2b at c2 d2
    generalize (splA m).2.2 = v2 at c2 d2
    generalize (sidA m).1 = u3 at c3 d3
    generalize (sidA m).2 = v3 at c3 d3
    generalize ba (texA m).1 = u4 at c4 d4
    generalize (texA m).2 = v4 at c4 d4
    generalize (parA (bl t)).1 = u5 at c5 d5
    generalize (parA (bl t)).2 = v5 at c5 d5
    generalize (nexA m a).1 = u6 at c6 d6
    generalize (nexA m a).2 = v6 at c6 d6
    have D0 := Lib.hid (Below.refl w.heap.size w)
    go_enter Tryd.func3, Tryd.ntmps3
    go_wp2_with fail
    refine (head_any _ (HE.out.below D0.out)).mono ?_
    rintro e w1 ⟨rfl, hb⟩
    have D1 := Lib.hid (D0.out.trans (hb.mono D0.out.size))
    clear hb D0
    go_wp2_with fail
    refine (c1.out _).mono ?_
    rintro e w2 ⟨rfl, hb⟩
    have D2 := Lib.hid (D1.out.trans (hb.mono D1.out.size))
    clear hb D1
    go_wp2_with fail
    refine (d1.out _).mono ?_
    rintro e w3 ⟨rfl, hb⟩
    have D3 := Lib.hid (D2.out.trans (hb.mono D2.out.size))
    clear hb D2
    go_wp2_with fail
    refine (c2.out _).mono ?_
    rintro e w4 ⟨rfl, hb⟩
    have D4 := Lib.hid (D3.out.trans (hb.mono D3.out.size))
    clear hb D3
    go_wp2_with fail
    refine (d2.out _).mono ?_
    rintro e w5 ⟨rfl, hb⟩
    have D5 := Lib.hid (D4.out.trans (hb.mono D4.out.size))
    clear hb D4
    go_wp2_with fail
    refine (c3.out _).mono ?_
    rintro e w6 ⟨rfl, hb⟩
    have D6 := Lib.hid (D5.out.trans (hb.mono D5.out.size))
    clear hb D5
    go_wp2_with fail
    refine (d3.out _).mono ?_
    rintro e w7 ⟨rfl, hb⟩
    have D7 := Lib.hid (D6.out.trans (hb.mono D6.out.size))
    clear hb D6
    go_wp2_with fail
    refine (c4.out _ (HE.out.below D7.out)).mono ?_
    rintro e w8 ⟨rfl, hb⟩
    have D8 := Lib.hid (D7.out.trans (hb.mono D7.out.size))
    clear hb D7
    go_wp2_with fail
    refine (d4.out _).mono ?_
    rintro e w9 ⟨rfl, hb⟩
    have D9 := Lib.hid (D8.out.trans (hb.mono D8.out.size))
    clear hb D8
    go_wp2_with fail
    refine (c5.out _ (HE.out.below D9.out)).mono ?_
    rintro e w10 ⟨rfl, hb⟩
    have D10 := Lib.hid (D9.out.trans (hb.mono D9.out.size))
    clear hb D9
    go_wp2_with fail
    refine (d5.out _).mono ?_
    rintro e w11 ⟨rfl, hb⟩
    have D11 := Lib.hid (D10.out.trans (hb.mono D10.out.size))
    clear hb D10
    go_wp2_with fail
    refine (c6.out _).mono ?_
    rintro e w12 ⟨rfl, hb⟩
    have D12 := Lib.hid (D11.out.trans (hb.mono D11.out.size))
    clear hb D11
    go_wp2_with fail
    refine (d6.out _).mono ?_
    rintro e w13 ⟨rfl, hb⟩
    have D13 := Lib.hid (D12.out.trans (hb.mono D12.out.size))
    clear hb D12
    go_wp2_with fail
    go_ret
    exact ⟨rfl, D13.out⟩
end Go.Proofs.YtkjflpkokeckgaaDoor
