/-
  The law AirmassMatchesReference (layer 11): its walk.
-/
import Derived.Test.YtebkifhdbpeeoaaAmHead
set_option linter.unusedVariables false
set_option maxRecDepth 100000
namespace Go.Proofs.Ytebkifhdbpeeoaa
open Go.RowKit
open Ca (sid sid_lt sid_slot sid_night)
open Am
set_option maxHeartbeats 4000000 in
theorem walkAirmassMatchesReference (c m s t h n l : Int) (w : World) (hc : -9223372036854775808 ≤ c ∧ c ≤ 9223372036854775807) (hm : -9223372036854775808 ≤ m ∧ m ≤ 9223372036854775807) (hs : -9223372036854775808 ≤ s ∧ s ≤ 9223372036854775807) (ht : -9223372036854775808 ≤ t ∧ t ≤ 9223372036854775807) (hh : -9223372036854775808 ≤ h ∧ h ≤ 9223372036854775807) (hn : -9223372036854775808 ≤ n ∧ n ≤ 9223372036854775807) (hl : -9223372036854775808 ≤ l ∧ l ≤ 9223372036854775807) :
    Calls Try.prog 3 #[.int .i64 c, .int .i64 m, .int .i64 s, .int .i64 t, .int .i64 h, .int .i64 n, .int .i64 l] w fun e w' => e = .returned (.bool true) ∧ Below w.heap.size w w' := by
  have c1 : Hid (∀ w, Calls Try.prog 11 _ w _) := Lib.hid (fun w => pHour_any c m (i64_of hc) (i64_of hm) w)
  have d1 : Hid (∀ w, Calls Try.prog 12 _ w _) := Lib.hid (fun w => refHour_any c m w)
  have c2 : Hid (∀ w, Calls Try.prog 13 _ w _) := Lib.hid (fun w => pHeight_any s t m (i64_of hs) (i64_of ht) (i64_of hm) w)
  have d2 : Hid (∀ w, Calls Try.prog 14 _ w _) := Lib.hid (fun w => refHeight_any s t m w)
  have c3 : Hid (∀ w, Calls Try.prog 15 _ w _) := Lib.hid (fun w => pAirmass_any h (i64_of hh) w)
  have d3 : Hid (∀ w, Calls Try.prog 16 _ w _) := Lib.hid (fun w => refAirmass_any h w)
  have c4 : Hid (∀ w, Calls Try.prog 17 _ w _) := Lib.hid (fun w => pWindows_any s t n l (i64_of hs) (i64_of ht) (i64_of hn) (i64_of hl) w)
  have d4 : Hid (∀ w, Calls Try.prog 18 _ w _) := Lib.hid (fun w => refWindows_any s t n l w)
  have hmax : Hid ((winA s t n l).1.length ≤ 1000000) := Lib.hid (Nat.le_trans (winA_len s t n l) (by decide))
  generalize (horA c m).1 = u1 at c1 d1
  generalize (horA c m).2 = v1 at c1 d1
  generalize (heiA s t m).1 = u2 at c2 d2
  generalize (heiA s t m).2 = v2 at c2 d2
  generalize (airA h).1 = u3 at c3 d3
  generalize (airA h).2 = v3 at c3 d3
  generalize (winA s t n l).1 = u4 at c4 d4 hmax
  generalize (winA s t n l).2 = v4 at c4 d4
  clear hc hm hs ht hh hn hl
  have D0 := Lib.hid (Below.refl w.heap.size w)
  go_enter Try.func3, Try.ntmps3
  go_wp2_with fail
  refine (head_any _).mono ?_
  rintro e w1 ⟨rfl, hb⟩
  have D1 := Lib.hid (D0.out.trans (hb.mono D0.out.size))
  clear hb D0
  go_wp2_with fail
  refine (c1.out _).mono ?_
  rintro e w2 ⟨rfl, hb⟩
  have D2 := Lib.hid (D1.out.trans (hb.mono D1.out.size))
  clear hb D1
  go_wp2_with fail
  refine (d1.out _).mono ?_
  rintro e w3 ⟨rfl, hb⟩
  have D3 := Lib.hid (D2.out.trans (hb.mono D2.out.size))
  clear hb D2
  go_wp2_with fail
  refine (c2.out _).mono ?_
  rintro e w4 ⟨rfl, hb⟩
  have D4 := Lib.hid (D3.out.trans (hb.mono D3.out.size))
  clear hb D3
  go_wp2_with fail
  refine (d2.out _).mono ?_
  rintro e w5 ⟨rfl, hb⟩
  have D5 := Lib.hid (D4.out.trans (hb.mono D4.out.size))
  clear hb D4
  go_wp2_with fail
  refine (c3.out _).mono ?_
  rintro e w6 ⟨rfl, hb⟩
  have D6 := Lib.hid (D5.out.trans (hb.mono D5.out.size))
  clear hb D5
  go_wp2_with fail
  refine (d3.out _).mono ?_
  rintro e w7 ⟨rfl, hb⟩
  have D7 := Lib.hid (D6.out.trans (hb.mono D6.out.size))
  clear hb D6
  go_wp2_with fail
  refine (c4.out _).mono ?_
  rintro e w8 ⟨x, rfl, hl, hb⟩
  have D8 := Lib.hid (D7.out.trans (hb.mono D7.out.size))
  clear hb D7
  have Lx_8 := Lib.hid hl
  clear hl
  go_wp2_with fail
  refine (d4.out _).mono ?_
  rintro e w9 ⟨y, rfl, hl, hb⟩
  have D9 := Lib.hid (D8.out.trans (hb.mono D8.out.size))
  have Lx_9 := Lib.hid (Lx_8.out.bel hb)
  clear hb D8 Lx_8
  have Ly_9 := Lib.hid hl
  clear hl
  go_wp2_with fail
  have hI := refSpans_same x y u4 _ Lx_9.out Ly_9.out hmax.out
  refine hI.mono ?_
  rintro e w10 ⟨rfl, hb⟩
  have D10 := Lib.hid (D9.out.trans (hb.mono D9.out.size))
  have Lx_10 := Lib.hid (Lx_9.out.bel hb)
  have Ly_10 := Lib.hid (Ly_9.out.bel hb)
  clear hb D9 Lx_9 Ly_9
  go_wp2_with fail
  go_ret
  exact ⟨rfl, D10.out⟩
end Go.Proofs.Ytebkifhdbpeeoaa
