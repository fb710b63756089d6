/-
  The law AirmassAngles (layer 11): its walk.
-/
import Derived.Test.YtebkifhdbpeeoaaAmHead
set_option linter.unusedVariables false
set_option maxRecDepth 100000
namespace Go.Proofs.Ytebkifhdbpeeoaa
open Go.RowKit
open Ca (sid sid_lt sid_slot sid_night)
open Am
theorem heiA_same (s t : Int) {m n : Nat} (hm : m < 38400) (hn : n < 38400) (h : sid m = sid n) : heiA s t (m : Int) = heiA s t (n : Int) := by
  unfold heiA ht
  rw [isM_nat hm, isM_nat hn]
  simp [h]
set_option maxHeartbeats 4000000 in
theorem walkAirmassAngles (s t m n : Int) (w : World) (hs : -9223372036854775808 ≤ s ∧ s ≤ 9223372036854775807) (ht : -9223372036854775808 ≤ t ∧ t ≤ 9223372036854775807) (hm : -9223372036854775808 ≤ m ∧ m ≤ 9223372036854775807) (hn : -9223372036854775808 ≤ n ∧ n ≤ 9223372036854775807) :
    Calls Try.prog 6 #[.int .i64 s, .int .i64 t, .int .i64 m, .int .i64 n] w fun e w' => e = .returned (.bool true) ∧ Below w.heap.size w w' := by
  have c1 := Lib.hid (fun w => pSidereal_any m (i64_of hm) w)
  have c2 := Lib.hid (fun w => pSidereal_any n (i64_of hn) w)
  have d1 := Lib.hid (fun w => pHeight_any s t m (i64_of hs) (i64_of ht) (i64_of hm) w)
  have d2 := Lib.hid (fun w => pHeight_any s t n (i64_of hs) (i64_of ht) (i64_of hn) w)
  cases hM : isM m with
  | false =>
    have e1 : sidA m = (0, 1) := by unfold sidA; rw [hM]; rfl
    rw [e1] at c1
    generalize (sidA n).1 = u at c2
    generalize (sidA n).2 = v at c2
    clear hs ht hm hn hM e1
    have D0 := Lib.hid (Below.refl w.heap.size w)
    go_enter Try.func6, Try.ntmps6
    go_wp2_with fail
    refine (head_any _).mono ?_
    rintro e w1 ⟨rfl, hb⟩
    have D1 := Lib.hid (D0.out.trans (hb.mono D0.out.size))
    clear hb D0
    go_wp2_with fail
    refine (c1.out _).mono ?_
    rintro e w2 ⟨rfl, hb⟩
    have D2 := Lib.hid (D1.out.trans (hb.mono D1.out.size))
    clear hb D1
    go_wp2_with fail
    refine (c2.out _).mono ?_
    rintro e w3 ⟨rfl, hb⟩
    have D3 := Lib.hid (D2.out.trans (hb.mono D2.out.size))
    clear hb D2
    go_wp2_with fail
    go_ret
    exact ⟨rfl, D3.out⟩
  | true =>
    obtain ⟨p, rfl, hp⟩ := isM_yes hM
    rw [sidA_ok hp] at c1
    cases hN : isM n with
    | false =>
      have e1 : sidA n = (0, 1) := by unfold sidA; rw [hN]; rfl
      rw [e1] at c2
      generalize sid p = u at c1
      clear hs ht hm hn hM hN e1
      have D0 := Lib.hid (Below.refl w.heap.size w)
      go_enter Try.func6, Try.ntmps6
      go_wp2_with fail
      refine (head_any _).mono ?_
      rintro e w1 ⟨rfl, hb⟩
      have D1 := Lib.hid (D0.out.trans (hb.mono D0.out.size))
      clear hb D0
      go_wp2_with fail
      refine (c1.out _).mono ?_
      rintro e w2 ⟨rfl, hb⟩
      have D2 := Lib.hid (D1.out.trans (hb.mono D1.out.size))
      clear hb D1
      go_wp2_with fail
      refine (c2.out _).mono ?_
      rintro e w3 ⟨rfl, hb⟩
      have D3 := Lib.hid (D2.out.trans (hb.mono D2.out.size))
      clear hb D2
      go_wp2_with fail
      go_ret
      exact ⟨rfl, D3.out⟩
    | true =>
      obtain ⟨q, rfl, hq⟩ := isM_yes hN
      rw [sidA_ok hq] at c2
      by_cases hpq : sid p = sid q
      · rw [heiA_same s t hp hq hpq] at d1
        rw [hpq] at c1
        generalize sid q = u at c1 c2
        generalize (heiA s t (q : Int)).1 = x at d1 d2
        generalize (heiA s t (q : Int)).2 = y at d1 d2
        clear hs ht hm hn hM hN hpq
        have D0 := Lib.hid (Below.refl w.heap.size w)
        go_enter Try.func6, Try.ntmps6
        go_wp2_with fail
        refine (head_any _).mono ?_
        rintro e w1 ⟨rfl, hb⟩
        have D1 := Lib.hid (D0.out.trans (hb.mono D0.out.size))
        clear hb D0
        go_wp2_with fail
        refine (c1.out _).mono ?_
        rintro e w2 ⟨rfl, hb⟩
        have D2 := Lib.hid (D1.out.trans (hb.mono D1.out.size))
        clear hb D1
        go_wp2_with fail
        refine (c2.out _).mono ?_
        rintro e w3 ⟨rfl, hb⟩
        have D3 := Lib.hid (D2.out.trans (hb.mono D2.out.size))
        clear hb D2
        go_wp2_with fail
        refine (d1.out _).mono ?_
        rintro e w4 ⟨rfl, hb⟩
        have D4 := Lib.hid (D3.out.trans (hb.mono D3.out.size))
        clear hb D3
        go_wp2_with fail
        refine (d2.out _).mono ?_
        rintro e w5 ⟨rfl, hb⟩
        have D5 := Lib.hid (D4.out.trans (hb.mono D4.out.size))
        clear hb D4
        go_wp2_with fail
        go_ret
        exact ⟨rfl, D5.out⟩
      · have e1 : ((sid p : Nat) : Int) ≠ ((sid q : Nat) : Int) := by omega
        generalize sid p = u at c1 hpq e1
        generalize sid q = v at c2 hpq e1
        have e2 : ((u : Int) != (v : Int)) = true := by rw [bne_iff_ne]; exact e1
        clear hs ht hm hn hM hN
        have D0 := Lib.hid (Below.refl w.heap.size w)
        go_enter Try.func6, Try.ntmps6
        go_wp2_with fail
        refine (head_any _).mono ?_
        rintro e w1 ⟨rfl, hb⟩
        have D1 := Lib.hid (D0.out.trans (hb.mono D0.out.size))
        clear hb D0
        go_wp2_with fail
        refine (c1.out _).mono ?_
        rintro e w2 ⟨rfl, hb⟩
        have D2 := Lib.hid (D1.out.trans (hb.mono D1.out.size))
        clear hb D1
        go_wp2_with fail
        refine (c2.out _).mono ?_
        rintro e w3 ⟨rfl, hb⟩
        have D3 := Lib.hid (D2.out.trans (hb.mono D2.out.size))
        clear hb D2
        go_wp2_with fail
        go_ret
        exact ⟨rfl, D3.out⟩
end Go.Proofs.Ytebkifhdbpeeoaa
