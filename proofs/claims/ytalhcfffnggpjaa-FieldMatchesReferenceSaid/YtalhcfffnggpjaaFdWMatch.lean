/-
  The program's answers are the document's own (FieldMatchesReference, P6.1).
-/
import Derived.Test.YtalhcfffnggpjaaFdHead
set_option linter.unusedVariables false
set_option maxRecDepth 100000
namespace Go.Proofs.Ytalhcfffnggpjaa
open Go.RowKit
open Fdp
set_option maxHeartbeats 4000000 in
theorem walkFieldMatchesReference (a b : Int) (vp : Value) (l : List Int) (vq : Value) (q : List (Int × Int)) (x : Int) (w : World) (ha64 : -9223372036854775808 ≤ a ∧ a ≤ 9223372036854775807) (hb64 : -9223372036854775808 ≤ b ∧ b ≤ 9223372036854775807) (hp : IntsOk w vp l) (hq : PtsOk w vq q) (hx64 : -9223372036854775808 ≤ x ∧ x ≤ 9223372036854775807) :
    Calls Try.prog 3 #[.int .i64 a, .int .i64 b, vp, vq, .int .i64 x] w fun e w' => e = .returned (.bool true) ∧ Below w.heap.size w w' := by
  clear ha64 hb64 hx64
  obtain ⟨pa, cp, rfl, hpa1, hpa2, hpa3, hpa4⟩ := hp.form
  obtain ⟨n, hnpa⟩ : ∃ n, n = l.length := ⟨_, rfl⟩
  rw [← hnpa] at hpa1 hpa4 ⊢
  have HA := Lib.hid hpa4
  have HAc := Lib.hid hpa1
  have HAm := Lib.hid hpa2
  have HA0 := Lib.hid hpa3
  have HAn := Lib.hid hnpa
  have hpa5 : n ≤ 9223372036854775807 := by unfold maxLen at hpa2; omega
  clear hpa1 hpa2 hpa3 hpa4 hnpa
  obtain ⟨qa, cq, rfl, hqa1, hqa2, hqa3, hqa4⟩ := hq.form
  obtain ⟨m, hnqa⟩ : ∃ n, n = q.length := ⟨_, rfl⟩
  rw [← hnqa] at hqa1 hqa4 ⊢
  have HB := Lib.hid hqa4
  have HBc := Lib.hid hqa1
  have HBm := Lib.hid hqa2
  have HB0 := Lib.hid hqa3
  have HBn := Lib.hid hnqa
  have hqa5 : m ≤ 9223372036854775807 := by unfold maxLen at hqa2; omega
  clear hqa1 hqa2 hqa3 hqa4 hnqa
  clear hp hq
  by_cases g1 : 30 < n
  · skip
    have D0 := Lib.hid (Below.refl w.heap.size w)
    go_enter Try.func3, Try.ntmps3
    go_wp2_with fail
    refine (head_any _).mono ?_
    rintro e w1 ⟨rfl, hb⟩
    have D1 := Lib.hid (D0.out.trans (hb.mono D0.out.size))
    clear hb D0
    go_wp2_with fail
    go_ret
    exact ⟨rfl, D1.out⟩
  · have g1' : n ≤ 30 := by omega
    by_cases g2 : 30 < m
    · skip
      have D0 := Lib.hid (Below.refl w.heap.size w)
      go_enter Try.func3, Try.ntmps3
      go_wp2_with fail
      refine (head_any _).mono ?_
      rintro e w1 ⟨rfl, hb⟩
      have D1 := Lib.hid (D0.out.trans (hb.mono D0.out.size))
      clear hb D0
      go_wp2_with fail
      go_ret
      exact ⟨rfl, D1.out⟩
    · have g2' : m ≤ 30 := by omega
      have hn6 : Hid (n ≤ maxLen) := Lib.hid (max_small (by omega))
      have hm6 : Hid (m ≤ maxLen) := Lib.hid (max_small (by omega))
      obtain ⟨r1s, r1e, r1h⟩ : ∃ s e, addE a b = (s, e) := ⟨_, _, rfl⟩
      obtain ⟨r2s, r2e, r2h⟩ : ∃ s e, mulE a b = (s, e) := ⟨_, _, rfl⟩
      obtain ⟨r3s, r3e, r3h⟩ : ∃ s e, invE a = (s, e) := ⟨_, _, rfl⟩
      obtain ⟨r4s, r4e, r4h⟩ : ∃ s e, evalE l x = (s, e) := ⟨_, _, rfl⟩
      obtain ⟨r5s, r5e, r5h⟩ : ∃ s e, interE q x = (s, e) := ⟨_, _, rfl⟩
      have c1 : Hid (∀ w, Calls Try.prog 11 #[.int .i64 a, .int .i64 b] w fun e w' => e = .returned (.tuple #[.int .i64 r1s, .int .i64 r1e]) ∧ Below w.heap.size w w') := Lib.hid (fun w => by
        have := fAdd_any a b w
        rw [r1h] at this
        exact this)
      have d1 : Hid (∀ w, Calls Try.prog 12 #[.int .i64 a, .int .i64 b] w fun e w' => e = .returned (.tuple #[.int .i64 r1s, .int .i64 r1e]) ∧ Below w.heap.size w w') := Lib.hid (fun w => by
        have := refAdd_any a b w
        rw [r1h] at this
        exact this)
      have c2 : Hid (∀ w, Calls Try.prog 13 #[.int .i64 a, .int .i64 b] w fun e w' => e = .returned (.tuple #[.int .i64 r2s, .int .i64 r2e]) ∧ Below w.heap.size w w') := Lib.hid (fun w => by
        have := fMul_any a b w
        rw [r2h] at this
        exact this)
      have d2 : Hid (∀ w, Calls Try.prog 14 #[.int .i64 a, .int .i64 b] w fun e w' => e = .returned (.tuple #[.int .i64 r2s, .int .i64 r2e]) ∧ Below w.heap.size w w') := Lib.hid (fun w => by
        have := refMul_any a b w
        rw [r2h] at this
        exact this)
      have c3 : Hid (∀ w, Calls Try.prog 15 #[.int .i64 a] w fun e w' => e = .returned (.tuple #[.int .i64 r3s, .int .i64 r3e]) ∧ Below w.heap.size w w') := Lib.hid (fun w => by
        have := fInverse_any a w
        rw [r3h] at this
        exact this)
      have d3 : Hid (∀ w, Calls Try.prog 16 #[.int .i64 a] w fun e w' => e = .returned (.tuple #[.int .i64 r3s, .int .i64 r3e]) ∧ Below w.heap.size w w') := Lib.hid (fun w => by
        have := refInverse_any a w
        rw [r3h] at this
        exact this)
      have c4 : Hid (∀ w, IntsAt w pa n l → Calls Try.prog 17 #[.slice pa n cp, .int .i64 x] w fun e w' => e = .returned (.tuple #[.int .i64 r4s, .int .i64 r4e]) ∧ Below w.heap.size w w') := Lib.hid (fun w h => by
        have := fEval_any pa n cp l x w h hn6.out
        rw [r4h] at this
        exact this)
      have d4 : Hid (∀ w, IntsAt w pa n l → Calls Try.prog 18 #[.slice pa n cp, .int .i64 x] w fun e w' => e = .returned (.tuple #[.int .i64 r4s, .int .i64 r4e]) ∧ Below w.heap.size w w') := Lib.hid (fun w h => by
        have := refEval_any pa n cp l x w h hn6.out
        rw [r4h] at this
        exact this)
      have c5 : Hid (∀ w, PtsAt w qa m q → Calls Try.prog 19 #[.slice qa m cq, .int .i64 x] w fun e w' => e = .returned (.tuple #[.int .i64 r5s, .int .i64 r5e]) ∧ Below w.heap.size w w') := Lib.hid (fun w h => by
        have := fInter_any qa m cq q x w h HBc.out HBm.out
        rw [r5h] at this
        exact this)
      have d5 : Hid (∀ w, PtsAt w qa m q → Calls Try.prog 20 #[.slice qa m cq, .int .i64 x] w fun e w' => e = .returned (.tuple #[.int .i64 r5s, .int .i64 r5e]) ∧ Below w.heap.size w w') := Lib.hid (fun w h => by
        have := refInter_any qa m cq q x w h hm6.out
        rw [r5h] at this
        exact this)
      clear r1h r2h r3h r4h r5h
      have D0 := Lib.hid (Below.refl w.heap.size w)
      go_enter Try.func3, Try.ntmps3
      go_wp2_with fail
      refine (head_any _).mono ?_
      rintro e w1 ⟨rfl, hb⟩
      have D1 := Lib.hid (D0.out.trans (hb.mono D0.out.size))
      clear hb D0
      go_wp2_with fail
      refine (c1.out _).mono ?_
      rintro e w2 ⟨rfl, hb⟩
      have D2 := Lib.hid (D1.out.trans (hb.mono D1.out.size))
      clear hb D1
      go_wp2_with fail
      refine (d1.out _).mono ?_
      rintro e w3 ⟨rfl, hb⟩
      have D3 := Lib.hid (D2.out.trans (hb.mono D2.out.size))
      clear hb D2
      go_wp2_with fail
      refine (c2.out _).mono ?_
      rintro e w4 ⟨rfl, hb⟩
      have D4 := Lib.hid (D3.out.trans (hb.mono D3.out.size))
      clear hb D3
      go_wp2_with fail
      refine (d2.out _).mono ?_
      rintro e w5 ⟨rfl, hb⟩
      have D5 := Lib.hid (D4.out.trans (hb.mono D4.out.size))
      clear hb D4
      go_wp2_with fail
      refine (c3.out _).mono ?_
      rintro e w6 ⟨rfl, hb⟩
      have D6 := Lib.hid (D5.out.trans (hb.mono D5.out.size))
      clear hb D5
      go_wp2_with fail
      refine (d3.out _).mono ?_
      rintro e w7 ⟨rfl, hb⟩
      have D7 := Lib.hid (D6.out.trans (hb.mono D6.out.size))
      clear hb D6
      go_wp2_with fail
      refine (c4.out _ (HA.out.bel D7.out)).mono ?_
      rintro e w8 ⟨rfl, hb⟩
      have D8 := Lib.hid (D7.out.trans (hb.mono D7.out.size))
      clear hb D7
      go_wp2_with fail
      refine (d4.out _ (HA.out.bel D8.out)).mono ?_
      rintro e w9 ⟨rfl, hb⟩
      have D9 := Lib.hid (D8.out.trans (hb.mono D8.out.size))
      clear hb D8
      go_wp2_with fail
      refine (c5.out _ (HB.out.bel D9.out)).mono ?_
      rintro e w10 ⟨rfl, hb⟩
      have D10 := Lib.hid (D9.out.trans (hb.mono D9.out.size))
      clear hb D9
      go_wp2_with fail
      refine (d5.out _ (HB.out.bel D10.out)).mono ?_
      rintro e w11 ⟨rfl, hb⟩
      have D11 := Lib.hid (D10.out.trans (hb.mono D10.out.size))
      clear hb D10
      go_wp2_with fail
      go_ret
      exact ⟨rfl, D11.out⟩
end Go.Proofs.Ytalhcfffnggpjaa
