/-
  Interpolating the points of a polynomial (FieldInterpolates, P6.5).
-/
import Derived.Test.YtalhcfffnggpjaaFdHead
set_option linter.unusedVariables false
set_option maxRecDepth 100000
namespace Go.Proofs.Ytalhcfffnggpjaa
open Go.RowKit
open Fdp
theorem inter_poly {l xs : List Int} (hl : l.length ≤ xs.length) (hm : 1 ≤ xs.length ∧ xs.length ≤ 16) (hp : allE xs = true) (hd : diffX xs = true) {x : Int} (hx : El x) : interE (xs.map fun u => (u, evF u l)) x = (evF x l, 0) := by
  have e : Xs (xs.map fun u => (u, evF u l)) = xs := by unfold Xs; rw [List.map_map]; exact List.map_id' xs
  have h1 : pairsE (xs.map fun u => (u, evF u l)) = true := pairsE_iff.2 fun q hq => by
    obtain ⟨u, hu, rfl⟩ := List.mem_map.1 hq
    exact ⟨allE_iff.1 hp u hu, evF_range _ _⟩
  have h2 : diffX (Xs (xs.map fun u => (u, evF u l))) = true := by rw [e]; exact hd
  rw [interE_ok (by simpa using hm) h1 (okE_iff.2 hx) h2, inter_of h1 h2 l (by simpa using hl) (fun q hq => by
    obtain ⟨u, hu, rfl⟩ := List.mem_map.1 hq
    exact (evF_E u l).symm)]
set_option maxHeartbeats 4000000 in
theorem walkFieldInterpolates (vp : Value) (l : List Int) (vq : Value) (q : List Int) (x : Int) (w : World) (hp : IntsOk w vp l) (hq : IntsOk w vq q) (hx64 : -9223372036854775808 ≤ x ∧ x ≤ 9223372036854775807) :
    Calls Try.prog 7 #[vp, vq, .int .i64 x] w fun e w' => e = .returned (.bool true) ∧ Below w.heap.size w w' := by
  clear hx64
  obtain ⟨pa, cp, rfl, hpa1, hpa2, hpa3, hpa4⟩ := hp.form
  obtain ⟨n, hnpa⟩ : ∃ n, n = l.length := ⟨_, rfl⟩
  rw [← hnpa] at hpa1 hpa4 ⊢
  have HA := Lib.hid hpa4
  have HAc := Lib.hid hpa1
  have HAm := Lib.hid hpa2
  have HA0 := Lib.hid hpa3
  have HAn := Lib.hid hnpa
  have hpa5 : n ≤ 9223372036854775807 := by unfold maxLen at hpa2; omega
  clear hpa1 hpa2 hpa3 hpa4 hnpa
  obtain ⟨qa, cq, rfl, hqa1, hqa2, hqa3, hqa4⟩ := hq.form
  obtain ⟨m, hnqa⟩ : ∃ n, n = q.length := ⟨_, rfl⟩
  rw [← hnqa] at hqa1 hqa4 ⊢
  have HB := Lib.hid hqa4
  have HBc := Lib.hid hqa1
  have HBm := Lib.hid hqa2
  have HB0 := Lib.hid hqa3
  have HBn := Lib.hid hnqa
  have hqa5 : m ≤ 9223372036854775807 := by unfold maxLen at hqa2; omega
  clear hqa1 hqa2 hqa3 hqa4 hnqa
  clear hp hq
  by_cases g1 : m < 1
  · have g1b : m ≤ 16 := by omega
    have D0 := Lib.hid (Below.refl w.heap.size w)
    go_enter Try.func7, Try.ntmps7
    go_wp2_with fail
    refine (head_any _).mono ?_
    rintro e w1 ⟨rfl, hb⟩
    have D1 := Lib.hid (D0.out.trans (hb.mono D0.out.size))
    clear hb D0
    go_wp2_with fail
    go_ret
    exact ⟨rfl, D1.out⟩
  · have g1' : 1 ≤ m := by omega
    by_cases g2 : 16 < m
    · skip
      have D0 := Lib.hid (Below.refl w.heap.size w)
      go_enter Try.func7, Try.ntmps7
      go_wp2_with fail
      refine (head_any _).mono ?_
      rintro e w1 ⟨rfl, hb⟩
      have D1 := Lib.hid (D0.out.trans (hb.mono D0.out.size))
      clear hb D0
      go_wp2_with fail
      go_ret
      exact ⟨rfl, D1.out⟩
    · have g2' : m ≤ 16 := by omega
      by_cases g3 : m < n
      · have c1 : decide (m < n) = true := decide_eq_true g3
        have D0 := Lib.hid (Below.refl w.heap.size w)
        go_enter Try.func7, Try.ntmps7
        go_wp2_with fail
        refine (head_any _).mono ?_
        rintro e w1 ⟨rfl, hb⟩
        have D1 := Lib.hid (D0.out.trans (hb.mono D0.out.size))
        clear hb D0
        go_wp2_with fail
        go_ret
        exact ⟨rfl, D1.out⟩
      · have g3' : n ≤ m := by omega
        have c1 : decide (m < n) = false := decide_eq_false g3
        have hn6 : Hid (n ≤ maxLen) := Lib.hid (max_small (by omega))
        have hm6 : Hid (m ≤ maxLen) := Lib.hid (max_small (by omega))
        have hm7 : Hid (m ≤ 1000000) := Lib.hid (by omega)
        cases h1 : allE l with
        | false =>
          have H1 := Lib.hid h1
          clear h1
          have D0 := Lib.hid (Below.refl w.heap.size w)
          go_enter Try.func7, Try.ntmps7
          go_wp2_with fail
          refine (head_any _).mono ?_
          rintro e w1 ⟨rfl, hb⟩
          have D1 := Lib.hid (D0.out.trans (hb.mono D0.out.size))
          clear hb D0
          go_wp2_with fail
          refine (lin_no _ _ _ l _ (HA.out.bel D1.out) hn6.out H1.out).mono ?_
          rintro e w' ⟨rfl, rfl⟩
          go_wp2_with fail
          go_ret
          exact ⟨rfl, D1.out⟩
        | true =>
          have H1 := Lib.hid h1
          clear h1
          cases h2 : allE q with
          | false =>
            have H2 := Lib.hid h2
            clear h2
            have D0 := Lib.hid (Below.refl w.heap.size w)
            go_enter Try.func7, Try.ntmps7
            go_wp2_with fail
            refine (head_any _).mono ?_
            rintro e w1 ⟨rfl, hb⟩
            have D1 := Lib.hid (D0.out.trans (hb.mono D0.out.size))
            clear hb D0
            go_wp2_with fail
            refine (lin_yes _ _ _ l _ (HA.out.bel D1.out) hn6.out H1.out).mono ?_
            rintro e w' ⟨rfl, rfl⟩
            go_wp2_with fail
            refine (lin_no _ _ _ q _ (HB.out.bel D1.out) hm6.out H2.out).mono ?_
            rintro e w' ⟨rfl, rfl⟩
            go_wp2_with fail
            go_ret
            exact ⟨rfl, D1.out⟩
          | true =>
            have H2 := Lib.hid h2
            clear h2
            cases h3 : allE [x] with
            | false =>
              have H3 := Lib.hid h3
              clear h3
              have D0 := Lib.hid (Below.refl w.heap.size w)
              go_enter Try.func7, Try.ntmps7
              go_wp2_with fail
              refine (head_any _).mono ?_
              rintro e w1 ⟨rfl, hb⟩
              have D1 := Lib.hid (D0.out.trans (hb.mono D0.out.size))
              clear hb D0
              go_wp2_with fail
              refine (lin_yes _ _ _ l _ (HA.out.bel D1.out) hn6.out H1.out).mono ?_
              rintro e w' ⟨rfl, rfl⟩
              go_wp2_with fail
              refine (lin_yes _ _ _ q _ (HB.out.bel D1.out) hm6.out H2.out).mono ?_
              rintro e w' ⟨rfl, rfl⟩
              go_wp2_with fail
              have D2 := Lib.hid (D1.out.alloc D1.out.size (Obj.cells #[Value.int .i64 x] 3))
              clear D1
              refine (lin_no _ _ _ [x] _ (ints_one _ _ (by simp)) (max_small (by decide)) H3.out).mono ?_
              rintro e w' ⟨rfl, rfl⟩
              go_wp2_with fail
              go_ret
              exact ⟨rfl, D2.out⟩
            | true =>
              have H3 := Lib.hid h3
              clear h3
              cases h4 : diffX q with
              | false =>
                have H4 := Lib.hid h4
                clear h4
                have D0 := Lib.hid (Below.refl w.heap.size w)
                go_enter Try.func7, Try.ntmps7
                go_wp2_with fail
                refine (head_any _).mono ?_
                rintro e w1 ⟨rfl, hb⟩
                have D1 := Lib.hid (D0.out.trans (hb.mono D0.out.size))
                clear hb D0
                go_wp2_with fail
                refine (lin_yes _ _ _ l _ (HA.out.bel D1.out) hn6.out H1.out).mono ?_
                rintro e w' ⟨rfl, rfl⟩
                go_wp2_with fail
                refine (lin_yes _ _ _ q _ (HB.out.bel D1.out) hm6.out H2.out).mono ?_
                rintro e w' ⟨rfl, rfl⟩
                go_wp2_with fail
                have D2 := Lib.hid (D1.out.alloc D1.out.size (Obj.cells #[Value.int .i64 x] 3))
                clear D1
                refine (lin_yes _ _ _ [x] _ (ints_one _ _ (by simp)) (max_small (by decide)) H3.out).mono ?_
                rintro e w' ⟨rfl, rfl⟩
                go_wp2_with fail
                refine (ldiff_no _ _ _ q _ (HB.out.bel D2.out) hm7.out H4.out).mono ?_
                rintro e w3 ⟨rfl, hb⟩
                have D3 := Lib.hid (D2.out.trans (hb.mono D2.out.size))
                clear hb D2
                go_wp2_with fail
                go_ret
                exact ⟨rfl, D3.out⟩
              | true =>
                have H4 := Lib.hid h4
                clear h4
                have hx : El x := allE_iff.1 H3.out x (by simp)
                have HX := Lib.hid hx
                have hip := Lib.hid (inter_poly (l := l) (xs := q) (by rw [← HAn.out, ← HBn.out]; exact g3') (by rw [← HBn.out]; exact ⟨g1', g2'⟩) H2.out H4.out hx)
                obtain ⟨V, hV⟩ : ∃ v, v = evF x l := ⟨_, rfl⟩
                rw [← hV] at hip
                have cE : Hid (∀ w, IntsAt w pa n l → Calls Try.prog 17 #[.slice pa n cp, .int .i64 x] w fun e w' => e = .returned (.tuple #[.int .i64 V, .int .i64 0]) ∧ Below w.heap.size w w') := Lib.hid (fun w h => by rw [hV]; exact fEval_ok pa n cp l x w h (by omega) H1.out HX.out)
                have cI : Hid (∀ w a c, PtsAt w a m (q.map fun u => (u, evF u l)) → m ≤ c → c ≤ maxLen → Calls Try.prog 19 #[.slice a m c, .int .i64 x] w fun e w' => e = .returned (.tuple #[.int .i64 V, .int .i64 0]) ∧ Below w.heap.size w w') := Lib.hid (fun w a c h h1 h2 => by
                  have := fInter_any a m c _ x w h h1 h2
                  rw [hip.out] at this
                  exact this)
                have hmm : Hid (m = (q.map fun u => (u, evF u l)).length) := Lib.hid (by rw [List.length_map]; exact HBn.out)
                clear hx hV
                have D0 := Lib.hid (Below.refl w.heap.size w)
                go_enter Try.func7, Try.ntmps7
                go_wp2_with fail
                refine (head_any _).mono ?_
                rintro e w1 ⟨rfl, hb⟩
                have D1 := Lib.hid (D0.out.trans (hb.mono D0.out.size))
                clear hb D0
                go_wp2_with fail
                refine (lin_yes _ _ _ l _ (HA.out.bel D1.out) hn6.out H1.out).mono ?_
                rintro e w' ⟨rfl, rfl⟩
                go_wp2_with fail
                refine (lin_yes _ _ _ q _ (HB.out.bel D1.out) hm6.out H2.out).mono ?_
                rintro e w' ⟨rfl, rfl⟩
                go_wp2_with fail
                have D2 := Lib.hid (D1.out.alloc D1.out.size (Obj.cells #[Value.int .i64 x] 3))
                clear D1
                refine (lin_yes _ _ _ [x] _ (ints_one _ _ (by simp)) (max_small (by decide)) H3.out).mono ?_
                rintro e w' ⟨rfl, rfl⟩
                go_wp2_with fail
                refine (ldiff_yes _ _ _ q _ (HB.out.bel D2.out) hm7.out H4.out).mono ?_
                rintro e w3 ⟨rfl, hb⟩
                have D3 := Lib.hid (D2.out.trans (hb.mono D2.out.size))
                clear hb D2
                go_wp2_with fail
                refine (lpoints_any _ _ _ _ _ _ l q _ (HA.out.bel D3.out) (HB.out.bel D3.out) (by omega) g2' H1.out H2.out).mono ?_
                rintro e w4 ⟨v, rfl, hO, hb⟩
                obtain ⟨a2, c2, rfl, j1, j2, j3⟩ := hO.at2 hmm.out
                have J1 := Lib.hid j1
                have J2 := Lib.hid j2
                have J3 := Lib.hid j3
                have D4 := Lib.hid (D3.out.trans (hb.mono D3.out.size))
                have Z := Lib.hid (Below.refl w4.heap.size w4)
                clear hb hO j1 j2 j3 D3
                go_wp2_with fail
                refine (cE.out _ (HA.out.bel D4.out)).mono ?_
                rintro e w5 ⟨rfl, hb⟩
                have D5 := Lib.hid (D4.out.trans (hb.mono D4.out.size))
                have J4 := Lib.hid (J3.out.bel hb)
                clear hb D4 J3 Z
                go_wp2_with fail
                refine (cI.out _ _ _ J4.out J1.out J2.out).mono ?_
                rintro e w6 ⟨rfl, hb⟩
                have D6 := Lib.hid (D5.out.trans (hb.mono D5.out.size))
                clear hb D5
                go_wp2_with fail
                go_ret
                exact ⟨rfl, D6.out⟩
end Go.Proofs.Ytalhcfffnggpjaa
