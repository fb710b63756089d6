/-
  Sums and multiples of polynomials (FieldValues, P6.4).
-/
import Derived.Test.YtalhcfffnggpjaaFdHead
import Derived.Test.YtalhcfffnggpjaaFdOwnI
set_option linter.unusedVariables false
set_option maxRecDepth 100000
namespace Go.Proofs.Ytalhcfffnggpjaa
open Go.RowKit
open Fdp
theorem sums_len {a b : List Int} (h : a.length = b.length) : (sums a b).length = a.length := by simp [sums]; omega
theorem mores_len {f : Int} {a : List Int} : (mores f a).length = a.length := by simp [mores]
theorem sums_next {a b : List Int} {k : Nat} (ha : k < a.length) (hb : k < b.length) {p q : Int} (hp : p = a[k]) (hq : q = b[k]) : (sums a b).take (k + 1) = (sums a b).take k ++ [sumF p q] := by
  have hl : k < (sums a b).length := by simp [sums]; omega
  rw [List.take_succ_eq_append_getElem hl]
  simp [sums, hp, hq]
theorem mores_next {f : Int} {a : List Int} {k : Nat} (ha : k < a.length) {p : Int} (hp : p = a[k]) : (mores f a).take (k + 1) = (mores f a).take k ++ [mulF f p] := by
  have hl : k < (mores f a).length := by simp [mores]; omega
  rw [List.take_succ_eq_append_getElem hl]
  simp [mores, hp]
theorem below_app3 {g : Nat} {w0 w w' : World} (hb : Below w0.heap.size w0 w) (hg : w.grownBy w' (Value.ownBlock (.slice (some ⟨g, 0, none⟩) 0 0))) (hB : w0.heap.size ≤ g) : Below w0.heap.size w0 w' :=
  hb.grown hg hb.size (fun k hk => by simp [Value.ownBlock] at hk; omega)
theorem fEval_val (a : Option Addr) (n cap : Nat) (l : List Int) (y V : Int) (w : World) (h : IntsAt w a n l) (hn : n ≤ 16) (hp : allE l = true) (hy : El y) (hV : V = evF y l) :
    Calls Try.prog 17 #[.slice a n cap, .int .i64 y] w fun e w' => e = .returned (.tuple #[.int .i64 V, .int .i64 0]) ∧ Below w.heap.size w w' := by
  rw [hV]; exact fEval_ok a n cap l y w h hn hp hy
set_option maxHeartbeats 4000000 in
theorem walkFieldValues (vp : Value) (l : List Int) (vq : Value) (q : List Int) (x f : Int) (w : World) (hp : IntsOk w vp l) (hq : IntsOk w vq q) (hx64 : -9223372036854775808 ≤ x ∧ x ≤ 9223372036854775807) (hf64 : -9223372036854775808 ≤ f ∧ f ≤ 9223372036854775807) :
    Calls Try.prog 6 #[vp, vq, .int .i64 x, .int .i64 f] w fun e w' => e = .returned (.bool true) ∧ Below w.heap.size w w' := by
  clear hx64 hf64
  obtain ⟨pa, cp, rfl, hpa1, hpa2, hpa3, hpa4⟩ := hp.form
  obtain ⟨n, hnpa⟩ : ∃ n, n = l.length := ⟨_, rfl⟩
  rw [← hnpa] at hpa1 hpa4 ⊢
  have HA := Lib.hid hpa4
  have HAc := Lib.hid hpa1
  have HAm := Lib.hid hpa2
  have HA0 := Lib.hid hpa3
  have HAn := Lib.hid hnpa
  have hpa5 : n ≤ 9223372036854775807 := by unfold maxLen at hpa2; omega
  clear hpa1 hpa2 hpa3 hpa4 hnpa
  obtain ⟨qa, cq, rfl, hqa1, hqa2, hqa3, hqa4⟩ := hq.form
  obtain ⟨m, hnqa⟩ : ∃ n, n = q.length := ⟨_, rfl⟩
  rw [← hnqa] at hqa1 hqa4 ⊢
  have HB := Lib.hid hqa4
  have HBc := Lib.hid hqa1
  have HBm := Lib.hid hqa2
  have HB0 := Lib.hid hqa3
  have HBn := Lib.hid hnqa
  have hqa5 : m ≤ 9223372036854775807 := by unfold maxLen at hqa2; omega
  clear hqa1 hqa2 hqa3 hqa4 hnqa
  clear hp hq
  by_cases g1 : n = m
  · obtain rfl : n = m := g1
    by_cases g2 : 15 < n
    · skip
      have D0 := Lib.hid (Below.refl w.heap.size w)
      go_enter Try.func6, Try.ntmps6
      go_wp2_with fail
      refine (head_any _).mono ?_
      rintro e w1 ⟨rfl, hb⟩
      have D1 := Lib.hid (D0.out.trans (hb.mono D0.out.size))
      clear hb D0
      go_wp2_with fail
      go_ret
      exact ⟨rfl, D1.out⟩
    · have g2' : n ≤ 15 := by omega
      have hn6 : Hid (n ≤ maxLen) := Lib.hid (max_small (by omega))
      cases h1 : allE l with
      | false =>
        have H1 := Lib.hid h1
        clear h1
        have D0 := Lib.hid (Below.refl w.heap.size w)
        go_enter Try.func6, Try.ntmps6
        go_wp2_with fail
        refine (head_any _).mono ?_
        rintro e w1 ⟨rfl, hb⟩
        have D1 := Lib.hid (D0.out.trans (hb.mono D0.out.size))
        clear hb D0
        go_wp2_with fail
        refine (lin_no _ _ _ l _ (HA.out.bel D1.out) hn6.out H1.out).mono ?_
        rintro e w' ⟨rfl, rfl⟩
        go_wp2_with fail
        go_ret
        exact ⟨rfl, D1.out⟩
      | true =>
        have H1 := Lib.hid h1
        clear h1
        cases h2 : allE q with
        | false =>
          have H2 := Lib.hid h2
          clear h2
          have D0 := Lib.hid (Below.refl w.heap.size w)
          go_enter Try.func6, Try.ntmps6
          go_wp2_with fail
          refine (head_any _).mono ?_
          rintro e w1 ⟨rfl, hb⟩
          have D1 := Lib.hid (D0.out.trans (hb.mono D0.out.size))
          clear hb D0
          go_wp2_with fail
          refine (lin_yes _ _ _ l _ (HA.out.bel D1.out) hn6.out H1.out).mono ?_
          rintro e w' ⟨rfl, rfl⟩
          go_wp2_with fail
          refine (lin_no _ _ _ q _ (HB.out.bel D1.out) hn6.out H2.out).mono ?_
          rintro e w' ⟨rfl, rfl⟩
          go_wp2_with fail
          go_ret
          exact ⟨rfl, D1.out⟩
        | true =>
          have H2 := Lib.hid h2
          clear h2
          cases h3 : allE [x, f] with
          | false =>
            have H3 := Lib.hid h3
            clear h3
            have D0 := Lib.hid (Below.refl w.heap.size w)
            go_enter Try.func6, Try.ntmps6
            go_wp2_with fail
            refine (head_any _).mono ?_
            rintro e w1 ⟨rfl, hb⟩
            have D1 := Lib.hid (D0.out.trans (hb.mono D0.out.size))
            clear hb D0
            go_wp2_with fail
            refine (lin_yes _ _ _ l _ (HA.out.bel D1.out) hn6.out H1.out).mono ?_
            rintro e w' ⟨rfl, rfl⟩
            go_wp2_with fail
            refine (lin_yes _ _ _ q _ (HB.out.bel D1.out) hn6.out H2.out).mono ?_
            rintro e w' ⟨rfl, rfl⟩
            go_wp2_with fail
            have D2 := Lib.hid (D1.out.alloc D1.out.size (Obj.cells #[Value.int .i64 x, Value.int .i64 f] 3))
            clear D1
            refine (lin_no _ _ _ [x, f] _ (ints_two _ _ _ (by simp)) (max_small (by decide)) H3.out).mono ?_
            rintro e w' ⟨rfl, rfl⟩
            go_wp2_with fail
            go_ret
            exact ⟨rfl, D2.out⟩
          | true =>
            have H3 := Lib.hid h3
            clear h3
            have hx : El x := allE_iff.1 H3.out x (by simp)
            have hf : El f := allE_iff.1 H3.out f (by simp)
            have HXE := Lib.hid hx
            have HFE := Lib.hid hf
            clear hx hf
            have D0 := Lib.hid (Below.refl w.heap.size w)
            go_enter Try.func6, Try.ntmps6
            go_wp2_with fail
            refine (head_any _).mono ?_
            rintro e w1 ⟨rfl, hb⟩
            have D1 := Lib.hid (D0.out.trans (hb.mono D0.out.size))
            clear hb D0
            go_wp2_with fail
            refine (lin_yes _ _ _ l _ (HA.out.bel D1.out) hn6.out H1.out).mono ?_
            rintro e w' ⟨rfl, rfl⟩
            go_wp2_with fail
            refine (lin_yes _ _ _ q _ (HB.out.bel D1.out) hn6.out H2.out).mono ?_
            rintro e w' ⟨rfl, rfl⟩
            go_wp2_with fail
            have D2 := Lib.hid (D1.out.alloc D1.out.size (Obj.cells #[Value.int .i64 x, Value.int .i64 f] 3))
            clear D1
            refine (lin_yes _ _ _ [x, f] _ (ints_two _ _ _ (by simp)) (max_small (by decide)) H3.out).mono ?_
            rintro e w' ⟨rfl, rfl⟩
            go_wp2_with fail
            have hT0 : Hid (Two w.heap.size _ (.slice none 0 0) (.slice none 0 0) ((sums l q).take 0) ((mores f l).take 0)) := Lib.hid (Two.nil _ (w1.alloc (Obj.cells #[Value.int .i64 x, Value.int .i64 f] 3)))
            go_loopw [10, 11, 12] (fun s mm ii wr => ∃ k : Nat, k ≤ n ∧ ii = .int .i64 (k : Int) ∧ Hid (Two w.heap.size wr s mm ((sums l q).take k) ((mores f l).take k)) ∧ Hid (Below w.heap.size w wr)) (fun _ _ ii _ => n - (intOf ii).toNat)
            case atStart => exact ⟨0, by omega, rfl, hT0, D2⟩
            case round =>
              clear hT0 D2
              obtain ⟨k, hk, rfl, hT, hD⟩ := hrel
              by_cases hlt : k < n
              · have hkl : k < l.length := by rw [← HAn.out]; exact hlt
                have hkq : k < q.length := by rw [← HBn.out]; exact hlt
                obtain ⟨ba, oa, rfl, -⟩ := HA.out.cells (by omega)
                obtain ⟨bb, ob, rfl, -⟩ := HB.out.cells (by omega)
                obtain ⟨p, hp⟩ : ∃ p, p = l[k] := ⟨_, rfl⟩
                obtain ⟨r, hr⟩ : ∃ r, r = q[k] := ⟨_, rfl⟩
                have hca := (HA.out.bel hD.out).cell hkl
                have hcb := (HB.out.bel hD.out).cell hkq
                rw [← hp] at hca
                rw [← hr] at hcb
                have hpE : El p := by rw [hp]; exact allE_iff.1 H1.out _ (List.getElem_mem _)
                have hrE : El r := by rw [hr]; exact allE_iff.1 H2.out _ (List.getElem_mem _)
                obtain ⟨S, hS⟩ : ∃ S, S = (sums l q).take k := ⟨_, rfl⟩
                obtain ⟨M, hM⟩ : ∃ M, M = (mores f l).take k := ⟨_, rfl⟩
                have HSN : Hid ((sums l q).take (k + 1) = S ++ [sumF p r]) := Lib.hid (by rw [hS]; exact sums_next hkl hkq hp hr)
                have HMN : Hid ((mores f l).take (k + 1) = M ++ [mulF f p]) := Lib.hid (by rw [hM]; exact mores_next hkl hp)
                have hSl : Hid (S.length + 1 ≤ 1000000) := Lib.hid (by rw [hS]; simp; omega)
                have hMl : Hid (M.length + 1 ≤ 1000000) := Lib.hid (by rw [hM]; simp; omega)
                rw [← hS, ← hM] at hT
                have cA : Hid (∀ w, Calls Try.prog 22 #[.int .i64 p, .int .i64 r] w fun e w' => e = .returned (.int .i64 (sumF p r)) ∧ Below w.heap.size w w') := Lib.hid (fun w => ladd_ok _ _ w hpE hrE)
                have cM : Hid (∀ w, Calls Try.prog 23 #[.int .i64 f, .int .i64 p] w fun e w' => e = .returned (.int .i64 (mulF f p)) ∧ Below w.heap.size w w') := Lib.hid (fun w => lmul_ok _ _ w HFE.out hpE)
                have HPP := Lib.hid hp
                have b1 : (0 : Int) ≤ (k : Int) := by omega
                have b2 : (k : Int) < (n : Int) := by omega
                have HTd : Hid (Two w.heap.size wr.drew u10 u11 S M) := Lib.hid (hT.out.bel (Below.refl _ _).drew)
                have hDd : Hid (Below w.heap.size w wr.drew) := Lib.hid hD.out.drew
                clear hp hr hS hM hpE hrE
                go_wp2_with fail
                go_region_law (first | (refine step_catI _ (by rfl) _ _ (by rfl) w.heap.size u10 S [sumF p r] _ 1 1 (by rfl) (by rfl) (HT5.out.bel ((Below.refl _ _).alloc (Nat.le_refl _) _)).sO (ints_one _ _ (by simp)) (fun h => by cases h) hSl.out (HB5.out.alloc HB5.out.size _).size ?_; intro s6 w6 hO6 hg6 ha6; have HT6 := Lib.hid ((HT5.out.bel ((Below.refl _ w5).alloc (Nat.le_refl _) (Obj.cells #[Value.int .i64 (sumF p r)] 3))).appS hO6 hg6 ha6); have HB6 := Lib.hid (below_app (HB5.out.alloc HB5.out.size (Obj.cells #[Value.int .i64 (sumF p r)] 3)) (HB5.out.alloc HB5.out.size _).size (HT5.out.bel ((Below.refl _ _).alloc (Nat.le_refl _) _)).sO hg6); clear hO6 hg6 ha6) | (go_simp; go_at_call 22; refine (cA.out _).mono ?_; rintro e w5 ⟨rfl, hb5⟩; have HB5 := Lib.hid (hDd.out.trans (hb5.mono hDd.out.size)); have HT5 := Lib.hid (HTd.out.bel hb5); clear hb5) | fail "no arm")
                all_goals
                  have hca6 := (HA.out.bel HB6.out).cell hkl
                  rw [← HPP.out] at hca6
                  clear HT5 HB5
                  go_wp2_with fail
                  refine (cM.out _).mono ?_
                  rintro e w7 ⟨rfl, hb7⟩
                  have HB7 := Lib.hid (HB6.out.trans (hb7.mono HB6.out.size))
                  have HT7 := Lib.hid (HT6.out.bel hb7)
                  clear hb7 HB6 HT6 hca6
                  have HT8 := Lib.hid (HT7.out.bel ((Below.refl _ w7).alloc (Nat.le_refl _) (Obj.cells #[Value.int .i64 (mulF f p)] 3)))
                  have HB8 := Lib.hid (HB7.out.alloc HB7.out.size (Obj.cells #[Value.int .i64 (mulF f p)] 3))
                  go_wp2_with (at_builtin; refine wpList_catI _ rfl _ _ rfl w.heap.size u11 M [mulF f p] _ 1 1 rfl rfl HT8.out.mO (ints_one _ _ (by simp)) (fun h => by cases h) hMl.out HB8.out.size ?_)
                  intro m9 w9 hO9 hg9 ha9
                  have HT9 : Hid (Two w.heap.size w9 s6 m9 ((sums l q).take (k + 1)) ((mores f l).take (k + 1))) := Lib.hid (by rw [HSN.out, HMN.out]; exact HT8.out.appM hO9 hg9 (by simpa using ha9))
                  have HB9 := Lib.hid (below_app HB8.out HB8.out.size HT8.out.mO hg9)
                  clear hO9 hg9 ha9 HT7 HB7 HT8 HB8
                  go_wp2_with fail
                  go_roundw
                  case rel => exact ⟨k + 1, by omega, by go_num, HT9, HB9⟩
                  case measure => simp [intOf]; omega
              · obtain rfl : k = n := by omega
                have hS0 := hT.out.sO
                have hM0 := hT.out.mO
                have hlq : l.length = q.length := by rw [← HAn.out, ← HBn.out]
                rw [List.take_of_length_le (by rw [sums_len hlq, ← HAn.out]; exact Nat.le_refl _)] at hS0
                rw [List.take_of_length_le (by rw [mores_len, ← HAn.out]; exact Nat.le_refl _)] at hM0
                obtain ⟨a5, c5, rfl, i1, i2, i3⟩ := hS0.at2 (n := k) (by rw [sums_len hlq]; exact HAn.out)
                obtain ⟨a6, c6, rfl, i4, i5, i6⟩ := hM0.at2 (n := k) (by rw [mores_len]; exact HAn.out)
                have J5 := Lib.hid i3
                have J6 := Lib.hid i6
                obtain ⟨P, hP⟩ : ∃ v, v = evF x l := ⟨_, rfl⟩
                obtain ⟨Q, hQ⟩ : ∃ v, v = evF x q := ⟨_, rfl⟩
                obtain ⟨R, hR⟩ : ∃ v, v = sumF P Q := ⟨_, rfl⟩
                obtain ⟨S, hS⟩ : ∃ v, v = mulF f P := ⟨_, rfl⟩
                obtain ⟨U, hU⟩ : ∃ v, v = evF 0 l := ⟨_, rfl⟩
                have eP : El P := by rw [hP]; exact evF_range _ _
                have eQ : El Q := by rw [hQ]; exact evF_range _ _
                have hR2 : Hid (R = evF x (sums l q)) := Lib.hid (by rw [hR, hP, hQ, evF_sums x l q hlq])
                have hS2 : Hid (S = evF x (mores f l)) := Lib.hid (by rw [hS, hP, evF_mores])
                have hT2 : Hid (P = evF x (l ++ [0])) := Lib.hid (by rw [hP, evF_snoc0])
                have hU2 : Hid (U = l.headD 0) := Lib.hid (by rw [hU]; exact evF_zero (allE_iff.1 H1.out))
                have cA : Hid (∀ w, Calls Try.prog 22 #[.int .i64 P, .int .i64 Q] w fun e w' => e = .returned (.int .i64 R) ∧ Below w.heap.size w w') := Lib.hid (fun w => by rw [hR]; exact ladd_ok _ _ w eP eQ)
                have cM : Hid (∀ w, Calls Try.prog 23 #[.int .i64 f, .int .i64 P] w fun e w' => e = .returned (.int .i64 S) ∧ Below w.heap.size w w') := Lib.hid (fun w => by rw [hS]; exact lmul_ok _ _ w HFE.out eP)
                have HPv := Lib.hid hP
                have HQv := Lib.hid hQ
                have HUv := Lib.hid hU
                have HE0 : Hid (allE (l ++ [0]) = true) := Lib.hid (allE_iff.2 fun c hc => by
                  rcases List.mem_append.1 hc with hc | hc
                  · exact allE_iff.1 H1.out c hc
                  · simp at hc; rw [hc]; decide)
                have hk16 : Hid (k ≤ 16) := Lib.hid (by omega)
                have hpn : Hid (pa = none → k = 0 ∧ cp = 0) := Lib.hid (fun e => by
                  refine ⟨?_, HA0.out e⟩
                  rcases Nat.eq_zero_or_pos k with h | h
                  · exact h
                  · obtain ⟨b, off, e2, -⟩ := HA.out.cells h
                    rw [e] at e2; cases e2)
                have hq0 : Hid (([] : List Int).length + k ≤ 1000000) := Lib.hid (by simp; omega)
                have hq1 : Hid (l.length + 1 ≤ 1000000) := Lib.hid (by have := HAn.out; omega)
                clear hT hS0 hM0 hP hQ hR hS hU eP eQ i1 i2 i3 i4 i5 i6 hlq
                have Z := Lib.hid (Below.refl wr.heap.size wr)
                go_wp2_with fail
                refine (fEval_val _ k _ l x P _ (HA.out.bel (hD.out.trans (Z.out.mono hD.out.size))) hk16.out H1.out HXE.out HPv.out).mono ?_
                rintro e v0 ⟨rfl, hb⟩
                have Z0 := Lib.hid (Z.out.trans (hb.mono Z.out.size))
                clear hb Z
                go_wp2_with fail
                refine (fEval_val _ k _ q x Q _ (HB.out.bel (hD.out.trans (Z0.out.mono hD.out.size))) hk16.out H2.out HXE.out HQv.out).mono ?_
                rintro e v1 ⟨rfl, hb⟩
                have Z1 := Lib.hid (Z0.out.trans (hb.mono Z0.out.size))
                clear hb Z0
                go_wp2_with fail
                refine (fEval_val _ k _ (sums l q) x R _ (J5.out.bel Z1.out) hk16.out (allE_iff.2 sums_el) HXE.out hR2.out).mono ?_
                rintro e v2 ⟨rfl, hb⟩
                have Z2 := Lib.hid (Z1.out.trans (hb.mono Z1.out.size))
                clear hb Z1
                go_wp2_with fail
                refine (fEval_val _ k _ (mores f l) x S _ (J6.out.bel Z2.out) hk16.out (allE_iff.2 mores_el) HXE.out hS2.out).mono ?_
                rintro e v3 ⟨rfl, hb⟩
                have Z3 := Lib.hid (Z2.out.trans (hb.mono Z2.out.size))
                clear hb Z2
                clear J5 J6
                have Z30 := Lib.hid Z3.out.size
                have Y1 := Lib.hid (Z3.out.alloc Z3.out.size (Obj.cells #[] 3))
                have oE : OwnI w.heap.size (v3.alloc (Obj.cells #[] 3)) (.slice (some ⟨v3.heap.size, 0, none⟩) 0 0) [] := own_emptyI (heap_lastF _ _) (Nat.le_trans hD.out.size Z3.out.size)
                have OE := Lib.hid oE
                clear oE Z3
                go_wp2_with (at_builtin; refine wpList_catI _ rfl _ _ rfl w.heap.size _ [] l pa k cp rfl rfl OE.out (HA.out.bel (hD.out.trans (Y1.out.mono hD.out.size))) hpn.out hq0.out (Nat.le_trans hD.out.size Y1.out.size) ?_)
                intro s6 w6 hO6 hg6 ha6
                have Y2 : Hid (Below wr.heap.size wr w6) := Lib.hid (below_app3 Y1.out hg6 Z30.out)
                have O6 : Hid (OwnI w.heap.size w6 s6 l) := Lib.hid hO6
                have Y3 := Lib.hid (Y2.out.alloc Y2.out.size (Obj.cells #[Value.int .i64 0] 3))
                have O7 := Lib.hid (own_bel O6.out ((Below.refl _ w6).alloc (Nat.le_refl _) (Obj.cells #[Value.int .i64 0] 3)))
                clear hO6 hg6 ha6 Y1 O6
                go_wp2_with (at_builtin; refine wpList_catI _ rfl _ _ rfl w.heap.size _ l [0] _ 1 1 rfl rfl O7.out (ints_one _ _ (by simp)) (fun h => by cases h) hq1.out (Nat.le_trans hD.out.size Y3.out.size) ?_)
                intro s8 w8 hO8 hg8 ha8
                have YD : Hid (Below w.heap.size w w8) := Lib.hid (below_app (hD.out.trans (Y3.out.mono hD.out.size)) (Nat.le_trans hD.out.size Y3.out.size) O7.out hg8)
                obtain ⟨a8, c8, rfl, i1, i2, i3⟩ := hO8.at2 (n := k + 1) (by simp; exact HAn.out)
                obtain ⟨k1, hk1⟩ : ∃ k1, k1 = k + 1 := ⟨_, rfl⟩
                rw [← hk1] at i3 ⊢
                have J8 := Lib.hid i3
                have HK1 := Lib.hid hk1
                have hk17 : Hid (k1 ≤ 16) := Lib.hid (by omega)
                clear hO8 hg8 ha8 i1 i2 i3 hk1 Y2 Y3 O7 OE
                go_wp2_with fail
                refine (fEval_val _ k1 _ (l ++ [0]) x P _ J8.out hk17.out HE0.out HXE.out hT2.out).mono ?_
                rintro e v4 ⟨rfl, hb⟩
                have X4 := Lib.hid (YD.out.trans (hb.mono YD.out.size))
                clear hb YD
                clear J8
                go_wp2_with fail
                refine (fEval_val _ k _ l 0 U _ (HA.out.bel X4.out) hk16.out H1.out (by decide) HUv.out).mono ?_
                rintro e v5 ⟨rfl, hb⟩
                have X5 := Lib.hid (X4.out.trans (hb.mono X4.out.size))
                clear hb X4
                by_cases h0 : 0 < k
                · obtain ⟨b, off, rfl, -⟩ := HA.out.cells h0
                  have hkl : 0 < l.length := by rw [← HAn.out]; exact h0
                  have hc := (HA.out.bel X5.out).cell hkl
                  have hU3 : l[0] = U := by
                    rw [hU2.out]
                    cases l with
                    | nil => simp at hkl
                    | cons c t => rfl
                  rw [hU3, Nat.add_zero] at hc
                  clear hU3
                  go_wp2_with fail
                  refine (cA.out _).mono ?_
                  rintro e v6 ⟨rfl, hb⟩
                  have X6 := Lib.hid (X5.out.trans (hb.mono X5.out.size))
                  clear hb X5
                  go_wp2_with fail
                  refine (cM.out _).mono ?_
                  rintro e v7 ⟨rfl, hb⟩
                  have X7 := Lib.hid (X6.out.trans (hb.mono X6.out.size))
                  clear hb X6
                  go_wp2_with fail
                  go_ret
                  exact ⟨rfl, X7.out⟩
                · have hk0 : k = 0 := by omega
                  obtain rfl : U = 0 := by
                    have : l = [] := List.eq_nil_of_length_eq_zero (by rw [← HAn.out]; exact hk0)
                    rw [hU2.out, this]; rfl
                  clear hk0
                  go_wp2_with fail
                  refine (cA.out _).mono ?_
                  rintro e v6 ⟨rfl, hb⟩
                  have X6 := Lib.hid (X5.out.trans (hb.mono X5.out.size))
                  clear hb X5
                  go_wp2_with fail
                  refine (cM.out _).mono ?_
                  rintro e v7 ⟨rfl, hb⟩
                  have X7 := Lib.hid (X6.out.trans (hb.mono X6.out.size))
                  clear hb X6
                  go_wp2_with fail
                  go_ret
                  exact ⟨rfl, X7.out⟩
  · have f1 : ((n : Int) != (m : Int)) = true := by simp; omega
    have f2 : ((n : Int) == (m : Int)) = false := beq_eq_false_iff_ne.2 (by omega)
    have D0 := Lib.hid (Below.refl w.heap.size w)
    go_enter Try.func6, Try.ntmps6
    go_wp2_with fail
    refine (head_any _).mono ?_
    rintro e w1 ⟨rfl, hb⟩
    have D1 := Lib.hid (D0.out.trans (hb.mono D0.out.size))
    clear hb D0
    go_wp2_with fail
    go_ret
    exact ⟨rfl, D1.out⟩
end Go.Proofs.Ytalhcfffnggpjaa
