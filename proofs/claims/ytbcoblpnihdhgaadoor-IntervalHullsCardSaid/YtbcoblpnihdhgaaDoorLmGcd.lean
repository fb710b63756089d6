/-
  The walk of the program's commonDivisor.
-/
import Derived.Test.YtbcoblpnihdhgaaDoorLmComb
import Derived.Test.YtbcoblpnihdhgaaDoorLmSteps
import Derived.Test.YtbcoblpnihdhgaaDoorLmDD
set_option linter.unusedVariables false
set_option maxRecDepth 100000
namespace Go.Proofs.YtbcoblpnihdhgaaDoor
open Go.RowKit
/-- the number that a list of limbs holds -/
noncomputable def numV (v : Value) (w : World) : Nat := Classical.epsilon fun n => IntsIn (fun _ => True) w v (Lim.ls n)
theorem ints_inj {w : World} {v : Value} {m n : Nat} (h : IntsIn (fun _ => True) w v (Lim.ls m)) (k : IntsIn (fun _ => True) w v (Lim.ls n)) : m = n := by
  obtain ⟨a, ca, e, _, _, h3⟩ := h.open_
  obtain ⟨b, cb, e2, _, _, k3⟩ := k.open_
  rw [e] at e2
  injection e2 with i1 i2 i3
  have hl : Lim.ls m = Lim.ls n := by
    apply List.ext_getElem i2
    intro j h1 h2
    obtain ⟨b1, o1, q1, _, c1⟩ := h3 (by omega)
    obtain ⟨b2, o2, q2, _, c2⟩ := k3 (by omega)
    rw [q1, q2] at i1
    injection i1 with i1
    injection i1 with j1 j2
    have d1 := c1 j h1
    have d2 := c2 j h2
    rw [j1, j2, d2] at d1
    simp only [Option.some.injEq, Value.int.injEq, true_and] at d1
    rw [List.getD_eq_getElem?_getD, List.getD_eq_getElem?_getD, List.getElem?_eq_getElem h1, List.getElem?_eq_getElem h2] at d1
    simp only [Option.getD_some] at d1
    omega
  rw [← Lim.lv_ls m, hl, Lim.lv_ls]
theorem numV_eq {w : World} {v : Value} {n : Nat} (h : IntsIn (fun _ => True) w v (Lim.ls n)) : numV v w = n :=
  ints_inj (Classical.epsilon_spec (p := fun n => IntsIn (fun _ => True) w v (Lim.ls n)) ⟨n, h⟩) h
theorem none_any (a b c d : Int) (w : World) :
    Calls Tryd.prog 66 #[.agg #[.int .i64 a, .int .i64 b, .int .i64 c, .int .i64 d]] w fun e w' => e = .returned (.bool (b == 0)) ∧ Below w.heap.size w w' := by
  go_enter Tryd.func66, Tryd.ntmps66
  go_wp2_with fail
  go_ret
  exact ⟨rfl, alloc_below w _⟩
theorem co_bound {plus : Bool} {n : Nat} (h : n ≤ 1000000000) : -1000000000 ≤ co plus n ∧ co plus n ≤ 1000000000 := by
  unfold co
  cases plus <;> simp <;> omega
theorem four_zero (plus : Bool) (q : Nat) : (co plus q == 0) = decide (q = 0) := by
  unfold co
  by_cases h : q = 0
  · subst h; cases plus <;> rfl
  · rw [decide_eq_false h]
    apply beq_eq_false_iff_ne.2
    cases plus <;> simp <;> omega
theorem stepped_ints {A C A' C' p q r s : Nat} {plus : Bool} (h : Lim.Stepped A C A' C' p q r s plus) : (A' : Int) = co plus p * (A : Int) + co (!plus) q * (C : Int) ∧ (C' : Int) = co (!plus) r * (A : Int) + co plus s * (C : Int) := by
  have h1 := h.ea
  have h2 := h.ec
  cases plus with
  | true =>
    simp only [if_true] at h1 h2
    have h1' := congrArg (fun n : Nat => (n : Int)) h1
    have h2' := congrArg (fun n : Nat => (n : Int)) h2
    simp only [Int.natCast_add, Int.natCast_mul] at h1' h2'
    simp only [co, Bool.not_true, if_true, if_false, Bool.false_eq_true, Int.neg_mul]
    omega
  | false =>
    simp only [Bool.false_eq_true, if_false] at h1 h2
    have h1' := congrArg (fun n : Nat => (n : Int)) h1
    have h2' := congrArg (fun n : Nat => (n : Int)) h2
    simp only [Int.natCast_add, Int.natCast_mul] at h1' h2'
    simp only [co, Bool.not_false, if_true, if_false, Bool.false_eq_true, Int.neg_mul]
    omega
/-- the highest two limbs are less than the base's square -/
theorem high_lt {x K : Nat} (h : Lim.nl x ≤ K) (hK : 2 ≤ K) : x / Lim.B ^ (K - 2) < 1000000000000000000 := by
  have h1 : x / Lim.B ^ (K - 2) < Lim.B ^ 2 := by
    rw [Nat.div_lt_iff_lt_mul (Lim.B_pow _), ← Nat.pow_add, show 2 + (K - 2) = K by omega]
    exact Lim.nl_le.1 h
  have h2 : Lim.B ^ 2 = 1000000000000000000 := by rw [Lim.B_eq]
  omega
theorem gcd_next (A C : Nat) : Nat.gcd C (A % C) = Nat.gcd A C := by rw [Nat.gcd_comm C, ← Nat.gcd_rec, Nat.gcd_comm]
/-- the worlds of commonDivisor -/
structure GcW (w : World) (g A C : Nat) (xa xb : Value) (wr : World) : Prop where
  ia : IntsIn (fun _ => True) wr xa (Lim.ls A)
  ib : IntsIn (fun _ => True) wr xb (Lim.ls C)
  le : Lim.nl C ≤ Lim.nl A
  bd : Lim.nl A ≤ 100000
  gcd : Nat.gcd A C = g
  bel : Below w.heap.size w wr
theorem two_ints (d q : Nat) (w : World) : IntsIn (fun _ => True) (w.alloc (.cells #[.int .i64 (d : Int), .int .i64 (q : Int)] 3)) (.slice (some ⟨w.heap.size, 0, none⟩) 2 2) [d, q] :=
  ⟨_, 2, rfl, Nat.le_refl _, by omega, fun _ => ⟨_, 0, rfl, trivial, fun j hj => by
    match j, hj with
    | 0, _ => rw [Lib.cell_of_heap (heap_lastM w _)]; rfl
    | 1, _ => rw [Lib.cell_of_heap (heap_lastM w _)]; rfl⟩⟩
theorem held_next {B : Nat} {fa fb fc fd : Int} {w4 w' w'' : World} (hF : FourAt B fa fb fc fd w4) (h : Below w4.heap.size w4 w' ∧ w'.cell? ⟨B, 0, none⟩ = some (.int .i64 fa) ∧ w'.cell? ⟨B, 1, none⟩ = some (.int .i64 fb) ∧ w'.cell? ⟨B, 2, none⟩ = some (.int .i64 fc) ∧ w'.cell? ⟨B, 3, none⟩ = some (.int .i64 fd)) (hb : Below w'.heap.size w' w'') :
    Below w4.heap.size w4 w'' ∧ w''.cell? ⟨B, 0, none⟩ = some (.int .i64 fa) ∧ w''.cell? ⟨B, 1, none⟩ = some (.int .i64 fb) ∧ w''.cell? ⟨B, 2, none⟩ = some (.int .i64 fc) ∧ w''.cell? ⟨B, 3, none⟩ = some (.int .i64 fd) := by
  have h2 := h.1.trans (hb.mono h.1.size)
  have hF2 : FourAt B fa fb fc fd w'' := hF.keep (h2.block B hF.lt)
  exact ⟨h2, hF2.c0, hF2.c1, hF2.c2, hF2.c3⟩
set_option maxHeartbeats 8000000 in
theorem commonDivisor_any (m n : Nat) (va vb : Value) (w : World) (hm : IntsIn (fun _ => True) w va (Lim.ls m)) (hn : IntsIn (fun _ => True) w vb (Lim.ls n)) (hml : Lim.nl m ≤ 100000) (hnl : Lim.nl n ≤ 100000) :
    Calls Tryd.prog 50 #[va, vb] w fun e w' => ∃ v', e = .returned v' ∧ IntsIn (fun _ => True) w' v' (Lim.ls (Nat.gcd m n)) ∧ Below w.heap.size w w' := by
  obtain ⟨G, hG⟩ : ∃ G, G = Nat.gcd m n := ⟨_, rfl⟩
  rw [← hG]
  obtain ⟨xa, ca0, rfl, a1, a2, a3⟩ := hm.open_
  obtain ⟨xb, cb0, rfl, b1, b2, b3⟩ := hn.open_
  have HA := Lib.hid hm
  have HB := Lib.hid hn
  have HG := Lib.hid hG
  have hml2 := hml
  have hnl2 := hnl
  clear hm hn hG a3 b3
  obtain ⟨na, hna⟩ : ∃ na, na = (Lim.ls m).length := ⟨_, rfl⟩
  obtain ⟨nb, hnb⟩ : ∃ nb, nb = (Lim.ls n).length := ⟨_, rfl⟩
  have EA : Hid (Lim.nl m = na) := Lib.hid hna.symm
  have EB : Hid (Lim.nl n = nb) := Lib.hid hnb.symm
  rw [EA.out] at hml
  rw [EB.out] at hnl
  rw [← hna] at a1 HA ⊢
  rw [← hnb] at b1 HB ⊢
  clear hna hnb hml2 hnl2
  by_cases hlt : na < nb
  · skip
    have hG0 : Hid (GcW w G n m (.slice xb nb cb0) (.slice xa na ca0) w) := Lib.hid (by
      refine ⟨HB.out, HA.out, by rw [EB.out, EA.out]; omega, by rw [EB.out]; omega, by rw [Nat.gcd_comm]; exact HG.out.symm, Below.refl _ _⟩)
    go_enter Tryd.func50, Tryd.ntmps50
    go_wp2_with fail
    go_loopw [0, 1] (fun xa xb wr => ∃ A C : Nat, Hid (GcW w G A C xa xb wr)) (fun _ xb wr => numV xb wr)
    case atStart => exact ⟨n, m, hG0⟩
    case round =>
      clear hG0
      obtain ⟨A, C, hW⟩ := hrel
      obtain ⟨a, ca, rfl, a1, a2, a3⟩ := hW.out.ia.open_
      obtain ⟨b, cb, rfl, b1, b2, b3⟩ := hW.out.ib.open_
      clear a3 b3
      obtain ⟨K, hK⟩ : ∃ K, K = (Lim.ls A).length := ⟨_, rfl⟩
      obtain ⟨k, hk⟩ : ∃ k, k = (Lim.ls C).length := ⟨_, rfl⟩
      have hnum : Hid (numV (.slice b k cb) wr = C) := Lib.hid (by rw [hk]; exact numV_eq hW.out.ib)
      rw [← hK, ← hk] at hW
      rw [← hK] at a1 ⊢
      rw [← hk] at b1 ⊢
      have HK : Hid (Lim.nl A = K) := Lib.hid hK.symm
      have Hk : Hid (Lim.nl C = k) := Lib.hid hk.symm
      have hKb : K ≤ 100000 := by have := hW.out.bd; rw [HK.out] at this; exact this
      have hkK : k ≤ K := by have := hW.out.le; rw [HK.out, Hk.out] at this; exact this
      clear hK hk
      by_cases c : 2 < k
      · have c2 : (2 : Int) < (k : Int) := by omega
        have hX : Hid (A / Lim.B ^ (K - 2) < 1000000000000000000) := Lib.hid (high_lt (by rw [HK.out]; exact Nat.le_refl _) (by omega))
        have hY : Hid (C / Lim.B ^ (K - 2) < 1000000000000000000) := Lib.hid (high_lt (by rw [Hk.out]; exact hkK) (by omega))
        go_wp2_with fail
        refine (highest_any _ A K _ _ hW.out.ia (by rw [HK.out]; exact Nat.le_refl _) (by omega) (by omega)).mono ?_
        rintro e w1 ⟨rfl, rfl⟩
        obtain ⟨X, hXv⟩ : ∃ X, X = A / Lim.B ^ (K - 2) := ⟨_, rfl⟩
        rw [← hXv]
        rw [← hXv] at hX
        have HX := Lib.hid hXv
        clear hXv
        go_wp2_with fail
        refine (highest_any _ C K _ _ hW.out.ib (by rw [Hk.out]; exact hkK) (by omega) (by omega)).mono ?_
        rintro e w1 ⟨rfl, rfl⟩
        obtain ⟨Y, hYv⟩ : ∃ Y, Y = C / Lim.B ^ (K - 2) := ⟨_, rfl⟩
        rw [← hYv]
        rw [← hYv] at hY
        have HY := Lib.hid hYv
        clear hYv
        go_wp2_with fail
        refine (stepsOf_any X Y _ hX.out hY.out).mono ?_
        rintro e w2 ⟨⟨x, y, p, q, r, s, plus, rfl, hst⟩, hb2⟩
        have HST := Lib.hid hst
        have hW2 : Hid (GcW w G A C (.slice a K ca) (.slice b k cb) w2) := Lib.hid ⟨hW.out.ia.below hb2, hW.out.ib.below hb2, hW.out.le, hW.out.bd, hW.out.gcd, hW.out.bel.trans (hb2.mono hW.out.bel.size)⟩
        obtain ⟨fa, hfa⟩ : ∃ fa, fa = co plus p := ⟨_, rfl⟩
        obtain ⟨fb, hfb⟩ : ∃ fb, fb = co (!plus) q := ⟨_, rfl⟩
        obtain ⟨fc, hfc⟩ : ∃ fc, fc = co (!plus) r := ⟨_, rfl⟩
        obtain ⟨fd, hfd⟩ : ∃ fd, fd = co plus s := ⟨_, rfl⟩
        have hz : Hid ((fb == 0) = decide (q = 0)) := Lib.hid (by rw [hfb]; exact four_zero _ _)
        rw [← hfa, ← hfb, ← hfc, ← hfd]
        have HFA := Lib.hid hfa
        have HFB := Lib.hid hfb
        have HFC := Lib.hid hfc
        have HFD := Lib.hid hfd
        clear hfa hfb hfc hfd hst hb2 hW
        go_wp2_with fail
        obtain ⟨B, hB⟩ : ∃ B, B = w2.heap.size := ⟨_, rfl⟩
        obtain ⟨w3, hw3⟩ : ∃ w3, w3 = w2.alloc (Obj.cells #[Value.int .i64 fa, Value.int .i64 fb, Value.int .i64 fc, Value.int .i64 fd] 89) := ⟨_, rfl⟩
        have hF3 : Hid (FourAt B fa fb fc fd w3) := Lib.hid (by rw [hw3, hB]; exact heap_lastM w2 _)
        have hW3 : Hid (GcW w G A C (.slice a K ca) (.slice b k cb) w3) := Lib.hid (by
          have hb := alloc_below w2 (Obj.cells #[Value.int .i64 fa, Value.int .i64 fb, Value.int .i64 fc, Value.int .i64 fd] 89)
          rw [hw3]
          exact ⟨hW2.out.ia.below hb, hW2.out.ib.below hb, hW2.out.le, hW2.out.bd, hW2.out.gcd, hW2.out.bel.trans (hb.mono hW2.out.bel.size)⟩)
        rw [← hw3]
        simp only [← hB]
        clear hw3 hB hW2
        refine (none_any fa fb fc fd _).mono ?_
        rintro e w4 ⟨rfl, hb4⟩
        rw [hz.out]
        have hF4 : Hid (FourAt B fa fb fc fd w4) := Lib.hid (hF3.out.keep (hb4.block B hF3.out.lt))
        have hW4 : Hid (GcW w G A C (.slice a K ca) (.slice b k cb) w4) := Lib.hid ⟨hW3.out.ia.below hb4, hW3.out.ib.below hb4, hW3.out.le, hW3.out.bd, hW3.out.gcd, hW3.out.bel.trans (hb4.mono hW3.out.bel.size)⟩
        clear hb4 hF3 hW3
        have hC0 : C ≠ 0 := by
          intro e0
          have := Hk.out
          rw [e0, Lim.nl_zero] at this
          omega
        have HC0 := Lib.hid hC0
        clear hC0
        by_cases hq : q = 0
        · rw [decide_eq_true hq]
          clear hq
          go_wp2_with fail
          refine (dividedBy_any A C _ _ _ hW4.out.ia hW4.out.ib hW4.out.bd (by rw [Hk.out]; omega) HC0.out).mono ?_
          rintro e w5 ⟨v1, v2, rfl, hv1, hv2, hb5⟩
          have hW5 : Hid (GcW w G C (A % C) (.slice b k cb) v2 w5) := Lib.hid ⟨hW4.out.ib.below hb5, hv2, Lim.nl_mono (Nat.le_of_lt (Nat.mod_lt _ (Nat.pos_of_ne_zero HC0.out))), by rw [Hk.out]; omega, by rw [gcd_next]; exact hW4.out.gcd, hW4.out.bel.trans (hb5.mono hW4.out.bel.size)⟩
          clear hv1 hv2 hb5
          go_wp2_with fail
          refine ⟨⟨C, A % C, hW5⟩, ?_⟩
          rw [numV_eq hW5.out.ib, hnum.out]
          exact Nat.mod_lt _ (Nat.pos_of_ne_zero HC0.out)
        · rw [decide_eq_false hq]
          have hl1 : Lim.Leh1 x y p q r s plus := by
            rcases HST.out.one with h | h
            · exact absurd h.2.2.1 hq
            · exact h
          obtain ⟨A', C', hs⟩ := HST.out.leh.whole hl1 (Lim.B_pow (K - 2)) (A := A) (C := C) (A0 := A % Lim.B ^ (K - 2)) (C0 := C % Lim.B ^ (K - 2)) (by rw [HX.out]; exact (Nat.div_add_mod' _ _).symm) (by rw [HY.out]; exact (Nat.div_add_mod' _ _).symm) (Nat.mod_lt _ (Lim.B_pow _)) (Nat.mod_lt _ (Lim.B_pow _))
          have hsi := stepped_ints hs
          rw [← HFA.out, ← HFB.out, ← HFC.out, ← HFD.out] at hsi
          have HS := Lib.hid hs
          have HSI := Lib.hid hsi
          have hnA : Hid (Lim.nl A' ≤ Lim.nl C) := Lib.hid (Lim.nl_mono hs.le)
          have hnC : Hid (Lim.nl C' ≤ Lim.nl A') := Lib.hid (Lim.nl_mono (Nat.le_of_lt hs.lt))
          have ba := co_bound (plus := plus) HST.out.bp
          have bb := co_bound (plus := !plus) HST.out.bq
          have bc := co_bound (plus := !plus) HST.out.br
          have bd := co_bound (plus := plus) HST.out.bs
          rw [← HFA.out] at ba
          rw [← HFB.out] at bb
          rw [← HFC.out] at bc
          rw [← HFD.out] at bd
          have BA := Lib.hid ba
          have BB := Lib.hid bb
          have BC := Lib.hid bc
          have BD := Lib.hid bd
          have hca : Hid (∀ w', Below w4.heap.size w4 w' → Calls Tryd.prog 68 #[.slice a K ca, .slice b k cb, .int .i64 fa, .int .i64 fb] w' fun e w'' => ∃ v', e = .returned v' ∧ IntsIn (fun _ => True) w'' v' (Lim.ls A') ∧ Below w'.heap.size w' w'') := Lib.hid (fun w' hb => combined_any A C A' fa fb _ _ w' (hW4.out.ia.below hb) (hW4.out.ib.below hb) hW4.out.bd hW4.out.le BA.out.1 BA.out.2 BB.out.1 BB.out.2 HSI.out.1 (Nat.le_trans hnA.out hW4.out.le))
          have hcc : Hid (∀ w', Below w4.heap.size w4 w' → Calls Tryd.prog 68 #[.slice a K ca, .slice b k cb, .int .i64 fc, .int .i64 fd] w' fun e w'' => ∃ v', e = .returned v' ∧ IntsIn (fun _ => True) w'' v' (Lim.ls C') ∧ Below w'.heap.size w' w'') := Lib.hid (fun w' hb => combined_any A C C' fc fd _ _ w' (hW4.out.ia.below hb) (hW4.out.ib.below hb) hW4.out.bd hW4.out.le BC.out.1 BC.out.2 BD.out.1 BD.out.2 HSI.out.2 (Nat.le_trans hnC.out (Nat.le_trans hnA.out hW4.out.le)))
          have c0 := hF4.out.c0
          have c1 := hF4.out.c1
          have c2' := hF4.out.c2
          have c3 := hF4.out.c3
          clear hs hsi ba bb bc bd hq hl1
          go_wp2_with fail
          go_region_held3 (fun w' => Below w4.heap.size w4 w' ∧ w'.cell? ⟨B, 0, none⟩ = some (.int .i64 fa) ∧ w'.cell? ⟨B, 1, none⟩ = some (.int .i64 fb) ∧ w'.cell? ⟨B, 2, none⟩ = some (.int .i64 fc) ∧ w'.cell? ⟨B, 3, none⟩ = some (.int .i64 fd)) (first | (with_reducible assumption) | exact ⟨Below.drew (Below.refl _ _), c0, c1, c2', c3⟩ | exact held_next hF4.out (by assumption) (by assumption)) (first | (go_at_call 68; first | ((with_reducible refine (hca.out _ ?hb).mono ?_); (case hb => exact And.left (by assumption)); rintro e w5 ⟨v5, rfl, hv5, hb5⟩) | ((with_reducible refine (hcc.out _ ?hb).mono ?_); (case hb => exact And.left (by assumption)); rintro e w6 ⟨v6, rfl, hv6, hb6⟩)) | fail "no arm")
          have hb46 : Below w4.heap.size w4 w6 := And.left (by assumption)
          have hW6 : Hid (GcW w G A' C' v5 v6 w6) := Lib.hid ⟨hv5.below hb6, hv6, hnC.out, Nat.le_trans hnA.out (by rw [Hk.out]; omega), by rw [HS.out.gcd]; exact hW4.out.gcd, hW4.out.bel.trans (hb46.mono hW4.out.bel.size)⟩
          clear hv5 hv6 hb5 hb6 hb46
          go_wp2_with fail
          refine ⟨⟨A', C', hW6⟩, ?_⟩
          rw [numV_eq hW6.out.ib, hnum.out]
          exact Nat.lt_of_lt_of_le HS.out.lt HS.out.le
      · have c2 : ¬ (2 : Int) < (k : Int) := by omega
        by_cases hk0 : k = 0
        · have hC0 : C = 0 := by
            apply Classical.byContradiction
            intro hne
            have := Lim.nl_pos.2 hne
            rw [Hk.out] at this
            omega
          have hres : Hid (IntsIn (fun _ => True) wr (.slice a K ca) (Lim.ls G)) := Lib.hid (by
            have h1 := hW.out.gcd
            rw [hC0, Nat.gcd_zero_right] at h1
            rw [← h1]; exact hW.out.ia)
          have t1 : ((k : Int) == 0) = true := by rw [hk0]; rfl
          clear hC0
          go_wp2_with fail
          go_ret
          exact ⟨_, rfl, hres.out, hW.out.bel⟩
        · have t1 : ((k : Int) == 0) = false := beq_eq_false_iff_ne.2 (by omega)
          have hC0 : C ≠ 0 := by
            intro e0
            have := Hk.out
            rw [e0, Lim.nl_zero] at this
            omega
          have HC0 := Lib.hid hC0
          clear hC0
          go_wp2_with fail
          refine (dividedBy_any A C _ _ _ hW.out.ia hW.out.ib hW.out.bd (by rw [Hk.out]; omega) HC0.out).mono ?_
          rintro e w5 ⟨v1, v2, rfl, hv1, hv2, hb5⟩
          have HV2 := Lib.hid hv2
          have HIB := Lib.hid (hW.out.ib.below hb5)
          have HB5 := Lib.hid (hW.out.bel.trans (hb5.mono hW.out.bel.size))
          have hmod := Nat.mod_lt A (Nat.pos_of_ne_zero HC0.out)
          have HMN := Lib.hid (Lim.nl_mono (Nat.le_of_lt hmod))
          clear hv1 hv2 hb5 hmod
          go_wp2_with fail
          refine (highest_any _ C 2 _ _ HIB.out (by rw [Hk.out]; omega) (by omega) (by omega)).mono ?_
          rintro e w6 ⟨rfl, rfl⟩
          rw [show C / Lim.B ^ (2 - 2) = C by rw [Nat.sub_self, Nat.pow_zero, Nat.div_one]]
          go_wp2_with fail
          refine (highest_any _ (A % C) 2 _ _ HV2.out (by have := HMN.out; rw [Hk.out] at this; omega) (by omega) (by omega)).mono ?_
          rintro e w6 ⟨rfl, rfl⟩
          rw [show A % C / Lim.B ^ (2 - 2) = A % C by rw [Nat.sub_self, Nat.pow_zero, Nat.div_one]]
          have hCl : Hid (C < 1000000000000000000) := Lib.hid (by
            have h1 : C < Lim.B ^ 2 := Lim.nl_le.1 (by rw [Hk.out]; omega)
            have h2 : Lim.B ^ 2 = 1000000000000000000 := by rw [Lim.B_eq]
            omega)
          have hgc : Hid (Nat.gcd C (A % C) = G) := Lib.hid (by rw [gcd_next]; exact hW.out.gcd)
          have hml : Hid (A % C < 1000000000000000000) := Lib.hid (Nat.lt_trans (Nat.mod_lt _ (Nat.pos_of_ne_zero HC0.out)) hCl.out)
          generalize A % C = D at hgc hml HV2 HMN ⊢
          go_wp2_with fail
          go_loopw [10, 11] (fun xx yy wq => ∃ x y : Nat, xx = .int .i64 (x : Int) ∧ yy = .int .i64 (y : Int) ∧ x < 1000000000000000000 ∧ y < 1000000000000000000 ∧ Hid (Nat.gcd x y = G) ∧ Hid (Below w.heap.size w wq)) (fun _ yy _ => (intOf yy).toNat)
          case atStart => exact ⟨C, D, rfl, rfl, hCl.out, hml.out, hgc, HB5⟩
          case round =>
            obtain ⟨x, y, rfl, rfl, hx, hy, hg, hB⟩ := hrel
            by_cases hy0 : 0 < y
            · obtain ⟨m, hm⟩ : ∃ m, m = x % y := ⟨_, rfl⟩
              have hmy : m < y := by rw [hm]; exact Nat.mod_lt _ hy0
              have hg2 : Hid (Nat.gcd y m = G) := Lib.hid (by rw [hm, gcd_next]; exact hg.out)
              have e1 : ((x : Int)).tmod (y : Int) = (m : Int) := by rw [Int.tmod_eq_emod_of_nonneg (by omega), hm]; exact (Int.natCast_emod _ _).symm
              have e2 : IntKind.i64.wrap (m : Int) = (m : Int) := IntWalk.i64_in _ (by omega)
              have e3 : ((y : Int) == 0) = false := beq_eq_false_iff_ne.2 (by omega)
              have e4 : ¬ y = 0 := by omega
              clear hm
              go_wp2_with fail
              go_quiet (fail)
              go_wp2_with fail
              refine ⟨⟨y, m, rfl, rfl, by omega, by omega, hg2, Lib.hid ?_⟩, by simp [intOf]; omega⟩
              exact hB.out.trans ⟨rfl, rfl, rfl, Nat.le_refl _, fun _ _ => rfl⟩
            · obtain rfl : y = 0 := by omega
              have hxG : x = G := by have := hg.out; rwa [Nat.gcd_zero_right] at this
              obtain ⟨d, hd⟩ : ∃ d, d = x % 1000000000 := ⟨_, rfl⟩
              obtain ⟨q, hq⟩ : ∃ q, q = x / 1000000000 := ⟨_, rfl⟩
              have e1 : ((x : Int)).tmod 1000000000 = (d : Int) := by rw [Int.tmod_eq_emod_of_nonneg (by omega)]; omega
              have e2 : ((x : Int)).tdiv 1000000000 = (q : Int) := by rw [Int.tdiv_eq_ediv_of_nonneg (by omega)]; omega
              have e3 : IntKind.i64.wrap (d : Int) = (d : Int) := IntWalk.i64_in _ (by omega)
              have e4 : IntKind.i64.wrap (q : Int) = (q : Int) := IntWalk.i64_in _ (by omega)
              have hlo : Hid (Lim.Lo [d, q]) := Lib.hid (fun z hz => by
                rw [Lim.B_eq]
                simp only [List.mem_cons, List.not_mem_nil, or_false] at hz
                rcases hz with rfl | rfl <;> omega)
              have hlv : Hid (Lim.lv [d, q] = G) := Lib.hid (by
                simp only [Lim.lv, Lim.B_eq]
                omega)
              clear hd hq hxG
              go_wp2_with fail
              refine (trimmed_any (fun _ => True) _ _ _ (two_ints d q _) hlo.out).mono ?_
              rintro e w9 ⟨v9, rfl, hv9, rfl⟩
              rw [hlv.out] at hv9
              have HV9 := Lib.hid hv9
              clear hv9
              go_wp2_with fail
              go_ret
              exact ⟨v9, rfl, HV9.out, hB.out.alloc hB.out.size _⟩
  · skip
    have hG0 : Hid (GcW w G m n (.slice xa na ca0) (.slice xb nb cb0) w) := Lib.hid (by
      refine ⟨HA.out, HB.out, by rw [EA.out, EB.out]; omega, by rw [EA.out]; omega, HG.out.symm, Below.refl _ _⟩)
    go_enter Tryd.func50, Tryd.ntmps50
    go_wp2_with fail
    go_loopw [0, 1] (fun xa xb wr => ∃ A C : Nat, Hid (GcW w G A C xa xb wr)) (fun _ xb wr => numV xb wr)
    case atStart => exact ⟨m, n, hG0⟩
    case round =>
      clear hG0
      obtain ⟨A, C, hW⟩ := hrel
      obtain ⟨a, ca, rfl, a1, a2, a3⟩ := hW.out.ia.open_
      obtain ⟨b, cb, rfl, b1, b2, b3⟩ := hW.out.ib.open_
      clear a3 b3
      obtain ⟨K, hK⟩ : ∃ K, K = (Lim.ls A).length := ⟨_, rfl⟩
      obtain ⟨k, hk⟩ : ∃ k, k = (Lim.ls C).length := ⟨_, rfl⟩
      have hnum : Hid (numV (.slice b k cb) wr = C) := Lib.hid (by rw [hk]; exact numV_eq hW.out.ib)
      rw [← hK, ← hk] at hW
      rw [← hK] at a1 ⊢
      rw [← hk] at b1 ⊢
      have HK : Hid (Lim.nl A = K) := Lib.hid hK.symm
      have Hk : Hid (Lim.nl C = k) := Lib.hid hk.symm
      have hKb : K ≤ 100000 := by have := hW.out.bd; rw [HK.out] at this; exact this
      have hkK : k ≤ K := by have := hW.out.le; rw [HK.out, Hk.out] at this; exact this
      clear hK hk
      by_cases c : 2 < k
      · have c2 : (2 : Int) < (k : Int) := by omega
        have hX : Hid (A / Lim.B ^ (K - 2) < 1000000000000000000) := Lib.hid (high_lt (by rw [HK.out]; exact Nat.le_refl _) (by omega))
        have hY : Hid (C / Lim.B ^ (K - 2) < 1000000000000000000) := Lib.hid (high_lt (by rw [Hk.out]; exact hkK) (by omega))
        go_wp2_with fail
        refine (highest_any _ A K _ _ hW.out.ia (by rw [HK.out]; exact Nat.le_refl _) (by omega) (by omega)).mono ?_
        rintro e w1 ⟨rfl, rfl⟩
        obtain ⟨X, hXv⟩ : ∃ X, X = A / Lim.B ^ (K - 2) := ⟨_, rfl⟩
        rw [← hXv]
        rw [← hXv] at hX
        have HX := Lib.hid hXv
        clear hXv
        go_wp2_with fail
        refine (highest_any _ C K _ _ hW.out.ib (by rw [Hk.out]; exact hkK) (by omega) (by omega)).mono ?_
        rintro e w1 ⟨rfl, rfl⟩
        obtain ⟨Y, hYv⟩ : ∃ Y, Y = C / Lim.B ^ (K - 2) := ⟨_, rfl⟩
        rw [← hYv]
        rw [← hYv] at hY
        have HY := Lib.hid hYv
        clear hYv
        go_wp2_with fail
        refine (stepsOf_any X Y _ hX.out hY.out).mono ?_
        rintro e w2 ⟨⟨x, y, p, q, r, s, plus, rfl, hst⟩, hb2⟩
        have HST := Lib.hid hst
        have hW2 : Hid (GcW w G A C (.slice a K ca) (.slice b k cb) w2) := Lib.hid ⟨hW.out.ia.below hb2, hW.out.ib.below hb2, hW.out.le, hW.out.bd, hW.out.gcd, hW.out.bel.trans (hb2.mono hW.out.bel.size)⟩
        obtain ⟨fa, hfa⟩ : ∃ fa, fa = co plus p := ⟨_, rfl⟩
        obtain ⟨fb, hfb⟩ : ∃ fb, fb = co (!plus) q := ⟨_, rfl⟩
        obtain ⟨fc, hfc⟩ : ∃ fc, fc = co (!plus) r := ⟨_, rfl⟩
        obtain ⟨fd, hfd⟩ : ∃ fd, fd = co plus s := ⟨_, rfl⟩
        have hz : Hid ((fb == 0) = decide (q = 0)) := Lib.hid (by rw [hfb]; exact four_zero _ _)
        rw [← hfa, ← hfb, ← hfc, ← hfd]
        have HFA := Lib.hid hfa
        have HFB := Lib.hid hfb
        have HFC := Lib.hid hfc
        have HFD := Lib.hid hfd
        clear hfa hfb hfc hfd hst hb2 hW
        go_wp2_with fail
        obtain ⟨B, hB⟩ : ∃ B, B = w2.heap.size := ⟨_, rfl⟩
        obtain ⟨w3, hw3⟩ : ∃ w3, w3 = w2.alloc (Obj.cells #[Value.int .i64 fa, Value.int .i64 fb, Value.int .i64 fc, Value.int .i64 fd] 89) := ⟨_, rfl⟩
        have hF3 : Hid (FourAt B fa fb fc fd w3) := Lib.hid (by rw [hw3, hB]; exact heap_lastM w2 _)
        have hW3 : Hid (GcW w G A C (.slice a K ca) (.slice b k cb) w3) := Lib.hid (by
          have hb := alloc_below w2 (Obj.cells #[Value.int .i64 fa, Value.int .i64 fb, Value.int .i64 fc, Value.int .i64 fd] 89)
          rw [hw3]
          exact ⟨hW2.out.ia.below hb, hW2.out.ib.below hb, hW2.out.le, hW2.out.bd, hW2.out.gcd, hW2.out.bel.trans (hb.mono hW2.out.bel.size)⟩)
        rw [← hw3]
        simp only [← hB]
        clear hw3 hB hW2
        refine (none_any fa fb fc fd _).mono ?_
        rintro e w4 ⟨rfl, hb4⟩
        rw [hz.out]
        have hF4 : Hid (FourAt B fa fb fc fd w4) := Lib.hid (hF3.out.keep (hb4.block B hF3.out.lt))
        have hW4 : Hid (GcW w G A C (.slice a K ca) (.slice b k cb) w4) := Lib.hid ⟨hW3.out.ia.below hb4, hW3.out.ib.below hb4, hW3.out.le, hW3.out.bd, hW3.out.gcd, hW3.out.bel.trans (hb4.mono hW3.out.bel.size)⟩
        clear hb4 hF3 hW3
        have hC0 : C ≠ 0 := by
          intro e0
          have := Hk.out
          rw [e0, Lim.nl_zero] at this
          omega
        have HC0 := Lib.hid hC0
        clear hC0
        by_cases hq : q = 0
        · rw [decide_eq_true hq]
          clear hq
          go_wp2_with fail
          refine (dividedBy_any A C _ _ _ hW4.out.ia hW4.out.ib hW4.out.bd (by rw [Hk.out]; omega) HC0.out).mono ?_
          rintro e w5 ⟨v1, v2, rfl, hv1, hv2, hb5⟩
          have hW5 : Hid (GcW w G C (A % C) (.slice b k cb) v2 w5) := Lib.hid ⟨hW4.out.ib.below hb5, hv2, Lim.nl_mono (Nat.le_of_lt (Nat.mod_lt _ (Nat.pos_of_ne_zero HC0.out))), by rw [Hk.out]; omega, by rw [gcd_next]; exact hW4.out.gcd, hW4.out.bel.trans (hb5.mono hW4.out.bel.size)⟩
          clear hv1 hv2 hb5
          go_wp2_with fail
          refine ⟨⟨C, A % C, hW5⟩, ?_⟩
          rw [numV_eq hW5.out.ib, hnum.out]
          exact Nat.mod_lt _ (Nat.pos_of_ne_zero HC0.out)
        · rw [decide_eq_false hq]
          have hl1 : Lim.Leh1 x y p q r s plus := by
            rcases HST.out.one with h | h
            · exact absurd h.2.2.1 hq
            · exact h
          obtain ⟨A', C', hs⟩ := HST.out.leh.whole hl1 (Lim.B_pow (K - 2)) (A := A) (C := C) (A0 := A % Lim.B ^ (K - 2)) (C0 := C % Lim.B ^ (K - 2)) (by rw [HX.out]; exact (Nat.div_add_mod' _ _).symm) (by rw [HY.out]; exact (Nat.div_add_mod' _ _).symm) (Nat.mod_lt _ (Lim.B_pow _)) (Nat.mod_lt _ (Lim.B_pow _))
          have hsi := stepped_ints hs
          rw [← HFA.out, ← HFB.out, ← HFC.out, ← HFD.out] at hsi
          have HS := Lib.hid hs
          have HSI := Lib.hid hsi
          have hnA : Hid (Lim.nl A' ≤ Lim.nl C) := Lib.hid (Lim.nl_mono hs.le)
          have hnC : Hid (Lim.nl C' ≤ Lim.nl A') := Lib.hid (Lim.nl_mono (Nat.le_of_lt hs.lt))
          have ba := co_bound (plus := plus) HST.out.bp
          have bb := co_bound (plus := !plus) HST.out.bq
          have bc := co_bound (plus := !plus) HST.out.br
          have bd := co_bound (plus := plus) HST.out.bs
          rw [← HFA.out] at ba
          rw [← HFB.out] at bb
          rw [← HFC.out] at bc
          rw [← HFD.out] at bd
          have BA := Lib.hid ba
          have BB := Lib.hid bb
          have BC := Lib.hid bc
          have BD := Lib.hid bd
          have hca : Hid (∀ w', Below w4.heap.size w4 w' → Calls Tryd.prog 68 #[.slice a K ca, .slice b k cb, .int .i64 fa, .int .i64 fb] w' fun e w'' => ∃ v', e = .returned v' ∧ IntsIn (fun _ => True) w'' v' (Lim.ls A') ∧ Below w'.heap.size w' w'') := Lib.hid (fun w' hb => combined_any A C A' fa fb _ _ w' (hW4.out.ia.below hb) (hW4.out.ib.below hb) hW4.out.bd hW4.out.le BA.out.1 BA.out.2 BB.out.1 BB.out.2 HSI.out.1 (Nat.le_trans hnA.out hW4.out.le))
          have hcc : Hid (∀ w', Below w4.heap.size w4 w' → Calls Tryd.prog 68 #[.slice a K ca, .slice b k cb, .int .i64 fc, .int .i64 fd] w' fun e w'' => ∃ v', e = .returned v' ∧ IntsIn (fun _ => True) w'' v' (Lim.ls C') ∧ Below w'.heap.size w' w'') := Lib.hid (fun w' hb => combined_any A C C' fc fd _ _ w' (hW4.out.ia.below hb) (hW4.out.ib.below hb) hW4.out.bd hW4.out.le BC.out.1 BC.out.2 BD.out.1 BD.out.2 HSI.out.2 (Nat.le_trans hnC.out (Nat.le_trans hnA.out hW4.out.le)))
          have c0 := hF4.out.c0
          have c1 := hF4.out.c1
          have c2' := hF4.out.c2
          have c3 := hF4.out.c3
          clear hs hsi ba bb bc bd hq hl1
          go_wp2_with fail
          go_region_held3 (fun w' => Below w4.heap.size w4 w' ∧ w'.cell? ⟨B, 0, none⟩ = some (.int .i64 fa) ∧ w'.cell? ⟨B, 1, none⟩ = some (.int .i64 fb) ∧ w'.cell? ⟨B, 2, none⟩ = some (.int .i64 fc) ∧ w'.cell? ⟨B, 3, none⟩ = some (.int .i64 fd)) (first | (with_reducible assumption) | exact ⟨Below.drew (Below.refl _ _), c0, c1, c2', c3⟩ | exact held_next hF4.out (by assumption) (by assumption)) (first | (go_at_call 68; first | ((with_reducible refine (hca.out _ ?hb).mono ?_); (case hb => exact And.left (by assumption)); rintro e w5 ⟨v5, rfl, hv5, hb5⟩) | ((with_reducible refine (hcc.out _ ?hb).mono ?_); (case hb => exact And.left (by assumption)); rintro e w6 ⟨v6, rfl, hv6, hb6⟩)) | fail "no arm")
          have hb46 : Below w4.heap.size w4 w6 := And.left (by assumption)
          have hW6 : Hid (GcW w G A' C' v5 v6 w6) := Lib.hid ⟨hv5.below hb6, hv6, hnC.out, Nat.le_trans hnA.out (by rw [Hk.out]; omega), by rw [HS.out.gcd]; exact hW4.out.gcd, hW4.out.bel.trans (hb46.mono hW4.out.bel.size)⟩
          clear hv5 hv6 hb5 hb6 hb46
          go_wp2_with fail
          refine ⟨⟨A', C', hW6⟩, ?_⟩
          rw [numV_eq hW6.out.ib, hnum.out]
          exact Nat.lt_of_lt_of_le HS.out.lt HS.out.le
      · have c2 : ¬ (2 : Int) < (k : Int) := by omega
        by_cases hk0 : k = 0
        · have hC0 : C = 0 := by
            apply Classical.byContradiction
            intro hne
            have := Lim.nl_pos.2 hne
            rw [Hk.out] at this
            omega
          have hres : Hid (IntsIn (fun _ => True) wr (.slice a K ca) (Lim.ls G)) := Lib.hid (by
            have h1 := hW.out.gcd
            rw [hC0, Nat.gcd_zero_right] at h1
            rw [← h1]; exact hW.out.ia)
          have t1 : ((k : Int) == 0) = true := by rw [hk0]; rfl
          clear hC0
          go_wp2_with fail
          go_ret
          exact ⟨_, rfl, hres.out, hW.out.bel⟩
        · have t1 : ((k : Int) == 0) = false := beq_eq_false_iff_ne.2 (by omega)
          have hC0 : C ≠ 0 := by
            intro e0
            have := Hk.out
            rw [e0, Lim.nl_zero] at this
            omega
          have HC0 := Lib.hid hC0
          clear hC0
          go_wp2_with fail
          refine (dividedBy_any A C _ _ _ hW.out.ia hW.out.ib hW.out.bd (by rw [Hk.out]; omega) HC0.out).mono ?_
          rintro e w5 ⟨v1, v2, rfl, hv1, hv2, hb5⟩
          have HV2 := Lib.hid hv2
          have HIB := Lib.hid (hW.out.ib.below hb5)
          have HB5 := Lib.hid (hW.out.bel.trans (hb5.mono hW.out.bel.size))
          have hmod := Nat.mod_lt A (Nat.pos_of_ne_zero HC0.out)
          have HMN := Lib.hid (Lim.nl_mono (Nat.le_of_lt hmod))
          clear hv1 hv2 hb5 hmod
          go_wp2_with fail
          refine (highest_any _ C 2 _ _ HIB.out (by rw [Hk.out]; omega) (by omega) (by omega)).mono ?_
          rintro e w6 ⟨rfl, rfl⟩
          rw [show C / Lim.B ^ (2 - 2) = C by rw [Nat.sub_self, Nat.pow_zero, Nat.div_one]]
          go_wp2_with fail
          refine (highest_any _ (A % C) 2 _ _ HV2.out (by have := HMN.out; rw [Hk.out] at this; omega) (by omega) (by omega)).mono ?_
          rintro e w6 ⟨rfl, rfl⟩
          rw [show A % C / Lim.B ^ (2 - 2) = A % C by rw [Nat.sub_self, Nat.pow_zero, Nat.div_one]]
          have hCl : Hid (C < 1000000000000000000) := Lib.hid (by
            have h1 : C < Lim.B ^ 2 := Lim.nl_le.1 (by rw [Hk.out]; omega)
            have h2 : Lim.B ^ 2 = 1000000000000000000 := by rw [Lim.B_eq]
            omega)
          have hgc : Hid (Nat.gcd C (A % C) = G) := Lib.hid (by rw [gcd_next]; exact hW.out.gcd)
          have hml : Hid (A % C < 1000000000000000000) := Lib.hid (Nat.lt_trans (Nat.mod_lt _ (Nat.pos_of_ne_zero HC0.out)) hCl.out)
          generalize A % C = D at hgc hml HV2 HMN ⊢
          go_wp2_with fail
          go_loopw [10, 11] (fun xx yy wq => ∃ x y : Nat, xx = .int .i64 (x : Int) ∧ yy = .int .i64 (y : Int) ∧ x < 1000000000000000000 ∧ y < 1000000000000000000 ∧ Hid (Nat.gcd x y = G) ∧ Hid (Below w.heap.size w wq)) (fun _ yy _ => (intOf yy).toNat)
          case atStart => exact ⟨C, D, rfl, rfl, hCl.out, hml.out, hgc, HB5⟩
          case round =>
            obtain ⟨x, y, rfl, rfl, hx, hy, hg, hB⟩ := hrel
            by_cases hy0 : 0 < y
            · obtain ⟨m, hm⟩ : ∃ m, m = x % y := ⟨_, rfl⟩
              have hmy : m < y := by rw [hm]; exact Nat.mod_lt _ hy0
              have hg2 : Hid (Nat.gcd y m = G) := Lib.hid (by rw [hm, gcd_next]; exact hg.out)
              have e1 : ((x : Int)).tmod (y : Int) = (m : Int) := by rw [Int.tmod_eq_emod_of_nonneg (by omega), hm]; exact (Int.natCast_emod _ _).symm
              have e2 : IntKind.i64.wrap (m : Int) = (m : Int) := IntWalk.i64_in _ (by omega)
              have e3 : ((y : Int) == 0) = false := beq_eq_false_iff_ne.2 (by omega)
              have e4 : ¬ y = 0 := by omega
              clear hm
              go_wp2_with fail
              go_quiet (fail)
              go_wp2_with fail
              refine ⟨⟨y, m, rfl, rfl, by omega, by omega, hg2, Lib.hid ?_⟩, by simp [intOf]; omega⟩
              exact hB.out.trans ⟨rfl, rfl, rfl, Nat.le_refl _, fun _ _ => rfl⟩
            · obtain rfl : y = 0 := by omega
              have hxG : x = G := by have := hg.out; rwa [Nat.gcd_zero_right] at this
              obtain ⟨d, hd⟩ : ∃ d, d = x % 1000000000 := ⟨_, rfl⟩
              obtain ⟨q, hq⟩ : ∃ q, q = x / 1000000000 := ⟨_, rfl⟩
              have e1 : ((x : Int)).tmod 1000000000 = (d : Int) := by rw [Int.tmod_eq_emod_of_nonneg (by omega)]; omega
              have e2 : ((x : Int)).tdiv 1000000000 = (q : Int) := by rw [Int.tdiv_eq_ediv_of_nonneg (by omega)]; omega
              have e3 : IntKind.i64.wrap (d : Int) = (d : Int) := IntWalk.i64_in _ (by omega)
              have e4 : IntKind.i64.wrap (q : Int) = (q : Int) := IntWalk.i64_in _ (by omega)
              have hlo : Hid (Lim.Lo [d, q]) := Lib.hid (fun z hz => by
                rw [Lim.B_eq]
                simp only [List.mem_cons, List.not_mem_nil, or_false] at hz
                rcases hz with rfl | rfl <;> omega)
              have hlv : Hid (Lim.lv [d, q] = G) := Lib.hid (by
                simp only [Lim.lv, Lim.B_eq]
                omega)
              clear hd hq hxG
              go_wp2_with fail
              refine (trimmed_any (fun _ => True) _ _ _ (two_ints d q _) hlo.out).mono ?_
              rintro e w9 ⟨v9, rfl, hv9, rfl⟩
              rw [hlv.out] at hv9
              have HV9 := Lib.hid hv9
              clear hv9
              go_wp2_with fail
              go_ret
              exact ⟨v9, rfl, HV9.out, hB.out.alloc hB.out.size _⟩
end Go.Proofs.YtbcoblpnihdhgaaDoor
