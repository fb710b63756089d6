/-
  The document's own answers of layer 4: Of, Minus, Add, Sub, Mul, Div.
-/
import Derived.Test.YtbcoblpnihdhgaaGreatDoorRfA
set_option linter.unusedVariables false
set_option maxRecDepth 100000
namespace Go.Proofs.YtbcoblpnihdhgaaGreatDoor
open Go.RowKit
open Rt
theorem sm_int {n : Nat} (h : n ≤ 9223372036854775808) : Sm n := Nat.le_trans ((nS_size (k := 19) (by decide)).2 (by omega)) (by decide)
theorem minus_is {b : Raw} (h : okR b = true) : (negQ b.q).raw = ⟨if isZ b.num then b.neg else !b.neg, b.num, b.den⟩ := by
  obtain ⟨_, hr, _, _⟩ := okR_of h
  have e : isZ b.num = decide (b.q.num = 0) := by conv => lhs; rw [← hr]
                                                  exact isZ_nS _
  have e1 : nS b.q.num = b.num := congrArg Raw.num hr
  have e2 : nS b.q.den = b.den := congrArg Raw.den hr
  rw [e]
  unfold negQ
  by_cases h0 : b.q.num = 0
  · rw [if_pos h0, decide_eq_true h0]; exact Raw.eq_of rfl e1 e2
  · rw [if_neg h0, decide_eq_false h0]; exact Raw.eq_of rfl e1 e2
theorem lowR_z (neg : Bool) {n d : Nat} : (low neg n d).raw = (low neg n d).raw := rfl
theorem mulE_steps {a b : Raw} (ha : okR a = true) (hb : okR b = true) :
    (mulR a.num b.num = (⟨#[]⟩, 2) ∧ mulE a b = (noRaw, 2)) ∨ (∃ n, mulR a.num b.num = (nS n, 0) ∧ mulR a.den b.den = (⟨#[]⟩, 2) ∧ mulE a b = (noRaw, 2)) ∨
    (∃ n d, mulR a.num b.num = (nS n, 0) ∧ mulR a.den b.den = (nS d, 0) ∧ Sm n ∧ Sm d ∧ d ≠ 0 ∧ mulE a b = ((low (a.neg != b.neg) n d).raw, 0)) := by
  obtain ⟨p, hp⟩ : ∃ p : Q, a = p.raw := ⟨a.q, (okR_of ha).2.1.symm⟩
  obtain ⟨q, hq⟩ : ∃ q : Q, b = q.raw := ⟨b.q, (okR_of hb).2.1.symm⟩
  subst hp hq
  obtain ⟨h1, h2, h3⟩ := raw_sm ha
  obtain ⟨k1, k2, k3⟩ := raw_sm hb
  have e1 : mulR p.raw.num q.raw.num = within (p.num * q.num) := mulS h2 k2
  have e2 : mulR p.raw.den q.raw.den = within (p.den * q.den) := mulS h3 k3
  have e3 : mulE p.raw q.raw = (if fit (p.num * q.num) && fit (p.den * q.den) then ((mulQ p q).raw, 0) else (noRaw, 2)) := by
    unfold mulE; rw [ha, hb, Q.raw_q, Q.raw_q]; rfl
  rw [e1, e2, e3]
  by_cases f1 : fit (p.num * q.num) = true
  · by_cases f2 : fit (p.den * q.den) = true
    · right; right
      refine ⟨_, _, within_yes f1, within_yes f2, fit_sm f1, fit_sm f2, Nat.mul_ne_zero (Nat.pos_iff_ne_zero.1 h1.1) (Nat.pos_iff_ne_zero.1 k1.1), ?_⟩
      rw [f1, f2]; rfl
    · have f2 := Bool.eq_false_iff.2 f2
      right; left
      exact ⟨_, within_yes f1, within_no f2, by rw [f2]; simp⟩
  · have f1 := Bool.eq_false_iff.2 f1
    left
    exact ⟨within_no f1, by rw [f1]; rfl⟩
theorem addE_steps {a b : Raw} (ha : okR a = true) (hb : okR b = true) :
    (mulR a.num b.den = (⟨#[]⟩, 2) ∧ addE a b = (noRaw, 2)) ∨ (∃ p, mulR a.num b.den = (nS p, 0) ∧ mulR b.num a.den = (⟨#[]⟩, 2) ∧ addE a b = (noRaw, 2)) ∨
    (∃ p q, mulR a.num b.den = (nS p, 0) ∧ mulR b.num a.den = (nS q, 0) ∧ mulR a.den b.den = (⟨#[]⟩, 2) ∧ addE a b = (noRaw, 2)) ∨
    (∃ p q d, mulR a.num b.den = (nS p, 0) ∧ mulR b.num a.den = (nS q, 0) ∧ mulR a.den b.den = (nS d, 0) ∧ Sm d ∧ d ≠ 0 ∧
      ((a.neg = b.neg ∧ addR (nS p) (nS q) = (⟨#[]⟩, 2) ∧ addE a b = (noRaw, 2)) ∨ (∃ n, a.neg = b.neg ∧ addR (nS p) (nS q) = (nS n, 0) ∧ Sm n ∧ addE a b = ((low a.neg n d).raw, 0)) ∨
       (∃ n c, a.neg ≠ b.neg ∧ cmpR (nS p) (nS q) = c ∧ 0 ≤ c ∧ subR (nS p) (nS q) = (nS n, 0) ∧ Sm n ∧ addE a b = ((low a.neg n d).raw, 0)) ∨
       (∃ n, a.neg ≠ b.neg ∧ cmpR (nS p) (nS q) = -1 ∧ subR (nS q) (nS p) = (nS n, 0) ∧ Sm n ∧ addE a b = ((low b.neg n d).raw, 0)))) := by
  obtain ⟨x, hx⟩ : ∃ x : Q, a = x.raw := ⟨a.q, (okR_of ha).2.1.symm⟩
  obtain ⟨y, hy⟩ : ∃ y : Q, b = y.raw := ⟨b.q, (okR_of hb).2.1.symm⟩
  subst hx hy
  obtain ⟨h1, h2, h3⟩ := raw_sm ha
  obtain ⟨k1, k2, k3⟩ := raw_sm hb
  have e1 : mulR x.raw.num y.raw.den = within (x.num * y.den) := mulS h2 k3
  have e2 : mulR y.raw.num x.raw.den = within (y.num * x.den) := mulS k2 h3
  have e3 : mulR x.raw.den y.raw.den = within (x.den * y.den) := mulS h3 k3
  have n1 : x.raw.neg = x.neg := rfl
  have n2 : y.raw.neg = y.neg := rfl
  have e4 : addE x.raw y.raw = (if fit (x.num * y.den) && (fit (y.num * x.den) && (fit (x.den * y.den) && (x.neg != y.neg || fit (x.num * y.den + y.num * x.den)))) then ((addQ x y).raw, 0) else (noRaw, 2)) := by
    unfold addE; rw [ha, hb, Q.raw_q, Q.raw_q]; rfl
  rw [e1, e2, e3, e4, n1, n2]
  by_cases f1 : fit (x.num * y.den) = true
  case neg =>
    have f1 := Bool.eq_false_iff.2 f1
    left; exact ⟨within_no f1, by rw [f1]; rfl⟩
  right
  by_cases f2 : fit (y.num * x.den) = true
  case neg =>
    have f2 := Bool.eq_false_iff.2 f2
    left; exact ⟨_, within_yes f1, within_no f2, by rw [f2]; simp⟩
  right
  by_cases f3 : fit (x.den * y.den) = true
  case neg =>
    have f3 := Bool.eq_false_iff.2 f3
    left; exact ⟨_, _, within_yes f1, within_yes f2, within_no f3, by rw [f3]; simp⟩
  right
  refine ⟨_, _, _, within_yes f1, within_yes f2, within_yes f3, fit_sm f3, Nat.mul_ne_zero (Nat.pos_iff_ne_zero.1 h1.1) (Nat.pos_iff_ne_zero.1 k1.1), ?_⟩
  rw [f1, f2, f3, addS (fit_sm f1) (fit_sm f2), cmpS (fit_sm f1) (fit_sm f2)]
  by_cases hn : x.neg = y.neg
  · have e0 : (x.neg != y.neg) = false := by rw [hn]; simp
    rw [e0]
    by_cases f4 : fit (x.num * y.den + y.num * x.den) = true
    · right; left
      exact ⟨_, hn, within_yes f4, fit_sm f4, by rw [f4]; unfold addQ; rw [if_pos hn]; rfl⟩
    · have f4 := Bool.eq_false_iff.2 f4
      left
      exact ⟨hn, within_no f4, by rw [f4]; rfl⟩
  · have e0 : (x.neg != y.neg) = true := by simpa using hn
    rw [e0]
    right; right
    by_cases hle : y.num * x.den ≤ x.num * y.den
    · left
      refine ⟨_, _, hn, rfl, ?_, subS (fit_sm f1) (fit_sm f2) hle, sm_le (Nat.sub_le _ _) (fit_sm f1), ?_⟩
      · rw [if_neg (by omega)]; split <;> decide
      · unfold addQ; rw [if_neg hn, if_pos hle]; rfl
    · right
      refine ⟨_, hn, ?_, subS (fit_sm f2) (fit_sm f1) (by omega), sm_le (Nat.sub_le _ _) (fit_sm f2), ?_⟩
      · rw [if_pos (by omega)]
      · unfold addQ; rw [if_neg hn, if_neg hle]; rfl
theorem divE_steps {a b : Raw} (ha : okR a = true) (hb : okR b = true) : (isZ b.num = true ∧ divE a b = (noRaw, 14)) ∨ (isZ b.num = false ∧ divE a b = mulE a ⟨b.neg, b.den, b.num⟩) := by
  obtain ⟨x, hx⟩ : ∃ x : Q, a = x.raw := ⟨a.q, (okR_of ha).2.1.symm⟩
  obtain ⟨y, hy⟩ : ∃ y : Q, b = y.raw := ⟨b.q, (okR_of hb).2.1.symm⟩
  subst hx hy
  obtain ⟨k1, k2, k3⟩ := raw_sm hb
  have e : isZ y.raw.num = decide (y.num = 0) := isZ_nS _
  rw [e]
  by_cases h0 : y.num = 0
  · left; exact ⟨decide_eq_true h0, divE_zero ha hb h0⟩
  · right
    refine ⟨decide_eq_false h0, ?_⟩
    have ei : (⟨y.raw.neg, y.raw.den, y.raw.num⟩ : Raw) = (invQ y).raw := rfl
    have oi : okR (invQ y).raw = true := by
      refine okR_raw ⟨by show 0 < y.num; omega, ?_, fun e => ?_⟩ k3 k2
      · show Nat.gcd y.den y.num = 1
        rw [Nat.gcd_comm]; exact k1.2.1
      · have := k1.1
        simp only [invQ] at e; omega
    rw [ei]
    unfold divE mulE
    rw [ha, hb, oi, Q.raw_q, Q.raw_q, Q.raw_q, if_neg h0]
    rfl
set_option maxHeartbeats 4000000 in
theorem refmul4_any (a b : Raw) (w : World) : Calls Tryz.prog 27 #[.agg #[.bool a.neg, .string a.num, .string a.den], .agg #[.bool b.neg, .string b.num, .string b.den]] w (GivesR (mulE a b) w) := by
  obtain ⟨t, ht⟩ : ∃ t, t = mulE a b := ⟨_, rfl⟩
  rw [← ht]
  have D0 := Lib.hid (Below.refl w.heap.size w)
  by_cases ha : okR a = true
  case neg =>
    have ha := Bool.eq_false_iff.2 ha
    have hva : Hid (∀ w, Calls Tryz.prog 35 #[.agg #[.bool a.neg, .string a.num, .string a.den]] w (GivesB false w)) := Lib.hid (fun w => by have := refvalid4_any a w; rwa [ha] at this)
    have HTT : Hid (t = (noRaw, 1)) := Lib.hid (by rw [ht]; unfold mulE; rw [ha]; rfl)
    clear ht ha
    go_enter Tryz.func27, Tryz.ntmps27
    go_wp2_with fail
    obtain ⟨B1, hB1⟩ : ∃ B, B = w.heap.size := ⟨_, rfl⟩
    obtain ⟨W1_0, hW1_0⟩ : ∃ W, W = w.alloc (Obj.cells #[Value.bool a.neg, Value.string a.num, Value.string a.den] 24) := ⟨_, rfl⟩
    have hb : Below w.heap.size w W1_0 := by rw [hW1_0]; exact (Below.refl _ _).alloc (Nat.le_refl _) _
    have hzW1_0 : w.heap.size = B1 := by rw [hB1]
    have hlW1_0 : RatAt (B1) a W1_0 := by rw [← hzW1_0, hW1_0]; exact ⟨heap_lastM _ _⟩
    have D1 := Lib.hid (D0.out.trans (hb.mono D0.out.size))
    clear hb
    have a_1 := Lib.hid hlW1_0
    clear hlW1_0
    obtain ⟨W1_1, hW1_1⟩ : ∃ W, W = W1_0.alloc (Obj.cells #[Value.bool b.neg, Value.string b.num, Value.string b.den] 24) := ⟨_, rfl⟩
    have hb : Below W1_0.heap.size W1_0 W1_1 := by rw [hW1_1]; exact (Below.refl _ _).alloc (Nat.le_refl _) _
    have hzW1_1 : W1_0.heap.size = B1 + 1 := by rw [hW1_0]; simp [hzW1_0]
    have hlW1_1 : RatAt (B1 + 1) b W1_1 := by rw [← hzW1_1, hW1_1]; exact ⟨heap_lastM _ _⟩
    have D2 := Lib.hid (D1.out.trans (hb.mono D1.out.size))
    have a_2 := Lib.hid (a_1.out.bel hb)
    clear D1 a_1
    clear hb
    have b_2 := Lib.hid hlW1_1
    clear hlW1_1
    obtain ⟨W1_2, hW1_2⟩ : ∃ W, W = W1_1.alloc (Obj.cells #[Value.bool false, Value.string ⟨#[]⟩, Value.string ⟨#[]⟩] 24) := ⟨_, rfl⟩
    have hb : Below W1_1.heap.size W1_1 W1_2 := by rw [hW1_2]; exact (Below.refl _ _).alloc (Nat.le_refl _) _
    have hzW1_2 : W1_1.heap.size = B1 + 1 + 1 := by rw [hW1_1]; simp [hzW1_1]
    have hlW1_2 : RatAt (B1 + 1 + 1) noRaw W1_2 := by rw [← hzW1_2, hW1_2]; exact ⟨heap_lastM _ _⟩
    have D3 := Lib.hid (D2.out.trans (hb.mono D2.out.size))
    have a_3 := Lib.hid (a_2.out.bel hb)
    have b_3 := Lib.hid (b_2.out.bel hb)
    clear D2 a_2 b_2
    clear hb
    have z_3 := Lib.hid hlW1_2
    clear hlW1_2
    rw [← hW1_0]
    rw [← hW1_1]
    rw [← hW1_2]
    simp only [← hB1]
    have HW1_0 := Lib.hid hW1_0
    clear hW1_0 hzW1_0
    have HW1_1 := Lib.hid hW1_1
    clear hW1_1 hzW1_1
    have HW1_2 := Lib.hid hW1_2
    clear hW1_2 hzW1_2
    have HB1 := Lib.hid hB1
    clear hB1
    have ac0 := a_3.out.c0
    have ac1 := a_3.out.c1
    have ac2 := a_3.out.c2
    have bc0 := b_3.out.c0
    have bc1 := b_3.out.c1
    have bc2 := b_3.out.c2
    go_wp2_with fail
    clear ac0 ac1 ac2 bc0 bc1 bc2
    refine (hva.out _).mono ?_
    rintro e v4 ⟨rfl, hb⟩
    have D4 := Lib.hid (D3.out.trans (hb.mono D3.out.size))
    have a_4 := Lib.hid (a_3.out.bel hb)
    have b_4 := Lib.hid (b_3.out.bel hb)
    have z_4 := Lib.hid (z_3.out.bel hb)
    clear D3 a_3 b_3 z_3
    clear hb
    have zz0 := z_4.out.c0; have kk0 := z_4.out.fz 0
    have zz1 := z_4.out.c1; have kk1 := z_4.out.fz 1
    have zz2 := z_4.out.c2; have kk2 := z_4.out.fz 2
    go_wp2_with fail
    (try simp only [Exit.inBlock, Exit.then])
    first | (refine bodyPost_ret (results_rat rfl _ _ (B1 + 1 + 1) ⟨_, _, _⟩ _ rfl rfl (z_4.out.set ⟨_, _, _⟩)) rfl ?_; rw [HTT.out]; exact ⟨rfl, ((D4.out.setCell (p := ⟨B1 + 1 + 1, 0, none⟩) (by have := HB1.out; show w.heap.size ≤ B1 + 1 + 1; omega) _).setCell (p := ⟨B1 + 1 + 1, 1, none⟩) (by have := HB1.out; show w.heap.size ≤ B1 + 1 + 1; omega) _).setCell (p := ⟨B1 + 1 + 1, 2, none⟩) (by have := HB1.out; show w.heap.size ≤ B1 + 1 + 1; omega) _⟩) | (refine bodyPost_ret (results_rat rfl _ _ (B1 + 1 + 1) noRaw _ rfl rfl z_4.out) rfl ?_; rw [HTT.out]; exact ⟨rfl, D4.out⟩)
  have hva : Hid (∀ w, Calls Tryz.prog 35 #[.agg #[.bool a.neg, .string a.num, .string a.den]] w (GivesB true w)) := Lib.hid (fun w => by have := refvalid4_any a w; rwa [ha] at this)
  by_cases hb : okR b = true
  case neg =>
    have hb := Bool.eq_false_iff.2 hb
    have hvb : Hid (∀ w, Calls Tryz.prog 35 #[.agg #[.bool b.neg, .string b.num, .string b.den]] w (GivesB false w)) := Lib.hid (fun w => by have := refvalid4_any b w; rwa [hb] at this)
    have HTT : Hid (t = (noRaw, 1)) := Lib.hid (by rw [ht]; unfold mulE; rw [ha, hb]; rfl)
    clear ht ha hb
    go_enter Tryz.func27, Tryz.ntmps27
    go_wp2_with fail
    obtain ⟨B1, hB1⟩ : ∃ B, B = w.heap.size := ⟨_, rfl⟩
    obtain ⟨W1_0, hW1_0⟩ : ∃ W, W = w.alloc (Obj.cells #[Value.bool a.neg, Value.string a.num, Value.string a.den] 24) := ⟨_, rfl⟩
    have hb : Below w.heap.size w W1_0 := by rw [hW1_0]; exact (Below.refl _ _).alloc (Nat.le_refl _) _
    have hzW1_0 : w.heap.size = B1 := by rw [hB1]
    have hlW1_0 : RatAt (B1) a W1_0 := by rw [← hzW1_0, hW1_0]; exact ⟨heap_lastM _ _⟩
    have D1 := Lib.hid (D0.out.trans (hb.mono D0.out.size))
    clear hb
    have a_1 := Lib.hid hlW1_0
    clear hlW1_0
    obtain ⟨W1_1, hW1_1⟩ : ∃ W, W = W1_0.alloc (Obj.cells #[Value.bool b.neg, Value.string b.num, Value.string b.den] 24) := ⟨_, rfl⟩
    have hb : Below W1_0.heap.size W1_0 W1_1 := by rw [hW1_1]; exact (Below.refl _ _).alloc (Nat.le_refl _) _
    have hzW1_1 : W1_0.heap.size = B1 + 1 := by rw [hW1_0]; simp [hzW1_0]
    have hlW1_1 : RatAt (B1 + 1) b W1_1 := by rw [← hzW1_1, hW1_1]; exact ⟨heap_lastM _ _⟩
    have D2 := Lib.hid (D1.out.trans (hb.mono D1.out.size))
    have a_2 := Lib.hid (a_1.out.bel hb)
    clear D1 a_1
    clear hb
    have b_2 := Lib.hid hlW1_1
    clear hlW1_1
    obtain ⟨W1_2, hW1_2⟩ : ∃ W, W = W1_1.alloc (Obj.cells #[Value.bool false, Value.string ⟨#[]⟩, Value.string ⟨#[]⟩] 24) := ⟨_, rfl⟩
    have hb : Below W1_1.heap.size W1_1 W1_2 := by rw [hW1_2]; exact (Below.refl _ _).alloc (Nat.le_refl _) _
    have hzW1_2 : W1_1.heap.size = B1 + 1 + 1 := by rw [hW1_1]; simp [hzW1_1]
    have hlW1_2 : RatAt (B1 + 1 + 1) noRaw W1_2 := by rw [← hzW1_2, hW1_2]; exact ⟨heap_lastM _ _⟩
    have D3 := Lib.hid (D2.out.trans (hb.mono D2.out.size))
    have a_3 := Lib.hid (a_2.out.bel hb)
    have b_3 := Lib.hid (b_2.out.bel hb)
    clear D2 a_2 b_2
    clear hb
    have z_3 := Lib.hid hlW1_2
    clear hlW1_2
    rw [← hW1_0]
    rw [← hW1_1]
    rw [← hW1_2]
    simp only [← hB1]
    have HW1_0 := Lib.hid hW1_0
    clear hW1_0 hzW1_0
    have HW1_1 := Lib.hid hW1_1
    clear hW1_1 hzW1_1
    have HW1_2 := Lib.hid hW1_2
    clear hW1_2 hzW1_2
    have HB1 := Lib.hid hB1
    clear hB1
    have ac0 := a_3.out.c0
    have ac1 := a_3.out.c1
    have ac2 := a_3.out.c2
    have bc0 := b_3.out.c0
    have bc1 := b_3.out.c1
    have bc2 := b_3.out.c2
    go_wp2_with fail
    clear ac0 ac1 ac2 bc0 bc1 bc2
    refine (hva.out _).mono ?_
    rintro e v4 ⟨rfl, hb⟩
    have D4 := Lib.hid (D3.out.trans (hb.mono D3.out.size))
    have a_4 := Lib.hid (a_3.out.bel hb)
    have b_4 := Lib.hid (b_3.out.bel hb)
    have z_4 := Lib.hid (z_3.out.bel hb)
    clear D3 a_3 b_3 z_3
    clear hb
    have ac0 := a_4.out.c0
    have ac1 := a_4.out.c1
    have ac2 := a_4.out.c2
    have bc0 := b_4.out.c0
    have bc1 := b_4.out.c1
    have bc2 := b_4.out.c2
    go_wp2_with fail
    clear ac0 ac1 ac2 bc0 bc1 bc2
    refine (hvb.out _).mono ?_
    rintro e v5 ⟨rfl, hb⟩
    have D5 := Lib.hid (D4.out.trans (hb.mono D4.out.size))
    have a_5 := Lib.hid (a_4.out.bel hb)
    have b_5 := Lib.hid (b_4.out.bel hb)
    have z_5 := Lib.hid (z_4.out.bel hb)
    clear D4 a_4 b_4 z_4
    clear hb
    have zz0 := z_5.out.c0; have kk0 := z_5.out.fz 0
    have zz1 := z_5.out.c1; have kk1 := z_5.out.fz 1
    have zz2 := z_5.out.c2; have kk2 := z_5.out.fz 2
    go_wp2_with fail
    (try simp only [Exit.inBlock, Exit.then])
    first | (refine bodyPost_ret (results_rat rfl _ _ (B1 + 1 + 1) ⟨_, _, _⟩ _ rfl rfl (z_5.out.set ⟨_, _, _⟩)) rfl ?_; rw [HTT.out]; exact ⟨rfl, ((D5.out.setCell (p := ⟨B1 + 1 + 1, 0, none⟩) (by have := HB1.out; show w.heap.size ≤ B1 + 1 + 1; omega) _).setCell (p := ⟨B1 + 1 + 1, 1, none⟩) (by have := HB1.out; show w.heap.size ≤ B1 + 1 + 1; omega) _).setCell (p := ⟨B1 + 1 + 1, 2, none⟩) (by have := HB1.out; show w.heap.size ≤ B1 + 1 + 1; omega) _⟩) | (refine bodyPost_ret (results_rat rfl _ _ (B1 + 1 + 1) noRaw _ rfl rfl z_5.out) rfl ?_; rw [HTT.out]; exact ⟨rfl, D5.out⟩)
  have hvb : Hid (∀ w, Calls Tryz.prog 35 #[.agg #[.bool b.neg, .string b.num, .string b.den]] w (GivesB true w)) := Lib.hid (fun w => by have := refvalid4_any b w; rwa [hb] at this)
  have hs := mulE_steps ha hb
  rw [← ht] at hs
  clear ht ha hb
  rcases hs with ⟨m1, m3⟩ | ⟨n, m1, m2, m3⟩ | ⟨n, d, m1, m2, sn, sd, d0, m3⟩
  · have M1 := Lib.hid m1; have HTT := Lib.hid m3; clear m1 m3
    go_enter Tryz.func27, Tryz.ntmps27
    go_wp2_with fail
    obtain ⟨B1, hB1⟩ : ∃ B, B = w.heap.size := ⟨_, rfl⟩
    obtain ⟨W1_0, hW1_0⟩ : ∃ W, W = w.alloc (Obj.cells #[Value.bool a.neg, Value.string a.num, Value.string a.den] 24) := ⟨_, rfl⟩
    have hb : Below w.heap.size w W1_0 := by rw [hW1_0]; exact (Below.refl _ _).alloc (Nat.le_refl _) _
    have hzW1_0 : w.heap.size = B1 := by rw [hB1]
    have hlW1_0 : RatAt (B1) a W1_0 := by rw [← hzW1_0, hW1_0]; exact ⟨heap_lastM _ _⟩
    have D1 := Lib.hid (D0.out.trans (hb.mono D0.out.size))
    clear hb
    have a_1 := Lib.hid hlW1_0
    clear hlW1_0
    obtain ⟨W1_1, hW1_1⟩ : ∃ W, W = W1_0.alloc (Obj.cells #[Value.bool b.neg, Value.string b.num, Value.string b.den] 24) := ⟨_, rfl⟩
    have hb : Below W1_0.heap.size W1_0 W1_1 := by rw [hW1_1]; exact (Below.refl _ _).alloc (Nat.le_refl _) _
    have hzW1_1 : W1_0.heap.size = B1 + 1 := by rw [hW1_0]; simp [hzW1_0]
    have hlW1_1 : RatAt (B1 + 1) b W1_1 := by rw [← hzW1_1, hW1_1]; exact ⟨heap_lastM _ _⟩
    have D2 := Lib.hid (D1.out.trans (hb.mono D1.out.size))
    have a_2 := Lib.hid (a_1.out.bel hb)
    clear D1 a_1
    clear hb
    have b_2 := Lib.hid hlW1_1
    clear hlW1_1
    obtain ⟨W1_2, hW1_2⟩ : ∃ W, W = W1_1.alloc (Obj.cells #[Value.bool false, Value.string ⟨#[]⟩, Value.string ⟨#[]⟩] 24) := ⟨_, rfl⟩
    have hb : Below W1_1.heap.size W1_1 W1_2 := by rw [hW1_2]; exact (Below.refl _ _).alloc (Nat.le_refl _) _
    have hzW1_2 : W1_1.heap.size = B1 + 1 + 1 := by rw [hW1_1]; simp [hzW1_1]
    have hlW1_2 : RatAt (B1 + 1 + 1) noRaw W1_2 := by rw [← hzW1_2, hW1_2]; exact ⟨heap_lastM _ _⟩
    have D3 := Lib.hid (D2.out.trans (hb.mono D2.out.size))
    have a_3 := Lib.hid (a_2.out.bel hb)
    have b_3 := Lib.hid (b_2.out.bel hb)
    clear D2 a_2 b_2
    clear hb
    have z_3 := Lib.hid hlW1_2
    clear hlW1_2
    rw [← hW1_0]
    rw [← hW1_1]
    rw [← hW1_2]
    simp only [← hB1]
    have HW1_0 := Lib.hid hW1_0
    clear hW1_0 hzW1_0
    have HW1_1 := Lib.hid hW1_1
    clear hW1_1 hzW1_1
    have HW1_2 := Lib.hid hW1_2
    clear hW1_2 hzW1_2
    have HB1 := Lib.hid hB1
    clear hB1
    have ac0 := a_3.out.c0
    have ac1 := a_3.out.c1
    have ac2 := a_3.out.c2
    have bc0 := b_3.out.c0
    have bc1 := b_3.out.c1
    have bc2 := b_3.out.c2
    go_wp2_with fail
    clear ac0 ac1 ac2 bc0 bc1 bc2
    refine (hva.out _).mono ?_
    rintro e v4 ⟨rfl, hb⟩
    have D4 := Lib.hid (D3.out.trans (hb.mono D3.out.size))
    have a_4 := Lib.hid (a_3.out.bel hb)
    have b_4 := Lib.hid (b_3.out.bel hb)
    have z_4 := Lib.hid (z_3.out.bel hb)
    clear D3 a_3 b_3 z_3
    clear hb
    have ac0 := a_4.out.c0
    have ac1 := a_4.out.c1
    have ac2 := a_4.out.c2
    have bc0 := b_4.out.c0
    have bc1 := b_4.out.c1
    have bc2 := b_4.out.c2
    go_wp2_with fail
    clear ac0 ac1 ac2 bc0 bc1 bc2
    refine (hvb.out _).mono ?_
    rintro e v5 ⟨rfl, hb⟩
    have D5 := Lib.hid (D4.out.trans (hb.mono D4.out.size))
    have a_5 := Lib.hid (a_4.out.bel hb)
    have b_5 := Lib.hid (b_4.out.bel hb)
    have z_5 := Lib.hid (z_4.out.bel hb)
    clear D4 a_4 b_4 z_4
    clear hb
    have ac0 := a_5.out.c0
    have ac1 := a_5.out.c1
    have ac2 := a_5.out.c2
    have bc0 := b_5.out.c0
    have bc1 := b_5.out.c1
    have bc2 := b_5.out.c2
    go_wp2_with fail
    clear ac0 ac1 ac2 bc0 bc1 bc2
    refine (refMul_any a.num b.num _).mono ?_
    rintro e v6 ⟨rfl, hb⟩
    have D6 := Lib.hid (D5.out.trans (hb.mono D5.out.size))
    have a_6 := Lib.hid (a_5.out.bel hb)
    have b_6 := Lib.hid (b_5.out.bel hb)
    have z_6 := Lib.hid (z_5.out.bel hb)
    clear D5 a_5 b_5 z_5
    clear hb
    simp only [M1.out]
    have ac0 := a_6.out.c0
    have ac1 := a_6.out.c1
    have ac2 := a_6.out.c2
    have bc0 := b_6.out.c0
    have bc1 := b_6.out.c1
    have bc2 := b_6.out.c2
    go_wp2_with fail
    clear ac0 ac1 ac2 bc0 bc1 bc2
    refine (refMul_any a.den b.den _).mono ?_
    rintro e v7 ⟨rfl, hb⟩
    have D7 := Lib.hid (D6.out.trans (hb.mono D6.out.size))
    have a_7 := Lib.hid (a_6.out.bel hb)
    have b_7 := Lib.hid (b_6.out.bel hb)
    have z_7 := Lib.hid (z_6.out.bel hb)
    clear D6 a_6 b_6 z_6
    clear hb
    have ac0 := a_7.out.c0
    have ac1 := a_7.out.c1
    have ac2 := a_7.out.c2
    have bc0 := b_7.out.c0
    have bc1 := b_7.out.c1
    have bc2 := b_7.out.c2
    have zz0 := z_7.out.c0; have kk0 := z_7.out.fz 0
    have zz1 := z_7.out.c1; have kk1 := z_7.out.fz 1
    have zz2 := z_7.out.c2; have kk2 := z_7.out.fz 2
    go_wp2_with fail
    (try simp only [Exit.inBlock, Exit.then])
    first | (refine bodyPost_ret (results_rat rfl _ _ (B1 + 1 + 1) ⟨_, _, _⟩ _ rfl rfl (z_7.out.set ⟨_, _, _⟩)) rfl ?_; rw [HTT.out]; exact ⟨rfl, ((D7.out.setCell (p := ⟨B1 + 1 + 1, 0, none⟩) (by have := HB1.out; show w.heap.size ≤ B1 + 1 + 1; omega) _).setCell (p := ⟨B1 + 1 + 1, 1, none⟩) (by have := HB1.out; show w.heap.size ≤ B1 + 1 + 1; omega) _).setCell (p := ⟨B1 + 1 + 1, 2, none⟩) (by have := HB1.out; show w.heap.size ≤ B1 + 1 + 1; omega) _⟩) | (refine bodyPost_ret (results_rat rfl _ _ (B1 + 1 + 1) noRaw _ rfl rfl z_7.out) rfl ?_; rw [HTT.out]; exact ⟨rfl, D7.out⟩)
  · have M1 := Lib.hid m1; have M2 := Lib.hid m2; have HTT := Lib.hid m3; clear m1 m2 m3
    go_enter Tryz.func27, Tryz.ntmps27
    go_wp2_with fail
    obtain ⟨B1, hB1⟩ : ∃ B, B = w.heap.size := ⟨_, rfl⟩
    obtain ⟨W1_0, hW1_0⟩ : ∃ W, W = w.alloc (Obj.cells #[Value.bool a.neg, Value.string a.num, Value.string a.den] 24) := ⟨_, rfl⟩
    have hb : Below w.heap.size w W1_0 := by rw [hW1_0]; exact (Below.refl _ _).alloc (Nat.le_refl _) _
    have hzW1_0 : w.heap.size = B1 := by rw [hB1]
    have hlW1_0 : RatAt (B1) a W1_0 := by rw [← hzW1_0, hW1_0]; exact ⟨heap_lastM _ _⟩
    have D1 := Lib.hid (D0.out.trans (hb.mono D0.out.size))
    clear hb
    have a_1 := Lib.hid hlW1_0
    clear hlW1_0
    obtain ⟨W1_1, hW1_1⟩ : ∃ W, W = W1_0.alloc (Obj.cells #[Value.bool b.neg, Value.string b.num, Value.string b.den] 24) := ⟨_, rfl⟩
    have hb : Below W1_0.heap.size W1_0 W1_1 := by rw [hW1_1]; exact (Below.refl _ _).alloc (Nat.le_refl _) _
    have hzW1_1 : W1_0.heap.size = B1 + 1 := by rw [hW1_0]; simp [hzW1_0]
    have hlW1_1 : RatAt (B1 + 1) b W1_1 := by rw [← hzW1_1, hW1_1]; exact ⟨heap_lastM _ _⟩
    have D2 := Lib.hid (D1.out.trans (hb.mono D1.out.size))
    have a_2 := Lib.hid (a_1.out.bel hb)
    clear D1 a_1
    clear hb
    have b_2 := Lib.hid hlW1_1
    clear hlW1_1
    obtain ⟨W1_2, hW1_2⟩ : ∃ W, W = W1_1.alloc (Obj.cells #[Value.bool false, Value.string ⟨#[]⟩, Value.string ⟨#[]⟩] 24) := ⟨_, rfl⟩
    have hb : Below W1_1.heap.size W1_1 W1_2 := by rw [hW1_2]; exact (Below.refl _ _).alloc (Nat.le_refl _) _
    have hzW1_2 : W1_1.heap.size = B1 + 1 + 1 := by rw [hW1_1]; simp [hzW1_1]
    have hlW1_2 : RatAt (B1 + 1 + 1) noRaw W1_2 := by rw [← hzW1_2, hW1_2]; exact ⟨heap_lastM _ _⟩
    have D3 := Lib.hid (D2.out.trans (hb.mono D2.out.size))
    have a_3 := Lib.hid (a_2.out.bel hb)
    have b_3 := Lib.hid (b_2.out.bel hb)
    clear D2 a_2 b_2
    clear hb
    have z_3 := Lib.hid hlW1_2
    clear hlW1_2
    rw [← hW1_0]
    rw [← hW1_1]
    rw [← hW1_2]
    simp only [← hB1]
    have HW1_0 := Lib.hid hW1_0
    clear hW1_0 hzW1_0
    have HW1_1 := Lib.hid hW1_1
    clear hW1_1 hzW1_1
    have HW1_2 := Lib.hid hW1_2
    clear hW1_2 hzW1_2
    have HB1 := Lib.hid hB1
    clear hB1
    have ac0 := a_3.out.c0
    have ac1 := a_3.out.c1
    have ac2 := a_3.out.c2
    have bc0 := b_3.out.c0
    have bc1 := b_3.out.c1
    have bc2 := b_3.out.c2
    go_wp2_with fail
    clear ac0 ac1 ac2 bc0 bc1 bc2
    refine (hva.out _).mono ?_
    rintro e v4 ⟨rfl, hb⟩
    have D4 := Lib.hid (D3.out.trans (hb.mono D3.out.size))
    have a_4 := Lib.hid (a_3.out.bel hb)
    have b_4 := Lib.hid (b_3.out.bel hb)
    have z_4 := Lib.hid (z_3.out.bel hb)
    clear D3 a_3 b_3 z_3
    clear hb
    have ac0 := a_4.out.c0
    have ac1 := a_4.out.c1
    have ac2 := a_4.out.c2
    have bc0 := b_4.out.c0
    have bc1 := b_4.out.c1
    have bc2 := b_4.out.c2
    go_wp2_with fail
    clear ac0 ac1 ac2 bc0 bc1 bc2
    refine (hvb.out _).mono ?_
    rintro e v5 ⟨rfl, hb⟩
    have D5 := Lib.hid (D4.out.trans (hb.mono D4.out.size))
    have a_5 := Lib.hid (a_4.out.bel hb)
    have b_5 := Lib.hid (b_4.out.bel hb)
    have z_5 := Lib.hid (z_4.out.bel hb)
    clear D4 a_4 b_4 z_4
    clear hb
    have ac0 := a_5.out.c0
    have ac1 := a_5.out.c1
    have ac2 := a_5.out.c2
    have bc0 := b_5.out.c0
    have bc1 := b_5.out.c1
    have bc2 := b_5.out.c2
    go_wp2_with fail
    clear ac0 ac1 ac2 bc0 bc1 bc2
    refine (refMul_any a.num b.num _).mono ?_
    rintro e v6 ⟨rfl, hb⟩
    have D6 := Lib.hid (D5.out.trans (hb.mono D5.out.size))
    have a_6 := Lib.hid (a_5.out.bel hb)
    have b_6 := Lib.hid (b_5.out.bel hb)
    have z_6 := Lib.hid (z_5.out.bel hb)
    clear D5 a_5 b_5 z_5
    clear hb
    simp only [M1.out]
    have ac0 := a_6.out.c0
    have ac1 := a_6.out.c1
    have ac2 := a_6.out.c2
    have bc0 := b_6.out.c0
    have bc1 := b_6.out.c1
    have bc2 := b_6.out.c2
    go_wp2_with fail
    clear ac0 ac1 ac2 bc0 bc1 bc2
    refine (refMul_any a.den b.den _).mono ?_
    rintro e v7 ⟨rfl, hb⟩
    have D7 := Lib.hid (D6.out.trans (hb.mono D6.out.size))
    have a_7 := Lib.hid (a_6.out.bel hb)
    have b_7 := Lib.hid (b_6.out.bel hb)
    have z_7 := Lib.hid (z_6.out.bel hb)
    clear D6 a_6 b_6 z_6
    clear hb
    simp only [M2.out]
    have ac0 := a_7.out.c0
    have ac1 := a_7.out.c1
    have ac2 := a_7.out.c2
    have bc0 := b_7.out.c0
    have bc1 := b_7.out.c1
    have bc2 := b_7.out.c2
    have zz0 := z_7.out.c0; have kk0 := z_7.out.fz 0
    have zz1 := z_7.out.c1; have kk1 := z_7.out.fz 1
    have zz2 := z_7.out.c2; have kk2 := z_7.out.fz 2
    go_wp2_with fail
    (try simp only [Exit.inBlock, Exit.then])
    first | (refine bodyPost_ret (results_rat rfl _ _ (B1 + 1 + 1) ⟨_, _, _⟩ _ rfl rfl (z_7.out.set ⟨_, _, _⟩)) rfl ?_; rw [HTT.out]; exact ⟨rfl, ((D7.out.setCell (p := ⟨B1 + 1 + 1, 0, none⟩) (by have := HB1.out; show w.heap.size ≤ B1 + 1 + 1; omega) _).setCell (p := ⟨B1 + 1 + 1, 1, none⟩) (by have := HB1.out; show w.heap.size ≤ B1 + 1 + 1; omega) _).setCell (p := ⟨B1 + 1 + 1, 2, none⟩) (by have := HB1.out; show w.heap.size ≤ B1 + 1 + 1; omega) _⟩) | (refine bodyPost_ret (results_rat rfl _ _ (B1 + 1 + 1) noRaw _ rfl rfl z_7.out) rfl ?_; rw [HTT.out]; exact ⟨rfl, D7.out⟩)
  · have M1 := Lib.hid m1; have M2 := Lib.hid m2; have HTT := Lib.hid m3
    have HL : Hid (∀ w, Calls Tryz.prog 41 #[.bool (a.neg != b.neg), .string (nS n), .string (nS d)] w (GivesQ (low (a.neg != b.neg) n d).raw w)) := Lib.hid (fun w => reflowest_any _ _ _ w sn sd d0)
    clear m1 m2 m3 sn sd d0
    go_enter Tryz.func27, Tryz.ntmps27
    go_wp2_with fail
    obtain ⟨B1, hB1⟩ : ∃ B, B = w.heap.size := ⟨_, rfl⟩
    obtain ⟨W1_0, hW1_0⟩ : ∃ W, W = w.alloc (Obj.cells #[Value.bool a.neg, Value.string a.num, Value.string a.den] 24) := ⟨_, rfl⟩
    have hb : Below w.heap.size w W1_0 := by rw [hW1_0]; exact (Below.refl _ _).alloc (Nat.le_refl _) _
    have hzW1_0 : w.heap.size = B1 := by rw [hB1]
    have hlW1_0 : RatAt (B1) a W1_0 := by rw [← hzW1_0, hW1_0]; exact ⟨heap_lastM _ _⟩
    have D1 := Lib.hid (D0.out.trans (hb.mono D0.out.size))
    clear hb
    have a_1 := Lib.hid hlW1_0
    clear hlW1_0
    obtain ⟨W1_1, hW1_1⟩ : ∃ W, W = W1_0.alloc (Obj.cells #[Value.bool b.neg, Value.string b.num, Value.string b.den] 24) := ⟨_, rfl⟩
    have hb : Below W1_0.heap.size W1_0 W1_1 := by rw [hW1_1]; exact (Below.refl _ _).alloc (Nat.le_refl _) _
    have hzW1_1 : W1_0.heap.size = B1 + 1 := by rw [hW1_0]; simp [hzW1_0]
    have hlW1_1 : RatAt (B1 + 1) b W1_1 := by rw [← hzW1_1, hW1_1]; exact ⟨heap_lastM _ _⟩
    have D2 := Lib.hid (D1.out.trans (hb.mono D1.out.size))
    have a_2 := Lib.hid (a_1.out.bel hb)
    clear D1 a_1
    clear hb
    have b_2 := Lib.hid hlW1_1
    clear hlW1_1
    obtain ⟨W1_2, hW1_2⟩ : ∃ W, W = W1_1.alloc (Obj.cells #[Value.bool false, Value.string ⟨#[]⟩, Value.string ⟨#[]⟩] 24) := ⟨_, rfl⟩
    have hb : Below W1_1.heap.size W1_1 W1_2 := by rw [hW1_2]; exact (Below.refl _ _).alloc (Nat.le_refl _) _
    have hzW1_2 : W1_1.heap.size = B1 + 1 + 1 := by rw [hW1_1]; simp [hzW1_1]
    have hlW1_2 : RatAt (B1 + 1 + 1) noRaw W1_2 := by rw [← hzW1_2, hW1_2]; exact ⟨heap_lastM _ _⟩
    have D3 := Lib.hid (D2.out.trans (hb.mono D2.out.size))
    have a_3 := Lib.hid (a_2.out.bel hb)
    have b_3 := Lib.hid (b_2.out.bel hb)
    clear D2 a_2 b_2
    clear hb
    have z_3 := Lib.hid hlW1_2
    clear hlW1_2
    rw [← hW1_0]
    rw [← hW1_1]
    rw [← hW1_2]
    simp only [← hB1]
    have HW1_0 := Lib.hid hW1_0
    clear hW1_0 hzW1_0
    have HW1_1 := Lib.hid hW1_1
    clear hW1_1 hzW1_1
    have HW1_2 := Lib.hid hW1_2
    clear hW1_2 hzW1_2
    have HB1 := Lib.hid hB1
    clear hB1
    have ac0 := a_3.out.c0
    have ac1 := a_3.out.c1
    have ac2 := a_3.out.c2
    have bc0 := b_3.out.c0
    have bc1 := b_3.out.c1
    have bc2 := b_3.out.c2
    go_wp2_with fail
    clear ac0 ac1 ac2 bc0 bc1 bc2
    refine (hva.out _).mono ?_
    rintro e v4 ⟨rfl, hb⟩
    have D4 := Lib.hid (D3.out.trans (hb.mono D3.out.size))
    have a_4 := Lib.hid (a_3.out.bel hb)
    have b_4 := Lib.hid (b_3.out.bel hb)
    have z_4 := Lib.hid (z_3.out.bel hb)
    clear D3 a_3 b_3 z_3
    clear hb
    have ac0 := a_4.out.c0
    have ac1 := a_4.out.c1
    have ac2 := a_4.out.c2
    have bc0 := b_4.out.c0
    have bc1 := b_4.out.c1
    have bc2 := b_4.out.c2
    go_wp2_with fail
    clear ac0 ac1 ac2 bc0 bc1 bc2
    refine (hvb.out _).mono ?_
    rintro e v5 ⟨rfl, hb⟩
    have D5 := Lib.hid (D4.out.trans (hb.mono D4.out.size))
    have a_5 := Lib.hid (a_4.out.bel hb)
    have b_5 := Lib.hid (b_4.out.bel hb)
    have z_5 := Lib.hid (z_4.out.bel hb)
    clear D4 a_4 b_4 z_4
    clear hb
    have ac0 := a_5.out.c0
    have ac1 := a_5.out.c1
    have ac2 := a_5.out.c2
    have bc0 := b_5.out.c0
    have bc1 := b_5.out.c1
    have bc2 := b_5.out.c2
    go_wp2_with fail
    clear ac0 ac1 ac2 bc0 bc1 bc2
    refine (refMul_any a.num b.num _).mono ?_
    rintro e v6 ⟨rfl, hb⟩
    have D6 := Lib.hid (D5.out.trans (hb.mono D5.out.size))
    have a_6 := Lib.hid (a_5.out.bel hb)
    have b_6 := Lib.hid (b_5.out.bel hb)
    have z_6 := Lib.hid (z_5.out.bel hb)
    clear D5 a_5 b_5 z_5
    clear hb
    simp only [M1.out]
    have ac0 := a_6.out.c0
    have ac1 := a_6.out.c1
    have ac2 := a_6.out.c2
    have bc0 := b_6.out.c0
    have bc1 := b_6.out.c1
    have bc2 := b_6.out.c2
    go_wp2_with fail
    clear ac0 ac1 ac2 bc0 bc1 bc2
    refine (refMul_any a.den b.den _).mono ?_
    rintro e v7 ⟨rfl, hb⟩
    have D7 := Lib.hid (D6.out.trans (hb.mono D6.out.size))
    have a_7 := Lib.hid (a_6.out.bel hb)
    have b_7 := Lib.hid (b_6.out.bel hb)
    have z_7 := Lib.hid (z_6.out.bel hb)
    clear D6 a_6 b_6 z_6
    clear hb
    simp only [M2.out]
    have ac0 := a_7.out.c0
    have ac1 := a_7.out.c1
    have ac2 := a_7.out.c2
    have bc0 := b_7.out.c0
    have bc1 := b_7.out.c1
    have bc2 := b_7.out.c2
    go_wp2_with fail
    clear ac0 ac1 ac2 bc0 bc1 bc2
    refine (HL.out _).mono ?_
    rintro e v8 ⟨rfl, hb⟩
    have D8 := Lib.hid (D7.out.trans (hb.mono D7.out.size))
    have a_8 := Lib.hid (a_7.out.bel hb)
    have b_8 := Lib.hid (b_7.out.bel hb)
    have z_8 := Lib.hid (z_7.out.bel hb)
    clear D7 a_7 b_7 z_7
    clear hb
    have ac0 := a_8.out.c0
    have ac1 := a_8.out.c1
    have ac2 := a_8.out.c2
    have bc0 := b_8.out.c0
    have bc1 := b_8.out.c1
    have bc2 := b_8.out.c2
    have zz0 := z_8.out.c0; have kk0 := z_8.out.fz 0
    have zz1 := z_8.out.c1; have kk1 := z_8.out.fz 1
    have zz2 := z_8.out.c2; have kk2 := z_8.out.fz 2
    go_wp2_with fail
    (try simp only [Exit.inBlock, Exit.then])
    first | (refine bodyPost_ret (results_rat rfl _ _ (B1 + 1 + 1) ⟨_, _, _⟩ _ rfl rfl (z_8.out.set ⟨_, _, _⟩)) rfl ?_; rw [HTT.out]; exact ⟨rfl, ((D8.out.setCell (p := ⟨B1 + 1 + 1, 0, none⟩) (by have := HB1.out; show w.heap.size ≤ B1 + 1 + 1; omega) _).setCell (p := ⟨B1 + 1 + 1, 1, none⟩) (by have := HB1.out; show w.heap.size ≤ B1 + 1 + 1; omega) _).setCell (p := ⟨B1 + 1 + 1, 2, none⟩) (by have := HB1.out; show w.heap.size ≤ B1 + 1 + 1; omega) _⟩) | (refine bodyPost_ret (results_rat rfl _ _ (B1 + 1 + 1) noRaw _ rfl rfl z_8.out) rfl ?_; rw [HTT.out]; exact ⟨rfl, D8.out⟩)
set_option maxHeartbeats 4000000 in
theorem refadd4_any (a b : Raw) (w : World) : Calls Tryz.prog 22 #[.agg #[.bool a.neg, .string a.num, .string a.den], .agg #[.bool b.neg, .string b.num, .string b.den]] w (GivesR (addE a b) w) := by
  obtain ⟨t, ht⟩ : ∃ t, t = addE a b := ⟨_, rfl⟩
  rw [← ht]
  have D0 := Lib.hid (Below.refl w.heap.size w)
  by_cases ha : okR a = true
  case neg =>
    have ha := Bool.eq_false_iff.2 ha
    have hva : Hid (∀ w, Calls Tryz.prog 35 #[.agg #[.bool a.neg, .string a.num, .string a.den]] w (GivesB false w)) := Lib.hid (fun w => by have := refvalid4_any a w; rwa [ha] at this)
    have HTT : Hid (t = (noRaw, 1)) := Lib.hid (by rw [ht]; unfold addE; rw [ha]; rfl)
    clear ht ha
    go_enter Tryz.func22, Tryz.ntmps22
    go_wp2_with fail
    obtain ⟨B1, hB1⟩ : ∃ B, B = w.heap.size := ⟨_, rfl⟩
    obtain ⟨W1_0, hW1_0⟩ : ∃ W, W = w.alloc (Obj.cells #[Value.bool a.neg, Value.string a.num, Value.string a.den] 24) := ⟨_, rfl⟩
    have hb : Below w.heap.size w W1_0 := by rw [hW1_0]; exact (Below.refl _ _).alloc (Nat.le_refl _) _
    have hzW1_0 : w.heap.size = B1 := by rw [hB1]
    have hlW1_0 : RatAt (B1) a W1_0 := by rw [← hzW1_0, hW1_0]; exact ⟨heap_lastM _ _⟩
    have D1 := Lib.hid (D0.out.trans (hb.mono D0.out.size))
    clear hb
    have a_1 := Lib.hid hlW1_0
    clear hlW1_0
    obtain ⟨W1_1, hW1_1⟩ : ∃ W, W = W1_0.alloc (Obj.cells #[Value.bool b.neg, Value.string b.num, Value.string b.den] 24) := ⟨_, rfl⟩
    have hb : Below W1_0.heap.size W1_0 W1_1 := by rw [hW1_1]; exact (Below.refl _ _).alloc (Nat.le_refl _) _
    have hzW1_1 : W1_0.heap.size = B1 + 1 := by rw [hW1_0]; simp [hzW1_0]
    have hlW1_1 : RatAt (B1 + 1) b W1_1 := by rw [← hzW1_1, hW1_1]; exact ⟨heap_lastM _ _⟩
    have D2 := Lib.hid (D1.out.trans (hb.mono D1.out.size))
    have a_2 := Lib.hid (a_1.out.bel hb)
    clear D1 a_1
    clear hb
    have b_2 := Lib.hid hlW1_1
    clear hlW1_1
    obtain ⟨W1_2, hW1_2⟩ : ∃ W, W = W1_1.alloc (Obj.cells #[Value.bool false, Value.string ⟨#[]⟩, Value.string ⟨#[]⟩] 24) := ⟨_, rfl⟩
    have hb : Below W1_1.heap.size W1_1 W1_2 := by rw [hW1_2]; exact (Below.refl _ _).alloc (Nat.le_refl _) _
    have hzW1_2 : W1_1.heap.size = B1 + 1 + 1 := by rw [hW1_1]; simp [hzW1_1]
    have hlW1_2 : RatAt (B1 + 1 + 1) noRaw W1_2 := by rw [← hzW1_2, hW1_2]; exact ⟨heap_lastM _ _⟩
    have D3 := Lib.hid (D2.out.trans (hb.mono D2.out.size))
    have a_3 := Lib.hid (a_2.out.bel hb)
    have b_3 := Lib.hid (b_2.out.bel hb)
    clear D2 a_2 b_2
    clear hb
    have z_3 := Lib.hid hlW1_2
    clear hlW1_2
    rw [← hW1_0]
    rw [← hW1_1]
    rw [← hW1_2]
    simp only [← hB1]
    have HW1_0 := Lib.hid hW1_0
    clear hW1_0 hzW1_0
    have HW1_1 := Lib.hid hW1_1
    clear hW1_1 hzW1_1
    have HW1_2 := Lib.hid hW1_2
    clear hW1_2 hzW1_2
    have HB1 := Lib.hid hB1
    clear hB1
    have ac0 := a_3.out.c0
    have ac1 := a_3.out.c1
    have ac2 := a_3.out.c2
    have bc0 := b_3.out.c0
    have bc1 := b_3.out.c1
    have bc2 := b_3.out.c2
    go_wp2_with fail
    clear ac0 ac1 ac2 bc0 bc1 bc2
    refine (hva.out _).mono ?_
    rintro e v4 ⟨rfl, hb⟩
    have D4 := Lib.hid (D3.out.trans (hb.mono D3.out.size))
    have a_4 := Lib.hid (a_3.out.bel hb)
    have b_4 := Lib.hid (b_3.out.bel hb)
    have z_4 := Lib.hid (z_3.out.bel hb)
    clear D3 a_3 b_3 z_3
    clear hb
    have zz0 := z_4.out.c0; have kk0 := z_4.out.fz 0
    have zz1 := z_4.out.c1; have kk1 := z_4.out.fz 1
    have zz2 := z_4.out.c2; have kk2 := z_4.out.fz 2
    go_wp2_with fail
    (try simp only [Exit.inBlock, Exit.then])
    first | (refine bodyPost_ret (results_rat rfl _ _ (B1 + 1 + 1) ⟨_, _, _⟩ _ rfl rfl (z_4.out.set ⟨_, _, _⟩)) rfl ?_; rw [HTT.out]; exact ⟨rfl, ((D4.out.setCell (p := ⟨B1 + 1 + 1, 0, none⟩) (by have := HB1.out; show w.heap.size ≤ B1 + 1 + 1; omega) _).setCell (p := ⟨B1 + 1 + 1, 1, none⟩) (by have := HB1.out; show w.heap.size ≤ B1 + 1 + 1; omega) _).setCell (p := ⟨B1 + 1 + 1, 2, none⟩) (by have := HB1.out; show w.heap.size ≤ B1 + 1 + 1; omega) _⟩) | (refine bodyPost_ret (results_rat rfl _ _ (B1 + 1 + 1) noRaw _ rfl rfl z_4.out) rfl ?_; rw [HTT.out]; exact ⟨rfl, D4.out⟩)
  have hva : Hid (∀ w, Calls Tryz.prog 35 #[.agg #[.bool a.neg, .string a.num, .string a.den]] w (GivesB true w)) := Lib.hid (fun w => by have := refvalid4_any a w; rwa [ha] at this)
  by_cases hb : okR b = true
  case neg =>
    have hb := Bool.eq_false_iff.2 hb
    have hvb : Hid (∀ w, Calls Tryz.prog 35 #[.agg #[.bool b.neg, .string b.num, .string b.den]] w (GivesB false w)) := Lib.hid (fun w => by have := refvalid4_any b w; rwa [hb] at this)
    have HTT : Hid (t = (noRaw, 1)) := Lib.hid (by rw [ht]; unfold addE; rw [ha, hb]; rfl)
    clear ht ha hb
    go_enter Tryz.func22, Tryz.ntmps22
    go_wp2_with fail
    obtain ⟨B1, hB1⟩ : ∃ B, B = w.heap.size := ⟨_, rfl⟩
    obtain ⟨W1_0, hW1_0⟩ : ∃ W, W = w.alloc (Obj.cells #[Value.bool a.neg, Value.string a.num, Value.string a.den] 24) := ⟨_, rfl⟩
    have hb : Below w.heap.size w W1_0 := by rw [hW1_0]; exact (Below.refl _ _).alloc (Nat.le_refl _) _
    have hzW1_0 : w.heap.size = B1 := by rw [hB1]
    have hlW1_0 : RatAt (B1) a W1_0 := by rw [← hzW1_0, hW1_0]; exact ⟨heap_lastM _ _⟩
    have D1 := Lib.hid (D0.out.trans (hb.mono D0.out.size))
    clear hb
    have a_1 := Lib.hid hlW1_0
    clear hlW1_0
    obtain ⟨W1_1, hW1_1⟩ : ∃ W, W = W1_0.alloc (Obj.cells #[Value.bool b.neg, Value.string b.num, Value.string b.den] 24) := ⟨_, rfl⟩
    have hb : Below W1_0.heap.size W1_0 W1_1 := by rw [hW1_1]; exact (Below.refl _ _).alloc (Nat.le_refl _) _
    have hzW1_1 : W1_0.heap.size = B1 + 1 := by rw [hW1_0]; simp [hzW1_0]
    have hlW1_1 : RatAt (B1 + 1) b W1_1 := by rw [← hzW1_1, hW1_1]; exact ⟨heap_lastM _ _⟩
    have D2 := Lib.hid (D1.out.trans (hb.mono D1.out.size))
    have a_2 := Lib.hid (a_1.out.bel hb)
    clear D1 a_1
    clear hb
    have b_2 := Lib.hid hlW1_1
    clear hlW1_1
    obtain ⟨W1_2, hW1_2⟩ : ∃ W, W = W1_1.alloc (Obj.cells #[Value.bool false, Value.string ⟨#[]⟩, Value.string ⟨#[]⟩] 24) := ⟨_, rfl⟩
    have hb : Below W1_1.heap.size W1_1 W1_2 := by rw [hW1_2]; exact (Below.refl _ _).alloc (Nat.le_refl _) _
    have hzW1_2 : W1_1.heap.size = B1 + 1 + 1 := by rw [hW1_1]; simp [hzW1_1]
    have hlW1_2 : RatAt (B1 + 1 + 1) noRaw W1_2 := by rw [← hzW1_2, hW1_2]; exact ⟨heap_lastM _ _⟩
    have D3 := Lib.hid (D2.out.trans (hb.mono D2.out.size))
    have a_3 := Lib.hid (a_2.out.bel hb)
    have b_3 := Lib.hid (b_2.out.bel hb)
    clear D2 a_2 b_2
    clear hb
    have z_3 := Lib.hid hlW1_2
    clear hlW1_2
    rw [← hW1_0]
    rw [← hW1_1]
    rw [← hW1_2]
    simp only [← hB1]
    have HW1_0 := Lib.hid hW1_0
    clear hW1_0 hzW1_0
    have HW1_1 := Lib.hid hW1_1
    clear hW1_1 hzW1_1
    have HW1_2 := Lib.hid hW1_2
    clear hW1_2 hzW1_2
    have HB1 := Lib.hid hB1
    clear hB1
    have ac0 := a_3.out.c0
    have ac1 := a_3.out.c1
    have ac2 := a_3.out.c2
    have bc0 := b_3.out.c0
    have bc1 := b_3.out.c1
    have bc2 := b_3.out.c2
    go_wp2_with fail
    clear ac0 ac1 ac2 bc0 bc1 bc2
    refine (hva.out _).mono ?_
    rintro e v4 ⟨rfl, hb⟩
    have D4 := Lib.hid (D3.out.trans (hb.mono D3.out.size))
    have a_4 := Lib.hid (a_3.out.bel hb)
    have b_4 := Lib.hid (b_3.out.bel hb)
    have z_4 := Lib.hid (z_3.out.bel hb)
    clear D3 a_3 b_3 z_3
    clear hb
    have ac0 := a_4.out.c0
    have ac1 := a_4.out.c1
    have ac2 := a_4.out.c2
    have bc0 := b_4.out.c0
    have bc1 := b_4.out.c1
    have bc2 := b_4.out.c2
    go_wp2_with fail
    clear ac0 ac1 ac2 bc0 bc1 bc2
    refine (hvb.out _).mono ?_
    rintro e v5 ⟨rfl, hb⟩
    have D5 := Lib.hid (D4.out.trans (hb.mono D4.out.size))
    have a_5 := Lib.hid (a_4.out.bel hb)
    have b_5 := Lib.hid (b_4.out.bel hb)
    have z_5 := Lib.hid (z_4.out.bel hb)
    clear D4 a_4 b_4 z_4
    clear hb
    have zz0 := z_5.out.c0; have kk0 := z_5.out.fz 0
    have zz1 := z_5.out.c1; have kk1 := z_5.out.fz 1
    have zz2 := z_5.out.c2; have kk2 := z_5.out.fz 2
    go_wp2_with fail
    (try simp only [Exit.inBlock, Exit.then])
    first | (refine bodyPost_ret (results_rat rfl _ _ (B1 + 1 + 1) ⟨_, _, _⟩ _ rfl rfl (z_5.out.set ⟨_, _, _⟩)) rfl ?_; rw [HTT.out]; exact ⟨rfl, ((D5.out.setCell (p := ⟨B1 + 1 + 1, 0, none⟩) (by have := HB1.out; show w.heap.size ≤ B1 + 1 + 1; omega) _).setCell (p := ⟨B1 + 1 + 1, 1, none⟩) (by have := HB1.out; show w.heap.size ≤ B1 + 1 + 1; omega) _).setCell (p := ⟨B1 + 1 + 1, 2, none⟩) (by have := HB1.out; show w.heap.size ≤ B1 + 1 + 1; omega) _⟩) | (refine bodyPost_ret (results_rat rfl _ _ (B1 + 1 + 1) noRaw _ rfl rfl z_5.out) rfl ?_; rw [HTT.out]; exact ⟨rfl, D5.out⟩)
  have hvb : Hid (∀ w, Calls Tryz.prog 35 #[.agg #[.bool b.neg, .string b.num, .string b.den]] w (GivesB true w)) := Lib.hid (fun w => by have := refvalid4_any b w; rwa [hb] at this)
  have hs := addE_steps ha hb
  rw [← ht] at hs
  clear ht ha hb
  rcases hs with ⟨m1, m9⟩ | ⟨p, m1, m2, m9⟩ | ⟨p, q, m1, m2, m3, m9⟩ | ⟨p, q, d, m1, m2, m3, sd, d0, hs⟩
  · have M1 := Lib.hid m1; have HTT := Lib.hid m9; clear m9 m1
    go_enter Tryz.func22, Tryz.ntmps22
    go_wp2_with fail
    obtain ⟨B1, hB1⟩ : ∃ B, B = w.heap.size := ⟨_, rfl⟩
    obtain ⟨W1_0, hW1_0⟩ : ∃ W, W = w.alloc (Obj.cells #[Value.bool a.neg, Value.string a.num, Value.string a.den] 24) := ⟨_, rfl⟩
    have hb : Below w.heap.size w W1_0 := by rw [hW1_0]; exact (Below.refl _ _).alloc (Nat.le_refl _) _
    have hzW1_0 : w.heap.size = B1 := by rw [hB1]
    have hlW1_0 : RatAt (B1) a W1_0 := by rw [← hzW1_0, hW1_0]; exact ⟨heap_lastM _ _⟩
    have D1 := Lib.hid (D0.out.trans (hb.mono D0.out.size))
    clear hb
    have a_1 := Lib.hid hlW1_0
    clear hlW1_0
    obtain ⟨W1_1, hW1_1⟩ : ∃ W, W = W1_0.alloc (Obj.cells #[Value.bool b.neg, Value.string b.num, Value.string b.den] 24) := ⟨_, rfl⟩
    have hb : Below W1_0.heap.size W1_0 W1_1 := by rw [hW1_1]; exact (Below.refl _ _).alloc (Nat.le_refl _) _
    have hzW1_1 : W1_0.heap.size = B1 + 1 := by rw [hW1_0]; simp [hzW1_0]
    have hlW1_1 : RatAt (B1 + 1) b W1_1 := by rw [← hzW1_1, hW1_1]; exact ⟨heap_lastM _ _⟩
    have D2 := Lib.hid (D1.out.trans (hb.mono D1.out.size))
    have a_2 := Lib.hid (a_1.out.bel hb)
    clear D1 a_1
    clear hb
    have b_2 := Lib.hid hlW1_1
    clear hlW1_1
    obtain ⟨W1_2, hW1_2⟩ : ∃ W, W = W1_1.alloc (Obj.cells #[Value.bool false, Value.string ⟨#[]⟩, Value.string ⟨#[]⟩] 24) := ⟨_, rfl⟩
    have hb : Below W1_1.heap.size W1_1 W1_2 := by rw [hW1_2]; exact (Below.refl _ _).alloc (Nat.le_refl _) _
    have hzW1_2 : W1_1.heap.size = B1 + 1 + 1 := by rw [hW1_1]; simp [hzW1_1]
    have hlW1_2 : RatAt (B1 + 1 + 1) noRaw W1_2 := by rw [← hzW1_2, hW1_2]; exact ⟨heap_lastM _ _⟩
    have D3 := Lib.hid (D2.out.trans (hb.mono D2.out.size))
    have a_3 := Lib.hid (a_2.out.bel hb)
    have b_3 := Lib.hid (b_2.out.bel hb)
    clear D2 a_2 b_2
    clear hb
    have z_3 := Lib.hid hlW1_2
    clear hlW1_2
    rw [← hW1_0]
    rw [← hW1_1]
    rw [← hW1_2]
    simp only [← hB1]
    have HW1_0 := Lib.hid hW1_0
    clear hW1_0 hzW1_0
    have HW1_1 := Lib.hid hW1_1
    clear hW1_1 hzW1_1
    have HW1_2 := Lib.hid hW1_2
    clear hW1_2 hzW1_2
    have HB1 := Lib.hid hB1
    clear hB1
    have ac0 := a_3.out.c0
    have ac1 := a_3.out.c1
    have ac2 := a_3.out.c2
    have bc0 := b_3.out.c0
    have bc1 := b_3.out.c1
    have bc2 := b_3.out.c2
    go_wp2_with fail
    clear ac0 ac1 ac2 bc0 bc1 bc2
    refine (hva.out _).mono ?_
    rintro e v4 ⟨rfl, hb⟩
    have D4 := Lib.hid (D3.out.trans (hb.mono D3.out.size))
    have a_4 := Lib.hid (a_3.out.bel hb)
    have b_4 := Lib.hid (b_3.out.bel hb)
    have z_4 := Lib.hid (z_3.out.bel hb)
    clear D3 a_3 b_3 z_3
    clear hb
    have ac0 := a_4.out.c0
    have ac1 := a_4.out.c1
    have ac2 := a_4.out.c2
    have bc0 := b_4.out.c0
    have bc1 := b_4.out.c1
    have bc2 := b_4.out.c2
    go_wp2_with fail
    clear ac0 ac1 ac2 bc0 bc1 bc2
    refine (hvb.out _).mono ?_
    rintro e v5 ⟨rfl, hb⟩
    have D5 := Lib.hid (D4.out.trans (hb.mono D4.out.size))
    have a_5 := Lib.hid (a_4.out.bel hb)
    have b_5 := Lib.hid (b_4.out.bel hb)
    have z_5 := Lib.hid (z_4.out.bel hb)
    clear D4 a_4 b_4 z_4
    clear hb
    have ac0 := a_5.out.c0
    have ac1 := a_5.out.c1
    have ac2 := a_5.out.c2
    have bc0 := b_5.out.c0
    have bc1 := b_5.out.c1
    have bc2 := b_5.out.c2
    go_wp2_with fail
    clear ac0 ac1 ac2 bc0 bc1 bc2
    refine (refMul_any a.num b.den _).mono ?_
    rintro e v6 ⟨rfl, hb⟩
    have D6 := Lib.hid (D5.out.trans (hb.mono D5.out.size))
    have a_6 := Lib.hid (a_5.out.bel hb)
    have b_6 := Lib.hid (b_5.out.bel hb)
    have z_6 := Lib.hid (z_5.out.bel hb)
    clear D5 a_5 b_5 z_5
    clear hb
    simp only [M1.out]
    have ac0 := a_6.out.c0
    have ac1 := a_6.out.c1
    have ac2 := a_6.out.c2
    have bc0 := b_6.out.c0
    have bc1 := b_6.out.c1
    have bc2 := b_6.out.c2
    go_wp2_with fail
    clear ac0 ac1 ac2 bc0 bc1 bc2
    refine (refMul_any b.num a.den _).mono ?_
    rintro e v7 ⟨rfl, hb⟩
    have D7 := Lib.hid (D6.out.trans (hb.mono D6.out.size))
    have a_7 := Lib.hid (a_6.out.bel hb)
    have b_7 := Lib.hid (b_6.out.bel hb)
    have z_7 := Lib.hid (z_6.out.bel hb)
    clear D6 a_6 b_6 z_6
    clear hb
    have ac0 := a_7.out.c0
    have ac1 := a_7.out.c1
    have ac2 := a_7.out.c2
    have bc0 := b_7.out.c0
    have bc1 := b_7.out.c1
    have bc2 := b_7.out.c2
    go_wp2_with fail
    clear ac0 ac1 ac2 bc0 bc1 bc2
    refine (refMul_any a.den b.den _).mono ?_
    rintro e v8 ⟨rfl, hb⟩
    have D8 := Lib.hid (D7.out.trans (hb.mono D7.out.size))
    have a_8 := Lib.hid (a_7.out.bel hb)
    have b_8 := Lib.hid (b_7.out.bel hb)
    have z_8 := Lib.hid (z_7.out.bel hb)
    clear D7 a_7 b_7 z_7
    clear hb
    have ac0 := a_8.out.c0
    have ac1 := a_8.out.c1
    have ac2 := a_8.out.c2
    have bc0 := b_8.out.c0
    have bc1 := b_8.out.c1
    have bc2 := b_8.out.c2
    have zz0 := z_8.out.c0; have kk0 := z_8.out.fz 0
    have zz1 := z_8.out.c1; have kk1 := z_8.out.fz 1
    have zz2 := z_8.out.c2; have kk2 := z_8.out.fz 2
    go_wp2_with fail
    (try simp only [Exit.inBlock, Exit.then])
    first | (refine bodyPost_ret (results_rat rfl _ _ (B1 + 1 + 1) ⟨_, _, _⟩ _ rfl rfl (z_8.out.set ⟨_, _, _⟩)) rfl ?_; rw [HTT.out]; exact ⟨rfl, ((D8.out.setCell (p := ⟨B1 + 1 + 1, 0, none⟩) (by have := HB1.out; show w.heap.size ≤ B1 + 1 + 1; omega) _).setCell (p := ⟨B1 + 1 + 1, 1, none⟩) (by have := HB1.out; show w.heap.size ≤ B1 + 1 + 1; omega) _).setCell (p := ⟨B1 + 1 + 1, 2, none⟩) (by have := HB1.out; show w.heap.size ≤ B1 + 1 + 1; omega) _⟩) | (refine bodyPost_ret (results_rat rfl _ _ (B1 + 1 + 1) noRaw _ rfl rfl z_8.out) rfl ?_; rw [HTT.out]; exact ⟨rfl, D8.out⟩)
  · have M1 := Lib.hid m1; have M2 := Lib.hid m2; have HTT := Lib.hid m9; clear m9 m1 m2
    go_enter Tryz.func22, Tryz.ntmps22
    go_wp2_with fail
    obtain ⟨B1, hB1⟩ : ∃ B, B = w.heap.size := ⟨_, rfl⟩
    obtain ⟨W1_0, hW1_0⟩ : ∃ W, W = w.alloc (Obj.cells #[Value.bool a.neg, Value.string a.num, Value.string a.den] 24) := ⟨_, rfl⟩
    have hb : Below w.heap.size w W1_0 := by rw [hW1_0]; exact (Below.refl _ _).alloc (Nat.le_refl _) _
    have hzW1_0 : w.heap.size = B1 := by rw [hB1]
    have hlW1_0 : RatAt (B1) a W1_0 := by rw [← hzW1_0, hW1_0]; exact ⟨heap_lastM _ _⟩
    have D1 := Lib.hid (D0.out.trans (hb.mono D0.out.size))
    clear hb
    have a_1 := Lib.hid hlW1_0
    clear hlW1_0
    obtain ⟨W1_1, hW1_1⟩ : ∃ W, W = W1_0.alloc (Obj.cells #[Value.bool b.neg, Value.string b.num, Value.string b.den] 24) := ⟨_, rfl⟩
    have hb : Below W1_0.heap.size W1_0 W1_1 := by rw [hW1_1]; exact (Below.refl _ _).alloc (Nat.le_refl _) _
    have hzW1_1 : W1_0.heap.size = B1 + 1 := by rw [hW1_0]; simp [hzW1_0]
    have hlW1_1 : RatAt (B1 + 1) b W1_1 := by rw [← hzW1_1, hW1_1]; exact ⟨heap_lastM _ _⟩
    have D2 := Lib.hid (D1.out.trans (hb.mono D1.out.size))
    have a_2 := Lib.hid (a_1.out.bel hb)
    clear D1 a_1
    clear hb
    have b_2 := Lib.hid hlW1_1
    clear hlW1_1
    obtain ⟨W1_2, hW1_2⟩ : ∃ W, W = W1_1.alloc (Obj.cells #[Value.bool false, Value.string ⟨#[]⟩, Value.string ⟨#[]⟩] 24) := ⟨_, rfl⟩
    have hb : Below W1_1.heap.size W1_1 W1_2 := by rw [hW1_2]; exact (Below.refl _ _).alloc (Nat.le_refl _) _
    have hzW1_2 : W1_1.heap.size = B1 + 1 + 1 := by rw [hW1_1]; simp [hzW1_1]
    have hlW1_2 : RatAt (B1 + 1 + 1) noRaw W1_2 := by rw [← hzW1_2, hW1_2]; exact ⟨heap_lastM _ _⟩
    have D3 := Lib.hid (D2.out.trans (hb.mono D2.out.size))
    have a_3 := Lib.hid (a_2.out.bel hb)
    have b_3 := Lib.hid (b_2.out.bel hb)
    clear D2 a_2 b_2
    clear hb
    have z_3 := Lib.hid hlW1_2
    clear hlW1_2
    rw [← hW1_0]
    rw [← hW1_1]
    rw [← hW1_2]
    simp only [← hB1]
    have HW1_0 := Lib.hid hW1_0
    clear hW1_0 hzW1_0
    have HW1_1 := Lib.hid hW1_1
    clear hW1_1 hzW1_1
    have HW1_2 := Lib.hid hW1_2
    clear hW1_2 hzW1_2
    have HB1 := Lib.hid hB1
    clear hB1
    have ac0 := a_3.out.c0
    have ac1 := a_3.out.c1
    have ac2 := a_3.out.c2
    have bc0 := b_3.out.c0
    have bc1 := b_3.out.c1
    have bc2 := b_3.out.c2
    go_wp2_with fail
    clear ac0 ac1 ac2 bc0 bc1 bc2
    refine (hva.out _).mono ?_
    rintro e v4 ⟨rfl, hb⟩
    have D4 := Lib.hid (D3.out.trans (hb.mono D3.out.size))
    have a_4 := Lib.hid (a_3.out.bel hb)
    have b_4 := Lib.hid (b_3.out.bel hb)
    have z_4 := Lib.hid (z_3.out.bel hb)
    clear D3 a_3 b_3 z_3
    clear hb
    have ac0 := a_4.out.c0
    have ac1 := a_4.out.c1
    have ac2 := a_4.out.c2
    have bc0 := b_4.out.c0
    have bc1 := b_4.out.c1
    have bc2 := b_4.out.c2
    go_wp2_with fail
    clear ac0 ac1 ac2 bc0 bc1 bc2
    refine (hvb.out _).mono ?_
    rintro e v5 ⟨rfl, hb⟩
    have D5 := Lib.hid (D4.out.trans (hb.mono D4.out.size))
    have a_5 := Lib.hid (a_4.out.bel hb)
    have b_5 := Lib.hid (b_4.out.bel hb)
    have z_5 := Lib.hid (z_4.out.bel hb)
    clear D4 a_4 b_4 z_4
    clear hb
    have ac0 := a_5.out.c0
    have ac1 := a_5.out.c1
    have ac2 := a_5.out.c2
    have bc0 := b_5.out.c0
    have bc1 := b_5.out.c1
    have bc2 := b_5.out.c2
    go_wp2_with fail
    clear ac0 ac1 ac2 bc0 bc1 bc2
    refine (refMul_any a.num b.den _).mono ?_
    rintro e v6 ⟨rfl, hb⟩
    have D6 := Lib.hid (D5.out.trans (hb.mono D5.out.size))
    have a_6 := Lib.hid (a_5.out.bel hb)
    have b_6 := Lib.hid (b_5.out.bel hb)
    have z_6 := Lib.hid (z_5.out.bel hb)
    clear D5 a_5 b_5 z_5
    clear hb
    simp only [M1.out]
    have ac0 := a_6.out.c0
    have ac1 := a_6.out.c1
    have ac2 := a_6.out.c2
    have bc0 := b_6.out.c0
    have bc1 := b_6.out.c1
    have bc2 := b_6.out.c2
    go_wp2_with fail
    clear ac0 ac1 ac2 bc0 bc1 bc2
    refine (refMul_any b.num a.den _).mono ?_
    rintro e v7 ⟨rfl, hb⟩
    have D7 := Lib.hid (D6.out.trans (hb.mono D6.out.size))
    have a_7 := Lib.hid (a_6.out.bel hb)
    have b_7 := Lib.hid (b_6.out.bel hb)
    have z_7 := Lib.hid (z_6.out.bel hb)
    clear D6 a_6 b_6 z_6
    clear hb
    simp only [M2.out]
    have ac0 := a_7.out.c0
    have ac1 := a_7.out.c1
    have ac2 := a_7.out.c2
    have bc0 := b_7.out.c0
    have bc1 := b_7.out.c1
    have bc2 := b_7.out.c2
    go_wp2_with fail
    clear ac0 ac1 ac2 bc0 bc1 bc2
    refine (refMul_any a.den b.den _).mono ?_
    rintro e v8 ⟨rfl, hb⟩
    have D8 := Lib.hid (D7.out.trans (hb.mono D7.out.size))
    have a_8 := Lib.hid (a_7.out.bel hb)
    have b_8 := Lib.hid (b_7.out.bel hb)
    have z_8 := Lib.hid (z_7.out.bel hb)
    clear D7 a_7 b_7 z_7
    clear hb
    have ac0 := a_8.out.c0
    have ac1 := a_8.out.c1
    have ac2 := a_8.out.c2
    have bc0 := b_8.out.c0
    have bc1 := b_8.out.c1
    have bc2 := b_8.out.c2
    have zz0 := z_8.out.c0; have kk0 := z_8.out.fz 0
    have zz1 := z_8.out.c1; have kk1 := z_8.out.fz 1
    have zz2 := z_8.out.c2; have kk2 := z_8.out.fz 2
    go_wp2_with fail
    (try simp only [Exit.inBlock, Exit.then])
    first | (refine bodyPost_ret (results_rat rfl _ _ (B1 + 1 + 1) ⟨_, _, _⟩ _ rfl rfl (z_8.out.set ⟨_, _, _⟩)) rfl ?_; rw [HTT.out]; exact ⟨rfl, ((D8.out.setCell (p := ⟨B1 + 1 + 1, 0, none⟩) (by have := HB1.out; show w.heap.size ≤ B1 + 1 + 1; omega) _).setCell (p := ⟨B1 + 1 + 1, 1, none⟩) (by have := HB1.out; show w.heap.size ≤ B1 + 1 + 1; omega) _).setCell (p := ⟨B1 + 1 + 1, 2, none⟩) (by have := HB1.out; show w.heap.size ≤ B1 + 1 + 1; omega) _⟩) | (refine bodyPost_ret (results_rat rfl _ _ (B1 + 1 + 1) noRaw _ rfl rfl z_8.out) rfl ?_; rw [HTT.out]; exact ⟨rfl, D8.out⟩)
  · have M1 := Lib.hid m1; have M2 := Lib.hid m2; have M3 := Lib.hid m3; have HTT := Lib.hid m9; clear m9 m1 m2 m3
    go_enter Tryz.func22, Tryz.ntmps22
    go_wp2_with fail
    obtain ⟨B1, hB1⟩ : ∃ B, B = w.heap.size := ⟨_, rfl⟩
    obtain ⟨W1_0, hW1_0⟩ : ∃ W, W = w.alloc (Obj.cells #[Value.bool a.neg, Value.string a.num, Value.string a.den] 24) := ⟨_, rfl⟩
    have hb : Below w.heap.size w W1_0 := by rw [hW1_0]; exact (Below.refl _ _).alloc (Nat.le_refl _) _
    have hzW1_0 : w.heap.size = B1 := by rw [hB1]
    have hlW1_0 : RatAt (B1) a W1_0 := by rw [← hzW1_0, hW1_0]; exact ⟨heap_lastM _ _⟩
    have D1 := Lib.hid (D0.out.trans (hb.mono D0.out.size))
    clear hb
    have a_1 := Lib.hid hlW1_0
    clear hlW1_0
    obtain ⟨W1_1, hW1_1⟩ : ∃ W, W = W1_0.alloc (Obj.cells #[Value.bool b.neg, Value.string b.num, Value.string b.den] 24) := ⟨_, rfl⟩
    have hb : Below W1_0.heap.size W1_0 W1_1 := by rw [hW1_1]; exact (Below.refl _ _).alloc (Nat.le_refl _) _
    have hzW1_1 : W1_0.heap.size = B1 + 1 := by rw [hW1_0]; simp [hzW1_0]
    have hlW1_1 : RatAt (B1 + 1) b W1_1 := by rw [← hzW1_1, hW1_1]; exact ⟨heap_lastM _ _⟩
    have D2 := Lib.hid (D1.out.trans (hb.mono D1.out.size))
    have a_2 := Lib.hid (a_1.out.bel hb)
    clear D1 a_1
    clear hb
    have b_2 := Lib.hid hlW1_1
    clear hlW1_1
    obtain ⟨W1_2, hW1_2⟩ : ∃ W, W = W1_1.alloc (Obj.cells #[Value.bool false, Value.string ⟨#[]⟩, Value.string ⟨#[]⟩] 24) := ⟨_, rfl⟩
    have hb : Below W1_1.heap.size W1_1 W1_2 := by rw [hW1_2]; exact (Below.refl _ _).alloc (Nat.le_refl _) _
    have hzW1_2 : W1_1.heap.size = B1 + 1 + 1 := by rw [hW1_1]; simp [hzW1_1]
    have hlW1_2 : RatAt (B1 + 1 + 1) noRaw W1_2 := by rw [← hzW1_2, hW1_2]; exact ⟨heap_lastM _ _⟩
    have D3 := Lib.hid (D2.out.trans (hb.mono D2.out.size))
    have a_3 := Lib.hid (a_2.out.bel hb)
    have b_3 := Lib.hid (b_2.out.bel hb)
    clear D2 a_2 b_2
    clear hb
    have z_3 := Lib.hid hlW1_2
    clear hlW1_2
    rw [← hW1_0]
    rw [← hW1_1]
    rw [← hW1_2]
    simp only [← hB1]
    have HW1_0 := Lib.hid hW1_0
    clear hW1_0 hzW1_0
    have HW1_1 := Lib.hid hW1_1
    clear hW1_1 hzW1_1
    have HW1_2 := Lib.hid hW1_2
    clear hW1_2 hzW1_2
    have HB1 := Lib.hid hB1
    clear hB1
    have ac0 := a_3.out.c0
    have ac1 := a_3.out.c1
    have ac2 := a_3.out.c2
    have bc0 := b_3.out.c0
    have bc1 := b_3.out.c1
    have bc2 := b_3.out.c2
    go_wp2_with fail
    clear ac0 ac1 ac2 bc0 bc1 bc2
    refine (hva.out _).mono ?_
    rintro e v4 ⟨rfl, hb⟩
    have D4 := Lib.hid (D3.out.trans (hb.mono D3.out.size))
    have a_4 := Lib.hid (a_3.out.bel hb)
    have b_4 := Lib.hid (b_3.out.bel hb)
    have z_4 := Lib.hid (z_3.out.bel hb)
    clear D3 a_3 b_3 z_3
    clear hb
    have ac0 := a_4.out.c0
    have ac1 := a_4.out.c1
    have ac2 := a_4.out.c2
    have bc0 := b_4.out.c0
    have bc1 := b_4.out.c1
    have bc2 := b_4.out.c2
    go_wp2_with fail
    clear ac0 ac1 ac2 bc0 bc1 bc2
    refine (hvb.out _).mono ?_
    rintro e v5 ⟨rfl, hb⟩
    have D5 := Lib.hid (D4.out.trans (hb.mono D4.out.size))
    have a_5 := Lib.hid (a_4.out.bel hb)
    have b_5 := Lib.hid (b_4.out.bel hb)
    have z_5 := Lib.hid (z_4.out.bel hb)
    clear D4 a_4 b_4 z_4
    clear hb
    have ac0 := a_5.out.c0
    have ac1 := a_5.out.c1
    have ac2 := a_5.out.c2
    have bc0 := b_5.out.c0
    have bc1 := b_5.out.c1
    have bc2 := b_5.out.c2
    go_wp2_with fail
    clear ac0 ac1 ac2 bc0 bc1 bc2
    refine (refMul_any a.num b.den _).mono ?_
    rintro e v6 ⟨rfl, hb⟩
    have D6 := Lib.hid (D5.out.trans (hb.mono D5.out.size))
    have a_6 := Lib.hid (a_5.out.bel hb)
    have b_6 := Lib.hid (b_5.out.bel hb)
    have z_6 := Lib.hid (z_5.out.bel hb)
    clear D5 a_5 b_5 z_5
    clear hb
    simp only [M1.out]
    have ac0 := a_6.out.c0
    have ac1 := a_6.out.c1
    have ac2 := a_6.out.c2
    have bc0 := b_6.out.c0
    have bc1 := b_6.out.c1
    have bc2 := b_6.out.c2
    go_wp2_with fail
    clear ac0 ac1 ac2 bc0 bc1 bc2
    refine (refMul_any b.num a.den _).mono ?_
    rintro e v7 ⟨rfl, hb⟩
    have D7 := Lib.hid (D6.out.trans (hb.mono D6.out.size))
    have a_7 := Lib.hid (a_6.out.bel hb)
    have b_7 := Lib.hid (b_6.out.bel hb)
    have z_7 := Lib.hid (z_6.out.bel hb)
    clear D6 a_6 b_6 z_6
    clear hb
    simp only [M2.out]
    have ac0 := a_7.out.c0
    have ac1 := a_7.out.c1
    have ac2 := a_7.out.c2
    have bc0 := b_7.out.c0
    have bc1 := b_7.out.c1
    have bc2 := b_7.out.c2
    go_wp2_with fail
    clear ac0 ac1 ac2 bc0 bc1 bc2
    refine (refMul_any a.den b.den _).mono ?_
    rintro e v8 ⟨rfl, hb⟩
    have D8 := Lib.hid (D7.out.trans (hb.mono D7.out.size))
    have a_8 := Lib.hid (a_7.out.bel hb)
    have b_8 := Lib.hid (b_7.out.bel hb)
    have z_8 := Lib.hid (z_7.out.bel hb)
    clear D7 a_7 b_7 z_7
    clear hb
    simp only [M3.out]
    have ac0 := a_8.out.c0
    have ac1 := a_8.out.c1
    have ac2 := a_8.out.c2
    have bc0 := b_8.out.c0
    have bc1 := b_8.out.c1
    have bc2 := b_8.out.c2
    have zz0 := z_8.out.c0; have kk0 := z_8.out.fz 0
    have zz1 := z_8.out.c1; have kk1 := z_8.out.fz 1
    have zz2 := z_8.out.c2; have kk2 := z_8.out.fz 2
    go_wp2_with fail
    (try simp only [Exit.inBlock, Exit.then])
    first | (refine bodyPost_ret (results_rat rfl _ _ (B1 + 1 + 1) ⟨_, _, _⟩ _ rfl rfl (z_8.out.set ⟨_, _, _⟩)) rfl ?_; rw [HTT.out]; exact ⟨rfl, ((D8.out.setCell (p := ⟨B1 + 1 + 1, 0, none⟩) (by have := HB1.out; show w.heap.size ≤ B1 + 1 + 1; omega) _).setCell (p := ⟨B1 + 1 + 1, 1, none⟩) (by have := HB1.out; show w.heap.size ≤ B1 + 1 + 1; omega) _).setCell (p := ⟨B1 + 1 + 1, 2, none⟩) (by have := HB1.out; show w.heap.size ≤ B1 + 1 + 1; omega) _⟩) | (refine bodyPost_ret (results_rat rfl _ _ (B1 + 1 + 1) noRaw _ rfl rfl z_8.out) rfl ?_; rw [HTT.out]; exact ⟨rfl, D8.out⟩)
  · have M1 := Lib.hid m1; have M2 := Lib.hid m2; have M3 := Lib.hid m3; have SD := Lib.hid (And.intro sd d0); clear m1 m2 m3 sd d0
    rcases hs with ⟨e, m4, m9⟩ | ⟨n, e, m4, sn, m9⟩ | ⟨n, c, e, m4, c0, m5, sn, m9⟩ | ⟨n, e, m4, m5, sn, m9⟩
    · have e1 : (a.neg == b.neg) = true := by rw [e]; simp
      have M4 := Lib.hid m4; have HTT := Lib.hid m9; have E1 := Lib.hid e1; clear e m4 m9 e1
      go_enter Tryz.func22, Tryz.ntmps22
      go_wp2_with fail
      obtain ⟨B1, hB1⟩ : ∃ B, B = w.heap.size := ⟨_, rfl⟩
      obtain ⟨W1_0, hW1_0⟩ : ∃ W, W = w.alloc (Obj.cells #[Value.bool a.neg, Value.string a.num, Value.string a.den] 24) := ⟨_, rfl⟩
      have hb : Below w.heap.size w W1_0 := by rw [hW1_0]; exact (Below.refl _ _).alloc (Nat.le_refl _) _
      have hzW1_0 : w.heap.size = B1 := by rw [hB1]
      have hlW1_0 : RatAt (B1) a W1_0 := by rw [← hzW1_0, hW1_0]; exact ⟨heap_lastM _ _⟩
      have D1 := Lib.hid (D0.out.trans (hb.mono D0.out.size))
      clear hb
      have a_1 := Lib.hid hlW1_0
      clear hlW1_0
      obtain ⟨W1_1, hW1_1⟩ : ∃ W, W = W1_0.alloc (Obj.cells #[Value.bool b.neg, Value.string b.num, Value.string b.den] 24) := ⟨_, rfl⟩
      have hb : Below W1_0.heap.size W1_0 W1_1 := by rw [hW1_1]; exact (Below.refl _ _).alloc (Nat.le_refl _) _
      have hzW1_1 : W1_0.heap.size = B1 + 1 := by rw [hW1_0]; simp [hzW1_0]
      have hlW1_1 : RatAt (B1 + 1) b W1_1 := by rw [← hzW1_1, hW1_1]; exact ⟨heap_lastM _ _⟩
      have D2 := Lib.hid (D1.out.trans (hb.mono D1.out.size))
      have a_2 := Lib.hid (a_1.out.bel hb)
      clear D1 a_1
      clear hb
      have b_2 := Lib.hid hlW1_1
      clear hlW1_1
      obtain ⟨W1_2, hW1_2⟩ : ∃ W, W = W1_1.alloc (Obj.cells #[Value.bool false, Value.string ⟨#[]⟩, Value.string ⟨#[]⟩] 24) := ⟨_, rfl⟩
      have hb : Below W1_1.heap.size W1_1 W1_2 := by rw [hW1_2]; exact (Below.refl _ _).alloc (Nat.le_refl _) _
      have hzW1_2 : W1_1.heap.size = B1 + 1 + 1 := by rw [hW1_1]; simp [hzW1_1]
      have hlW1_2 : RatAt (B1 + 1 + 1) noRaw W1_2 := by rw [← hzW1_2, hW1_2]; exact ⟨heap_lastM _ _⟩
      have D3 := Lib.hid (D2.out.trans (hb.mono D2.out.size))
      have a_3 := Lib.hid (a_2.out.bel hb)
      have b_3 := Lib.hid (b_2.out.bel hb)
      clear D2 a_2 b_2
      clear hb
      have z_3 := Lib.hid hlW1_2
      clear hlW1_2
      rw [← hW1_0]
      rw [← hW1_1]
      rw [← hW1_2]
      simp only [← hB1]
      have HW1_0 := Lib.hid hW1_0
      clear hW1_0 hzW1_0
      have HW1_1 := Lib.hid hW1_1
      clear hW1_1 hzW1_1
      have HW1_2 := Lib.hid hW1_2
      clear hW1_2 hzW1_2
      have HB1 := Lib.hid hB1
      clear hB1
      have ac0 := a_3.out.c0
      have ac1 := a_3.out.c1
      have ac2 := a_3.out.c2
      have bc0 := b_3.out.c0
      have bc1 := b_3.out.c1
      have bc2 := b_3.out.c2
      go_wp2_with fail
      clear ac0 ac1 ac2 bc0 bc1 bc2
      refine (hva.out _).mono ?_
      rintro e v4 ⟨rfl, hb⟩
      have D4 := Lib.hid (D3.out.trans (hb.mono D3.out.size))
      have a_4 := Lib.hid (a_3.out.bel hb)
      have b_4 := Lib.hid (b_3.out.bel hb)
      have z_4 := Lib.hid (z_3.out.bel hb)
      clear D3 a_3 b_3 z_3
      clear hb
      have ac0 := a_4.out.c0
      have ac1 := a_4.out.c1
      have ac2 := a_4.out.c2
      have bc0 := b_4.out.c0
      have bc1 := b_4.out.c1
      have bc2 := b_4.out.c2
      go_wp2_with fail
      clear ac0 ac1 ac2 bc0 bc1 bc2
      refine (hvb.out _).mono ?_
      rintro e v5 ⟨rfl, hb⟩
      have D5 := Lib.hid (D4.out.trans (hb.mono D4.out.size))
      have a_5 := Lib.hid (a_4.out.bel hb)
      have b_5 := Lib.hid (b_4.out.bel hb)
      have z_5 := Lib.hid (z_4.out.bel hb)
      clear D4 a_4 b_4 z_4
      clear hb
      have ac0 := a_5.out.c0
      have ac1 := a_5.out.c1
      have ac2 := a_5.out.c2
      have bc0 := b_5.out.c0
      have bc1 := b_5.out.c1
      have bc2 := b_5.out.c2
      go_wp2_with fail
      clear ac0 ac1 ac2 bc0 bc1 bc2
      refine (refMul_any a.num b.den _).mono ?_
      rintro e v6 ⟨rfl, hb⟩
      have D6 := Lib.hid (D5.out.trans (hb.mono D5.out.size))
      have a_6 := Lib.hid (a_5.out.bel hb)
      have b_6 := Lib.hid (b_5.out.bel hb)
      have z_6 := Lib.hid (z_5.out.bel hb)
      clear D5 a_5 b_5 z_5
      clear hb
      simp only [M1.out]
      have ac0 := a_6.out.c0
      have ac1 := a_6.out.c1
      have ac2 := a_6.out.c2
      have bc0 := b_6.out.c0
      have bc1 := b_6.out.c1
      have bc2 := b_6.out.c2
      go_wp2_with fail
      clear ac0 ac1 ac2 bc0 bc1 bc2
      refine (refMul_any b.num a.den _).mono ?_
      rintro e v7 ⟨rfl, hb⟩
      have D7 := Lib.hid (D6.out.trans (hb.mono D6.out.size))
      have a_7 := Lib.hid (a_6.out.bel hb)
      have b_7 := Lib.hid (b_6.out.bel hb)
      have z_7 := Lib.hid (z_6.out.bel hb)
      clear D6 a_6 b_6 z_6
      clear hb
      simp only [M2.out]
      have ac0 := a_7.out.c0
      have ac1 := a_7.out.c1
      have ac2 := a_7.out.c2
      have bc0 := b_7.out.c0
      have bc1 := b_7.out.c1
      have bc2 := b_7.out.c2
      go_wp2_with fail
      clear ac0 ac1 ac2 bc0 bc1 bc2
      refine (refMul_any a.den b.den _).mono ?_
      rintro e v8 ⟨rfl, hb⟩
      have D8 := Lib.hid (D7.out.trans (hb.mono D7.out.size))
      have a_8 := Lib.hid (a_7.out.bel hb)
      have b_8 := Lib.hid (b_7.out.bel hb)
      have z_8 := Lib.hid (z_7.out.bel hb)
      clear D7 a_7 b_7 z_7
      clear hb
      simp only [M3.out]
      have ac0 := a_8.out.c0
      have ac1 := a_8.out.c1
      have ac2 := a_8.out.c2
      have bc0 := b_8.out.c0
      have bc1 := b_8.out.c1
      have bc2 := b_8.out.c2
      have e1 := E1.out
      go_wp2_with fail
      clear ac0 ac1 ac2 bc0 bc1 bc2
      refine (refAdd_any (nS p) (nS q) _).mono ?_
      rintro e v9 ⟨rfl, hb⟩
      have D9 := Lib.hid (D8.out.trans (hb.mono D8.out.size))
      have a_9 := Lib.hid (a_8.out.bel hb)
      have b_9 := Lib.hid (b_8.out.bel hb)
      have z_9 := Lib.hid (z_8.out.bel hb)
      clear D8 a_8 b_8 z_8
      clear hb
      simp only [M4.out]
      have ac0 := a_9.out.c0
      have ac1 := a_9.out.c1
      have ac2 := a_9.out.c2
      have bc0 := b_9.out.c0
      have bc1 := b_9.out.c1
      have bc2 := b_9.out.c2
      have zz0 := z_9.out.c0; have kk0 := z_9.out.fz 0
      have zz1 := z_9.out.c1; have kk1 := z_9.out.fz 1
      have zz2 := z_9.out.c2; have kk2 := z_9.out.fz 2
      go_wp2_with fail
      (try simp only [Exit.inBlock, Exit.then])
      first | (refine bodyPost_ret (results_rat rfl _ _ (B1 + 1 + 1) ⟨_, _, _⟩ _ rfl rfl (z_9.out.set ⟨_, _, _⟩)) rfl ?_; rw [HTT.out]; exact ⟨rfl, ((D9.out.setCell (p := ⟨B1 + 1 + 1, 0, none⟩) (by have := HB1.out; show w.heap.size ≤ B1 + 1 + 1; omega) _).setCell (p := ⟨B1 + 1 + 1, 1, none⟩) (by have := HB1.out; show w.heap.size ≤ B1 + 1 + 1; omega) _).setCell (p := ⟨B1 + 1 + 1, 2, none⟩) (by have := HB1.out; show w.heap.size ≤ B1 + 1 + 1; omega) _⟩) | (refine bodyPost_ret (results_rat rfl _ _ (B1 + 1 + 1) noRaw _ rfl rfl z_9.out) rfl ?_; rw [HTT.out]; exact ⟨rfl, D9.out⟩)
    · have e1 : (a.neg == b.neg) = true := by rw [e]; simp
      have HL : Hid (∀ w, Calls Tryz.prog 41 #[.bool a.neg, .string (nS n), .string (nS d)] w (GivesQ (low a.neg n d).raw w)) := Lib.hid (fun w => reflowest_any _ _ _ w sn SD.out.1 SD.out.2)
      have M4 := Lib.hid m4; have HTT := Lib.hid m9; have E1 := Lib.hid e1; clear e m4 m9 sn e1
      go_enter Tryz.func22, Tryz.ntmps22
      go_wp2_with fail
      obtain ⟨B1, hB1⟩ : ∃ B, B = w.heap.size := ⟨_, rfl⟩
      obtain ⟨W1_0, hW1_0⟩ : ∃ W, W = w.alloc (Obj.cells #[Value.bool a.neg, Value.string a.num, Value.string a.den] 24) := ⟨_, rfl⟩
      have hb : Below w.heap.size w W1_0 := by rw [hW1_0]; exact (Below.refl _ _).alloc (Nat.le_refl _) _
      have hzW1_0 : w.heap.size = B1 := by rw [hB1]
      have hlW1_0 : RatAt (B1) a W1_0 := by rw [← hzW1_0, hW1_0]; exact ⟨heap_lastM _ _⟩
      have D1 := Lib.hid (D0.out.trans (hb.mono D0.out.size))
      clear hb
      have a_1 := Lib.hid hlW1_0
      clear hlW1_0
      obtain ⟨W1_1, hW1_1⟩ : ∃ W, W = W1_0.alloc (Obj.cells #[Value.bool b.neg, Value.string b.num, Value.string b.den] 24) := ⟨_, rfl⟩
      have hb : Below W1_0.heap.size W1_0 W1_1 := by rw [hW1_1]; exact (Below.refl _ _).alloc (Nat.le_refl _) _
      have hzW1_1 : W1_0.heap.size = B1 + 1 := by rw [hW1_0]; simp [hzW1_0]
      have hlW1_1 : RatAt (B1 + 1) b W1_1 := by rw [← hzW1_1, hW1_1]; exact ⟨heap_lastM _ _⟩
      have D2 := Lib.hid (D1.out.trans (hb.mono D1.out.size))
      have a_2 := Lib.hid (a_1.out.bel hb)
      clear D1 a_1
      clear hb
      have b_2 := Lib.hid hlW1_1
      clear hlW1_1
      obtain ⟨W1_2, hW1_2⟩ : ∃ W, W = W1_1.alloc (Obj.cells #[Value.bool false, Value.string ⟨#[]⟩, Value.string ⟨#[]⟩] 24) := ⟨_, rfl⟩
      have hb : Below W1_1.heap.size W1_1 W1_2 := by rw [hW1_2]; exact (Below.refl _ _).alloc (Nat.le_refl _) _
      have hzW1_2 : W1_1.heap.size = B1 + 1 + 1 := by rw [hW1_1]; simp [hzW1_1]
      have hlW1_2 : RatAt (B1 + 1 + 1) noRaw W1_2 := by rw [← hzW1_2, hW1_2]; exact ⟨heap_lastM _ _⟩
      have D3 := Lib.hid (D2.out.trans (hb.mono D2.out.size))
      have a_3 := Lib.hid (a_2.out.bel hb)
      have b_3 := Lib.hid (b_2.out.bel hb)
      clear D2 a_2 b_2
      clear hb
      have z_3 := Lib.hid hlW1_2
      clear hlW1_2
      rw [← hW1_0]
      rw [← hW1_1]
      rw [← hW1_2]
      simp only [← hB1]
      have HW1_0 := Lib.hid hW1_0
      clear hW1_0 hzW1_0
      have HW1_1 := Lib.hid hW1_1
      clear hW1_1 hzW1_1
      have HW1_2 := Lib.hid hW1_2
      clear hW1_2 hzW1_2
      have HB1 := Lib.hid hB1
      clear hB1
      have ac0 := a_3.out.c0
      have ac1 := a_3.out.c1
      have ac2 := a_3.out.c2
      have bc0 := b_3.out.c0
      have bc1 := b_3.out.c1
      have bc2 := b_3.out.c2
      go_wp2_with fail
      clear ac0 ac1 ac2 bc0 bc1 bc2
      refine (hva.out _).mono ?_
      rintro e v4 ⟨rfl, hb⟩
      have D4 := Lib.hid (D3.out.trans (hb.mono D3.out.size))
      have a_4 := Lib.hid (a_3.out.bel hb)
      have b_4 := Lib.hid (b_3.out.bel hb)
      have z_4 := Lib.hid (z_3.out.bel hb)
      clear D3 a_3 b_3 z_3
      clear hb
      have ac0 := a_4.out.c0
      have ac1 := a_4.out.c1
      have ac2 := a_4.out.c2
      have bc0 := b_4.out.c0
      have bc1 := b_4.out.c1
      have bc2 := b_4.out.c2
      go_wp2_with fail
      clear ac0 ac1 ac2 bc0 bc1 bc2
      refine (hvb.out _).mono ?_
      rintro e v5 ⟨rfl, hb⟩
      have D5 := Lib.hid (D4.out.trans (hb.mono D4.out.size))
      have a_5 := Lib.hid (a_4.out.bel hb)
      have b_5 := Lib.hid (b_4.out.bel hb)
      have z_5 := Lib.hid (z_4.out.bel hb)
      clear D4 a_4 b_4 z_4
      clear hb
      have ac0 := a_5.out.c0
      have ac1 := a_5.out.c1
      have ac2 := a_5.out.c2
      have bc0 := b_5.out.c0
      have bc1 := b_5.out.c1
      have bc2 := b_5.out.c2
      go_wp2_with fail
      clear ac0 ac1 ac2 bc0 bc1 bc2
      refine (refMul_any a.num b.den _).mono ?_
      rintro e v6 ⟨rfl, hb⟩
      have D6 := Lib.hid (D5.out.trans (hb.mono D5.out.size))
      have a_6 := Lib.hid (a_5.out.bel hb)
      have b_6 := Lib.hid (b_5.out.bel hb)
      have z_6 := Lib.hid (z_5.out.bel hb)
      clear D5 a_5 b_5 z_5
      clear hb
      simp only [M1.out]
      have ac0 := a_6.out.c0
      have ac1 := a_6.out.c1
      have ac2 := a_6.out.c2
      have bc0 := b_6.out.c0
      have bc1 := b_6.out.c1
      have bc2 := b_6.out.c2
      go_wp2_with fail
      clear ac0 ac1 ac2 bc0 bc1 bc2
      refine (refMul_any b.num a.den _).mono ?_
      rintro e v7 ⟨rfl, hb⟩
      have D7 := Lib.hid (D6.out.trans (hb.mono D6.out.size))
      have a_7 := Lib.hid (a_6.out.bel hb)
      have b_7 := Lib.hid (b_6.out.bel hb)
      have z_7 := Lib.hid (z_6.out.bel hb)
      clear D6 a_6 b_6 z_6
      clear hb
      simp only [M2.out]
      have ac0 := a_7.out.c0
      have ac1 := a_7.out.c1
      have ac2 := a_7.out.c2
      have bc0 := b_7.out.c0
      have bc1 := b_7.out.c1
      have bc2 := b_7.out.c2
      go_wp2_with fail
      clear ac0 ac1 ac2 bc0 bc1 bc2
      refine (refMul_any a.den b.den _).mono ?_
      rintro e v8 ⟨rfl, hb⟩
      have D8 := Lib.hid (D7.out.trans (hb.mono D7.out.size))
      have a_8 := Lib.hid (a_7.out.bel hb)
      have b_8 := Lib.hid (b_7.out.bel hb)
      have z_8 := Lib.hid (z_7.out.bel hb)
      clear D7 a_7 b_7 z_7
      clear hb
      simp only [M3.out]
      have ac0 := a_8.out.c0
      have ac1 := a_8.out.c1
      have ac2 := a_8.out.c2
      have bc0 := b_8.out.c0
      have bc1 := b_8.out.c1
      have bc2 := b_8.out.c2
      have e1 := E1.out
      go_wp2_with fail
      clear ac0 ac1 ac2 bc0 bc1 bc2
      refine (refAdd_any (nS p) (nS q) _).mono ?_
      rintro e v9 ⟨rfl, hb⟩
      have D9 := Lib.hid (D8.out.trans (hb.mono D8.out.size))
      have a_9 := Lib.hid (a_8.out.bel hb)
      have b_9 := Lib.hid (b_8.out.bel hb)
      have z_9 := Lib.hid (z_8.out.bel hb)
      clear D8 a_8 b_8 z_8
      clear hb
      simp only [M4.out]
      have ac0 := a_9.out.c0
      have ac1 := a_9.out.c1
      have ac2 := a_9.out.c2
      have bc0 := b_9.out.c0
      have bc1 := b_9.out.c1
      have bc2 := b_9.out.c2
      go_wp2_with fail
      clear ac0 ac1 ac2 bc0 bc1 bc2
      refine (HL.out _).mono ?_
      rintro e v10 ⟨rfl, hb⟩
      have D10 := Lib.hid (D9.out.trans (hb.mono D9.out.size))
      have a_10 := Lib.hid (a_9.out.bel hb)
      have b_10 := Lib.hid (b_9.out.bel hb)
      have z_10 := Lib.hid (z_9.out.bel hb)
      clear D9 a_9 b_9 z_9
      clear hb
      have ac0 := a_10.out.c0
      have ac1 := a_10.out.c1
      have ac2 := a_10.out.c2
      have bc0 := b_10.out.c0
      have bc1 := b_10.out.c1
      have bc2 := b_10.out.c2
      have zz0 := z_10.out.c0; have kk0 := z_10.out.fz 0
      have zz1 := z_10.out.c1; have kk1 := z_10.out.fz 1
      have zz2 := z_10.out.c2; have kk2 := z_10.out.fz 2
      go_wp2_with fail
      (try simp only [Exit.inBlock, Exit.then])
      first | (refine bodyPost_ret (results_rat rfl _ _ (B1 + 1 + 1) ⟨_, _, _⟩ _ rfl rfl (z_10.out.set ⟨_, _, _⟩)) rfl ?_; rw [HTT.out]; exact ⟨rfl, ((D10.out.setCell (p := ⟨B1 + 1 + 1, 0, none⟩) (by have := HB1.out; show w.heap.size ≤ B1 + 1 + 1; omega) _).setCell (p := ⟨B1 + 1 + 1, 1, none⟩) (by have := HB1.out; show w.heap.size ≤ B1 + 1 + 1; omega) _).setCell (p := ⟨B1 + 1 + 1, 2, none⟩) (by have := HB1.out; show w.heap.size ≤ B1 + 1 + 1; omega) _⟩) | (refine bodyPost_ret (results_rat rfl _ _ (B1 + 1 + 1) noRaw _ rfl rfl z_10.out) rfl ?_; rw [HTT.out]; exact ⟨rfl, D10.out⟩)
    · have e1 : (a.neg == b.neg) = false := by simpa using e
      have HL : Hid (∀ w, Calls Tryz.prog 41 #[.bool a.neg, .string (nS n), .string (nS d)] w (GivesQ (low a.neg n d).raw w)) := Lib.hid (fun w => reflowest_any _ _ _ w sn SD.out.1 SD.out.2)
      have c1 : (c < 0) = False := eq_false (by omega)
      have M4 := Lib.hid m4; have M5 := Lib.hid m5; have HTT := Lib.hid m9; have E1 := Lib.hid e1; have C0 := Lib.hid c0; clear e m4 m5 m9 sn e1 c0 c1
      go_enter Tryz.func22, Tryz.ntmps22
      go_wp2_with fail
      obtain ⟨B1, hB1⟩ : ∃ B, B = w.heap.size := ⟨_, rfl⟩
      obtain ⟨W1_0, hW1_0⟩ : ∃ W, W = w.alloc (Obj.cells #[Value.bool a.neg, Value.string a.num, Value.string a.den] 24) := ⟨_, rfl⟩
      have hb : Below w.heap.size w W1_0 := by rw [hW1_0]; exact (Below.refl _ _).alloc (Nat.le_refl _) _
      have hzW1_0 : w.heap.size = B1 := by rw [hB1]
      have hlW1_0 : RatAt (B1) a W1_0 := by rw [← hzW1_0, hW1_0]; exact ⟨heap_lastM _ _⟩
      have D1 := Lib.hid (D0.out.trans (hb.mono D0.out.size))
      clear hb
      have a_1 := Lib.hid hlW1_0
      clear hlW1_0
      obtain ⟨W1_1, hW1_1⟩ : ∃ W, W = W1_0.alloc (Obj.cells #[Value.bool b.neg, Value.string b.num, Value.string b.den] 24) := ⟨_, rfl⟩
      have hb : Below W1_0.heap.size W1_0 W1_1 := by rw [hW1_1]; exact (Below.refl _ _).alloc (Nat.le_refl _) _
      have hzW1_1 : W1_0.heap.size = B1 + 1 := by rw [hW1_0]; simp [hzW1_0]
      have hlW1_1 : RatAt (B1 + 1) b W1_1 := by rw [← hzW1_1, hW1_1]; exact ⟨heap_lastM _ _⟩
      have D2 := Lib.hid (D1.out.trans (hb.mono D1.out.size))
      have a_2 := Lib.hid (a_1.out.bel hb)
      clear D1 a_1
      clear hb
      have b_2 := Lib.hid hlW1_1
      clear hlW1_1
      obtain ⟨W1_2, hW1_2⟩ : ∃ W, W = W1_1.alloc (Obj.cells #[Value.bool false, Value.string ⟨#[]⟩, Value.string ⟨#[]⟩] 24) := ⟨_, rfl⟩
      have hb : Below W1_1.heap.size W1_1 W1_2 := by rw [hW1_2]; exact (Below.refl _ _).alloc (Nat.le_refl _) _
      have hzW1_2 : W1_1.heap.size = B1 + 1 + 1 := by rw [hW1_1]; simp [hzW1_1]
      have hlW1_2 : RatAt (B1 + 1 + 1) noRaw W1_2 := by rw [← hzW1_2, hW1_2]; exact ⟨heap_lastM _ _⟩
      have D3 := Lib.hid (D2.out.trans (hb.mono D2.out.size))
      have a_3 := Lib.hid (a_2.out.bel hb)
      have b_3 := Lib.hid (b_2.out.bel hb)
      clear D2 a_2 b_2
      clear hb
      have z_3 := Lib.hid hlW1_2
      clear hlW1_2
      rw [← hW1_0]
      rw [← hW1_1]
      rw [← hW1_2]
      simp only [← hB1]
      have HW1_0 := Lib.hid hW1_0
      clear hW1_0 hzW1_0
      have HW1_1 := Lib.hid hW1_1
      clear hW1_1 hzW1_1
      have HW1_2 := Lib.hid hW1_2
      clear hW1_2 hzW1_2
      have HB1 := Lib.hid hB1
      clear hB1
      have ac0 := a_3.out.c0
      have ac1 := a_3.out.c1
      have ac2 := a_3.out.c2
      have bc0 := b_3.out.c0
      have bc1 := b_3.out.c1
      have bc2 := b_3.out.c2
      go_wp2_with fail
      clear ac0 ac1 ac2 bc0 bc1 bc2
      refine (hva.out _).mono ?_
      rintro e v4 ⟨rfl, hb⟩
      have D4 := Lib.hid (D3.out.trans (hb.mono D3.out.size))
      have a_4 := Lib.hid (a_3.out.bel hb)
      have b_4 := Lib.hid (b_3.out.bel hb)
      have z_4 := Lib.hid (z_3.out.bel hb)
      clear D3 a_3 b_3 z_3
      clear hb
      have ac0 := a_4.out.c0
      have ac1 := a_4.out.c1
      have ac2 := a_4.out.c2
      have bc0 := b_4.out.c0
      have bc1 := b_4.out.c1
      have bc2 := b_4.out.c2
      go_wp2_with fail
      clear ac0 ac1 ac2 bc0 bc1 bc2
      refine (hvb.out _).mono ?_
      rintro e v5 ⟨rfl, hb⟩
      have D5 := Lib.hid (D4.out.trans (hb.mono D4.out.size))
      have a_5 := Lib.hid (a_4.out.bel hb)
      have b_5 := Lib.hid (b_4.out.bel hb)
      have z_5 := Lib.hid (z_4.out.bel hb)
      clear D4 a_4 b_4 z_4
      clear hb
      have ac0 := a_5.out.c0
      have ac1 := a_5.out.c1
      have ac2 := a_5.out.c2
      have bc0 := b_5.out.c0
      have bc1 := b_5.out.c1
      have bc2 := b_5.out.c2
      go_wp2_with fail
      clear ac0 ac1 ac2 bc0 bc1 bc2
      refine (refMul_any a.num b.den _).mono ?_
      rintro e v6 ⟨rfl, hb⟩
      have D6 := Lib.hid (D5.out.trans (hb.mono D5.out.size))
      have a_6 := Lib.hid (a_5.out.bel hb)
      have b_6 := Lib.hid (b_5.out.bel hb)
      have z_6 := Lib.hid (z_5.out.bel hb)
      clear D5 a_5 b_5 z_5
      clear hb
      simp only [M1.out]
      have ac0 := a_6.out.c0
      have ac1 := a_6.out.c1
      have ac2 := a_6.out.c2
      have bc0 := b_6.out.c0
      have bc1 := b_6.out.c1
      have bc2 := b_6.out.c2
      go_wp2_with fail
      clear ac0 ac1 ac2 bc0 bc1 bc2
      refine (refMul_any b.num a.den _).mono ?_
      rintro e v7 ⟨rfl, hb⟩
      have D7 := Lib.hid (D6.out.trans (hb.mono D6.out.size))
      have a_7 := Lib.hid (a_6.out.bel hb)
      have b_7 := Lib.hid (b_6.out.bel hb)
      have z_7 := Lib.hid (z_6.out.bel hb)
      clear D6 a_6 b_6 z_6
      clear hb
      simp only [M2.out]
      have ac0 := a_7.out.c0
      have ac1 := a_7.out.c1
      have ac2 := a_7.out.c2
      have bc0 := b_7.out.c0
      have bc1 := b_7.out.c1
      have bc2 := b_7.out.c2
      go_wp2_with fail
      clear ac0 ac1 ac2 bc0 bc1 bc2
      refine (refMul_any a.den b.den _).mono ?_
      rintro e v8 ⟨rfl, hb⟩
      have D8 := Lib.hid (D7.out.trans (hb.mono D7.out.size))
      have a_8 := Lib.hid (a_7.out.bel hb)
      have b_8 := Lib.hid (b_7.out.bel hb)
      have z_8 := Lib.hid (z_7.out.bel hb)
      clear D7 a_7 b_7 z_7
      clear hb
      simp only [M3.out]
      have ac0 := a_8.out.c0
      have ac1 := a_8.out.c1
      have ac2 := a_8.out.c2
      have bc0 := b_8.out.c0
      have bc1 := b_8.out.c1
      have bc2 := b_8.out.c2
      have e1 := E1.out
      go_wp2_with fail
      clear ac0 ac1 ac2 bc0 bc1 bc2
      refine (refCompare_any (nS p) (nS q) _).mono ?_
      rintro e wz ⟨rfl, rfl⟩
      simp only [M4.out]
      have ac0 := a_8.out.c0
      have ac1 := a_8.out.c1
      have ac2 := a_8.out.c2
      have bc0 := b_8.out.c0
      have bc1 := b_8.out.c1
      have bc2 := b_8.out.c2
      have c0 := C0.out
      go_wp2_with fail
      clear ac0 ac1 ac2 bc0 bc1 bc2
      refine (refSub_any (nS p) (nS q) _).mono ?_
      rintro e v9 ⟨rfl, hb⟩
      have D9 := Lib.hid (D8.out.trans (hb.mono D8.out.size))
      have a_9 := Lib.hid (a_8.out.bel hb)
      have b_9 := Lib.hid (b_8.out.bel hb)
      have z_9 := Lib.hid (z_8.out.bel hb)
      clear D8 a_8 b_8 z_8
      clear hb
      simp only [M5.out]
      have ac0 := a_9.out.c0
      have ac1 := a_9.out.c1
      have ac2 := a_9.out.c2
      have bc0 := b_9.out.c0
      have bc1 := b_9.out.c1
      have bc2 := b_9.out.c2
      go_wp2_with fail
      clear ac0 ac1 ac2 bc0 bc1 bc2
      refine (HL.out _).mono ?_
      rintro e v10 ⟨rfl, hb⟩
      have D10 := Lib.hid (D9.out.trans (hb.mono D9.out.size))
      have a_10 := Lib.hid (a_9.out.bel hb)
      have b_10 := Lib.hid (b_9.out.bel hb)
      have z_10 := Lib.hid (z_9.out.bel hb)
      clear D9 a_9 b_9 z_9
      clear hb
      have ac0 := a_10.out.c0
      have ac1 := a_10.out.c1
      have ac2 := a_10.out.c2
      have bc0 := b_10.out.c0
      have bc1 := b_10.out.c1
      have bc2 := b_10.out.c2
      have zz0 := z_10.out.c0; have kk0 := z_10.out.fz 0
      have zz1 := z_10.out.c1; have kk1 := z_10.out.fz 1
      have zz2 := z_10.out.c2; have kk2 := z_10.out.fz 2
      go_wp2_with fail
      (try simp only [Exit.inBlock, Exit.then])
      first | (refine bodyPost_ret (results_rat rfl _ _ (B1 + 1 + 1) ⟨_, _, _⟩ _ rfl rfl (z_10.out.set ⟨_, _, _⟩)) rfl ?_; rw [HTT.out]; exact ⟨rfl, ((D10.out.setCell (p := ⟨B1 + 1 + 1, 0, none⟩) (by have := HB1.out; show w.heap.size ≤ B1 + 1 + 1; omega) _).setCell (p := ⟨B1 + 1 + 1, 1, none⟩) (by have := HB1.out; show w.heap.size ≤ B1 + 1 + 1; omega) _).setCell (p := ⟨B1 + 1 + 1, 2, none⟩) (by have := HB1.out; show w.heap.size ≤ B1 + 1 + 1; omega) _⟩) | (refine bodyPost_ret (results_rat rfl _ _ (B1 + 1 + 1) noRaw _ rfl rfl z_10.out) rfl ?_; rw [HTT.out]; exact ⟨rfl, D10.out⟩)
    · have e1 : (a.neg == b.neg) = false := by simpa using e
      have HL : Hid (∀ w, Calls Tryz.prog 41 #[.bool b.neg, .string (nS n), .string (nS d)] w (GivesQ (low b.neg n d).raw w)) := Lib.hid (fun w => reflowest_any _ _ _ w sn SD.out.1 SD.out.2)
      have M4 := Lib.hid m4; have M5 := Lib.hid m5; have HTT := Lib.hid m9; have E1 := Lib.hid e1; clear e m4 m5 m9 sn e1
      go_enter Tryz.func22, Tryz.ntmps22
      go_wp2_with fail
      obtain ⟨B1, hB1⟩ : ∃ B, B = w.heap.size := ⟨_, rfl⟩
      obtain ⟨W1_0, hW1_0⟩ : ∃ W, W = w.alloc (Obj.cells #[Value.bool a.neg, Value.string a.num, Value.string a.den] 24) := ⟨_, rfl⟩
      have hb : Below w.heap.size w W1_0 := by rw [hW1_0]; exact (Below.refl _ _).alloc (Nat.le_refl _) _
      have hzW1_0 : w.heap.size = B1 := by rw [hB1]
      have hlW1_0 : RatAt (B1) a W1_0 := by rw [← hzW1_0, hW1_0]; exact ⟨heap_lastM _ _⟩
      have D1 := Lib.hid (D0.out.trans (hb.mono D0.out.size))
      clear hb
      have a_1 := Lib.hid hlW1_0
      clear hlW1_0
      obtain ⟨W1_1, hW1_1⟩ : ∃ W, W = W1_0.alloc (Obj.cells #[Value.bool b.neg, Value.string b.num, Value.string b.den] 24) := ⟨_, rfl⟩
      have hb : Below W1_0.heap.size W1_0 W1_1 := by rw [hW1_1]; exact (Below.refl _ _).alloc (Nat.le_refl _) _
      have hzW1_1 : W1_0.heap.size = B1 + 1 := by rw [hW1_0]; simp [hzW1_0]
      have hlW1_1 : RatAt (B1 + 1) b W1_1 := by rw [← hzW1_1, hW1_1]; exact ⟨heap_lastM _ _⟩
      have D2 := Lib.hid (D1.out.trans (hb.mono D1.out.size))
      have a_2 := Lib.hid (a_1.out.bel hb)
      clear D1 a_1
      clear hb
      have b_2 := Lib.hid hlW1_1
      clear hlW1_1
      obtain ⟨W1_2, hW1_2⟩ : ∃ W, W = W1_1.alloc (Obj.cells #[Value.bool false, Value.string ⟨#[]⟩, Value.string ⟨#[]⟩] 24) := ⟨_, rfl⟩
      have hb : Below W1_1.heap.size W1_1 W1_2 := by rw [hW1_2]; exact (Below.refl _ _).alloc (Nat.le_refl _) _
      have hzW1_2 : W1_1.heap.size = B1 + 1 + 1 := by rw [hW1_1]; simp [hzW1_1]
      have hlW1_2 : RatAt (B1 + 1 + 1) noRaw W1_2 := by rw [← hzW1_2, hW1_2]; exact ⟨heap_lastM _ _⟩
      have D3 := Lib.hid (D2.out.trans (hb.mono D2.out.size))
      have a_3 := Lib.hid (a_2.out.bel hb)
      have b_3 := Lib.hid (b_2.out.bel hb)
      clear D2 a_2 b_2
      clear hb
      have z_3 := Lib.hid hlW1_2
      clear hlW1_2
      rw [← hW1_0]
      rw [← hW1_1]
      rw [← hW1_2]
      simp only [← hB1]
      have HW1_0 := Lib.hid hW1_0
      clear hW1_0 hzW1_0
      have HW1_1 := Lib.hid hW1_1
      clear hW1_1 hzW1_1
      have HW1_2 := Lib.hid hW1_2
      clear hW1_2 hzW1_2
      have HB1 := Lib.hid hB1
      clear hB1
      have ac0 := a_3.out.c0
      have ac1 := a_3.out.c1
      have ac2 := a_3.out.c2
      have bc0 := b_3.out.c0
      have bc1 := b_3.out.c1
      have bc2 := b_3.out.c2
      go_wp2_with fail
      clear ac0 ac1 ac2 bc0 bc1 bc2
      refine (hva.out _).mono ?_
      rintro e v4 ⟨rfl, hb⟩
      have D4 := Lib.hid (D3.out.trans (hb.mono D3.out.size))
      have a_4 := Lib.hid (a_3.out.bel hb)
      have b_4 := Lib.hid (b_3.out.bel hb)
      have z_4 := Lib.hid (z_3.out.bel hb)
      clear D3 a_3 b_3 z_3
      clear hb
      have ac0 := a_4.out.c0
      have ac1 := a_4.out.c1
      have ac2 := a_4.out.c2
      have bc0 := b_4.out.c0
      have bc1 := b_4.out.c1
      have bc2 := b_4.out.c2
      go_wp2_with fail
      clear ac0 ac1 ac2 bc0 bc1 bc2
      refine (hvb.out _).mono ?_
      rintro e v5 ⟨rfl, hb⟩
      have D5 := Lib.hid (D4.out.trans (hb.mono D4.out.size))
      have a_5 := Lib.hid (a_4.out.bel hb)
      have b_5 := Lib.hid (b_4.out.bel hb)
      have z_5 := Lib.hid (z_4.out.bel hb)
      clear D4 a_4 b_4 z_4
      clear hb
      have ac0 := a_5.out.c0
      have ac1 := a_5.out.c1
      have ac2 := a_5.out.c2
      have bc0 := b_5.out.c0
      have bc1 := b_5.out.c1
      have bc2 := b_5.out.c2
      go_wp2_with fail
      clear ac0 ac1 ac2 bc0 bc1 bc2
      refine (refMul_any a.num b.den _).mono ?_
      rintro e v6 ⟨rfl, hb⟩
      have D6 := Lib.hid (D5.out.trans (hb.mono D5.out.size))
      have a_6 := Lib.hid (a_5.out.bel hb)
      have b_6 := Lib.hid (b_5.out.bel hb)
      have z_6 := Lib.hid (z_5.out.bel hb)
      clear D5 a_5 b_5 z_5
      clear hb
      simp only [M1.out]
      have ac0 := a_6.out.c0
      have ac1 := a_6.out.c1
      have ac2 := a_6.out.c2
      have bc0 := b_6.out.c0
      have bc1 := b_6.out.c1
      have bc2 := b_6.out.c2
      go_wp2_with fail
      clear ac0 ac1 ac2 bc0 bc1 bc2
      refine (refMul_any b.num a.den _).mono ?_
      rintro e v7 ⟨rfl, hb⟩
      have D7 := Lib.hid (D6.out.trans (hb.mono D6.out.size))
      have a_7 := Lib.hid (a_6.out.bel hb)
      have b_7 := Lib.hid (b_6.out.bel hb)
      have z_7 := Lib.hid (z_6.out.bel hb)
      clear D6 a_6 b_6 z_6
      clear hb
      simp only [M2.out]
      have ac0 := a_7.out.c0
      have ac1 := a_7.out.c1
      have ac2 := a_7.out.c2
      have bc0 := b_7.out.c0
      have bc1 := b_7.out.c1
      have bc2 := b_7.out.c2
      go_wp2_with fail
      clear ac0 ac1 ac2 bc0 bc1 bc2
      refine (refMul_any a.den b.den _).mono ?_
      rintro e v8 ⟨rfl, hb⟩
      have D8 := Lib.hid (D7.out.trans (hb.mono D7.out.size))
      have a_8 := Lib.hid (a_7.out.bel hb)
      have b_8 := Lib.hid (b_7.out.bel hb)
      have z_8 := Lib.hid (z_7.out.bel hb)
      clear D7 a_7 b_7 z_7
      clear hb
      simp only [M3.out]
      have ac0 := a_8.out.c0
      have ac1 := a_8.out.c1
      have ac2 := a_8.out.c2
      have bc0 := b_8.out.c0
      have bc1 := b_8.out.c1
      have bc2 := b_8.out.c2
      have e1 := E1.out
      go_wp2_with fail
      clear ac0 ac1 ac2 bc0 bc1 bc2
      refine (refCompare_any (nS p) (nS q) _).mono ?_
      rintro e wz ⟨rfl, rfl⟩
      simp only [M4.out]
      have ac0 := a_8.out.c0
      have ac1 := a_8.out.c1
      have ac2 := a_8.out.c2
      have bc0 := b_8.out.c0
      have bc1 := b_8.out.c1
      have bc2 := b_8.out.c2
      go_wp2_with fail
      clear ac0 ac1 ac2 bc0 bc1 bc2
      refine (refSub_any (nS q) (nS p) _).mono ?_
      rintro e v9 ⟨rfl, hb⟩
      have D9 := Lib.hid (D8.out.trans (hb.mono D8.out.size))
      have a_9 := Lib.hid (a_8.out.bel hb)
      have b_9 := Lib.hid (b_8.out.bel hb)
      have z_9 := Lib.hid (z_8.out.bel hb)
      clear D8 a_8 b_8 z_8
      clear hb
      simp only [M5.out]
      have ac0 := a_9.out.c0
      have ac1 := a_9.out.c1
      have ac2 := a_9.out.c2
      have bc0 := b_9.out.c0
      have bc1 := b_9.out.c1
      have bc2 := b_9.out.c2
      go_wp2_with fail
      clear ac0 ac1 ac2 bc0 bc1 bc2
      refine (HL.out _).mono ?_
      rintro e v10 ⟨rfl, hb⟩
      have D10 := Lib.hid (D9.out.trans (hb.mono D9.out.size))
      have a_10 := Lib.hid (a_9.out.bel hb)
      have b_10 := Lib.hid (b_9.out.bel hb)
      have z_10 := Lib.hid (z_9.out.bel hb)
      clear D9 a_9 b_9 z_9
      clear hb
      have ac0 := a_10.out.c0
      have ac1 := a_10.out.c1
      have ac2 := a_10.out.c2
      have bc0 := b_10.out.c0
      have bc1 := b_10.out.c1
      have bc2 := b_10.out.c2
      have zz0 := z_10.out.c0; have kk0 := z_10.out.fz 0
      have zz1 := z_10.out.c1; have kk1 := z_10.out.fz 1
      have zz2 := z_10.out.c2; have kk2 := z_10.out.fz 2
      go_wp2_with fail
      (try simp only [Exit.inBlock, Exit.then])
      first | (refine bodyPost_ret (results_rat rfl _ _ (B1 + 1 + 1) ⟨_, _, _⟩ _ rfl rfl (z_10.out.set ⟨_, _, _⟩)) rfl ?_; rw [HTT.out]; exact ⟨rfl, ((D10.out.setCell (p := ⟨B1 + 1 + 1, 0, none⟩) (by have := HB1.out; show w.heap.size ≤ B1 + 1 + 1; omega) _).setCell (p := ⟨B1 + 1 + 1, 1, none⟩) (by have := HB1.out; show w.heap.size ≤ B1 + 1 + 1; omega) _).setCell (p := ⟨B1 + 1 + 1, 2, none⟩) (by have := HB1.out; show w.heap.size ≤ B1 + 1 + 1; omega) _⟩) | (refine bodyPost_ret (results_rat rfl _ _ (B1 + 1 + 1) noRaw _ rfl rfl z_10.out) rfl ?_; rw [HTT.out]; exact ⟨rfl, D10.out⟩)
end Go.Proofs.YtbcoblpnihdhgaaGreatDoor
