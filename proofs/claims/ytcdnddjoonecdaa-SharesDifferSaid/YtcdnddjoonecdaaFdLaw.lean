/-
  The laws of layer 6 as equations of elements: pure facts.
-/
import Derived.Test.YtcdnddjoonecdaaFdRefP
set_option linter.unusedVariables false
set_option maxRecDepth 100000
namespace Go.Proofs.Ytcdnddjoonecdaa
open Go.RowKit
open Fdp
abbrev El (a : Int) : Prop := 0 ≤ a ∧ a < 2147483647
theorem E.el {a b : Int} (h : E 2147483647 a b) (ha : El a) (hb : El b) : a = b := h.eq ha.1 ha.2 hb.1 hb.2
theorem sum_comm (a b : Int) : sumF a b = sumF b a := by unfold sumF; rw [Int.add_comm]
theorem sum_assoc (a b c : Int) : sumF (sumF a b) c = sumF a (sumF b c) := by unfold sumF; omega
theorem sum_zero {a : Int} (h : El a) : sumF a 0 = a := by unfold sumF; omega
theorem mul_comm' (a b : Int) : mulF a b = mulF b a := by unfold mulF; rw [Int.mul_comm]
theorem mul_assoc' (a b c : Int) : mulF (mulF a b) c = mulF a (mulF b c) :=
  E.el (((mulF_E _ _).trans ((mulF_E a b).mul (E.refl c))).trans ((E.of (Int.mul_assoc a b c)).trans ((mulF_E _ _).trans ((E.refl a).mul (mulF_E b c))).symm)) (mulF_range _ _) (mulF_range _ _)
theorem mul_one' {a : Int} (h : El a) : mulF a 1 = a := by unfold mulF; rw [Int.mul_one, Int.emod_eq_of_lt h.1 h.2]
theorem mul_sum (a b c : Int) : mulF a (sumF b c) = sumF (mulF a b) (mulF a c) :=
  E.el (((mulF_E _ _).trans ((E.refl a).mul (sumF_E b c))).trans ((E.of (Int.mul_add a b c)).trans ((sumF_E _ _).trans ((mulF_E a b).add (mulF_E a c))).symm)) (mulF_range _ _) (sumF_range _ _)
theorem not_dvd {a : Int} (h : El a) (h0 : a ≠ 0) : ¬ (2147483647 : Int) ∣ a := fun hd => h0 (E.el (E.zero.2 hd) h (by unfold El; omega))
theorem mul_inv {a : Int} (h : El a) (h0 : a ≠ 0) : mulF a (ivI a) = 1 := E.el ((mulF_E _ _).trans (ivI_is a (not_dvd h h0))) (mulF_range _ _) (by unfold El; omega)
theorem unit_ndvd {a b : Int} (h : E 2147483647 (a * b) 1) : ¬ (2147483647 : Int) ∣ a := fun hd => by
  obtain ⟨k, hk⟩ := hd
  obtain ⟨m, hm⟩ := h
  apply one_ndvd
  refine ⟨k * b - m, ?_⟩
  rw [Int.mul_sub, ← hm, hk, Int.mul_assoc]; omega
theorem inv_ndvd {a : Int} (h : El a) (h0 : a ≠ 0) : ¬ (2147483647 : Int) ∣ ivI a := unit_ndvd (b := a) ((E.of (Int.mul_comm _ _)).trans (ivI_is a (not_dvd h h0)))
theorem inv_inv {a : Int} (h : El a) (h0 : a ≠ 0) : ivI (ivI a) = a :=
  E.el (inv_unique prI (inv_ndvd h h0) (ivI_is _ (inv_ndvd h h0)) ((E.of (Int.mul_comm _ _)).trans (ivI_is a (not_dvd h h0)))) (ivI_range _) h
theorem mul_ndvd {a b : Int} (ha : El a) (hb : El b) (ha0 : a ≠ 0) (hb0 : b ≠ 0) : ¬ (2147483647 : Int) ∣ mulF a b := fun hd => by
  have h1 : E 2147483647 (a * b) 0 := (mulF_E a b).symm.trans (E.zero.2 hd)
  rcases prI _ _ (E.zero.1 h1) with h | h
  · exact not_dvd ha ha0 h
  · exact not_dvd hb hb0 h
theorem mul_pos' {a b : Int} (ha : El a) (hb : El b) (ha0 : a ≠ 0) (hb0 : b ≠ 0) : 0 < mulF a b := by
  have h1 := mulF_range a b
  rcases Int.lt_or_eq_of_le h1.1 with h | h
  · exact h
  · exact absurd (h ▸ Int.dvd_zero _) (mul_ndvd ha hb ha0 hb0)
theorem inv_mul {a b : Int} (ha : El a) (hb : El b) (ha0 : a ≠ 0) (hb0 : b ≠ 0) : ivI (mulF a b) = mulF (ivI a) (ivI b) := by
  have hn := mul_ndvd ha hb ha0 hb0
  refine E.el (inv_unique prI hn (ivI_is _ hn) ?_) (ivI_range _) (mulF_range _ _)
  refine ((mulF_E a b).mul (mulF_E _ _)).trans ((E.of ?_).trans ((ivI_is a (not_dvd ha ha0)).mul (ivI_is b (not_dvd hb hb0))))
  grind
theorem invE_ok {a : Int} (h : El a) (h0 : a ≠ 0) : invE a = (ivI a, 0) := by unfold invE; rw [okE_iff.2 h, if_pos rfl, if_neg h0]
-- polynomials
def sums (a b : List Int) : List Int := List.zipWith sumF a b
def mores (f : Int) (a : List Int) : List Int := a.map (mulF f)
theorem ev_sums (x : Int) : ∀ a b : List Int, a.length = b.length → E 2147483647 (ev x (sums a b)) (ev x a + ev x b)
  | [], [], _ => E.refl _
  | c :: a, d :: b, h => by
    have ih := ev_sums x a b (by simpa using h)
    show E _ (sumF c d + x * ev x (sums a b)) (c + x * ev x a + (d + x * ev x b))
    exact ((sumF_E c d).add ((E.refl x).mul ih)).trans (E.of (by grind))
theorem ev_mores (x f : Int) : ∀ a : List Int, E 2147483647 (ev x (mores f a)) (f * ev x a)
  | [] => E.of (by simp [mores, ev])
  | c :: a => by
    have ih := ev_mores x f a
    show E _ (mulF f c + x * ev x (mores f a)) (f * (c + x * ev x a))
    exact ((mulF_E f c).add ((E.refl x).mul ih)).trans (E.of (by grind))
theorem evF_sums (x : Int) (a b : List Int) (h : a.length = b.length) : evF x (sums a b) = sumF (evF x a) (evF x b) :=
  E.el ((evF_E x _).trans ((ev_sums x a b h).trans ((sumF_E _ _).trans ((evF_E x a).add (evF_E x b))).symm)) (evF_range _ _) (sumF_range _ _)
theorem evF_mores (x f : Int) (a : List Int) : evF x (mores f a) = mulF f (evF x a) :=
  E.el ((evF_E x _).trans ((ev_mores x f a).trans ((mulF_E _ _).trans ((E.refl f).mul (evF_E x a))).symm)) (evF_range _ _) (mulF_range _ _)
theorem evF_snoc0 (x : Int) (a : List Int) : evF x (a ++ [0]) = evF x a := by unfold evF; rw [ev_snoc, Int.zero_mul, Int.add_zero]
theorem evF_zero {a : List Int} (h : ∀ c ∈ a, El c) : evF 0 a = a.headD 0 := by
  cases a with
  | nil => rfl
  | cons c t =>
    have := h c (by simp)
    unfold evF
    rw [ev_cons, Int.zero_mul, Int.add_zero, Int.emod_eq_of_lt this.1 this.2]; rfl
theorem sums_el : ∀ {a b : List Int}, ∀ c ∈ sums a b, El c
  | [], _, c, hc => by simp [sums] at hc
  | _ :: _, [], c, hc => by simp [sums] at hc
  | u :: a, v :: b, c, hc => by
    have e : sums (u :: a) (v :: b) = sumF u v :: sums a b := rfl
    rw [e] at hc
    rcases List.mem_cons.1 hc with rfl | hc
    · exact sumF_range _ _
    · exact sums_el c hc
theorem mores_el {f : Int} {a : List Int} : ∀ c ∈ mores f a, El c := by
  intro c hc
  obtain ⟨u, _, rfl⟩ := List.mem_map.1 hc
  exact mulF_range _ _
-- interpolation
theorem inter_of {l : List (Int × Int)} (hp : pairsE l = true) (hd : diffX (Xs l) = true) (c : List Int) (hc : c.length ≤ l.length) (h : ∀ q ∈ l, E 2147483647 (ev q.1 c) q.2) (x : Int) : interF l x = evF x c :=
  E.el (((inter_fits hp hd).poly_same prI (diff_of hd (Xs_range hp)) (g := fun x => ev x c) ⟨c, hc, fun x => E.refl _⟩ h x).trans (evF_E x c).symm) (interF_range _ _) (evF_range _ _)
theorem inter_through {l : List (Int × Int)} (hp : pairsE l = true) (hd : diffX (Xs l) = true) {q : Int × Int} (hq : q ∈ l) : interF l q.1 = q.2 :=
  E.el ((inter_fits hp hd).through q hq) (interF_range _ _) (pairsE_iff.1 hp q hq).2
theorem pairs_rev (l : List (Int × Int)) : pairsE l.reverse = pairsE l := by unfold pairsE; rw [List.all_reverse]
theorem diff_rev (l : List (Int × Int)) : diffX (Xs l.reverse) = diffX (Xs l) := by
  unfold diffX Xs
  rw [decide_eq_decide, List.map_reverse, List.pairwise_reverse]
  constructor <;> exact fun h => h.imp fun h => h.symm
theorem interF_rev {l : List (Int × Int)} (hp : pairsE l = true) (hd : diffX (Xs l) = true) (x : Int) : interF l.reverse x = interF l x := by
  have h1 := inter_fits (l := l.reverse) (by rw [pairs_rev]; exact hp) (by rw [diff_rev]; exact hd)
  have h2 := (inter_fits hp hd).perm (pts' := l.reverse) (by simp) (by simp)
  exact E.el (h1.same prI h2 (diff_of (by rw [diff_rev]; exact hd) (Xs_range (by rw [pairs_rev]; exact hp))) x) (interF_range _ _) (interF_range _ _)
theorem inter_rev (l : List (Int × Int)) (x : Int) : interE l.reverse x = interE l x := by
  unfold interE
  rw [List.length_reverse, pairs_rev, diff_rev]
  by_cases h : (decide (1 ≤ l.length ∧ l.length ≤ 16) && pairsE l && okE x) = true
  · rw [if_pos h, if_pos h]
    by_cases hd : diffX (Xs l) = true
    · rw [if_pos hd, if_pos hd]
      have hp : pairsE l = true := by simp at h; exact h.1.2
      rw [interF_rev hp hd]
    · rw [if_neg hd, if_neg hd]
  · rw [if_neg h, if_neg h]
theorem inter_cases (l : List (Int × Int)) (x : Int) : (∃ e : Int, e ≠ 0 ∧ interE l x = (0, e)) ∨ (interE l x = (interF l x, 0) ∧ (1 ≤ l.length ∧ l.length ≤ 16) ∧ pairsE l = true ∧ okE x = true ∧ diffX (Xs l) = true) := by
  by_cases h1 : 1 ≤ l.length ∧ l.length ≤ 16
  · cases h2 : pairsE l with
    | false => exact .inl ⟨1, by decide, interE_p h2⟩
    | true =>
      cases h3 : okE x with
      | false => exact .inl ⟨1, by decide, interE_x h3⟩
      | true =>
        cases h4 : diffX (Xs l) with
        | false => exact .inl ⟨8, by decide, interE_twice h1 h2 h3 h4⟩
        | true => exact .inr ⟨interE_ok h1 h2 h3 h4, h1, rfl, rfl, rfl⟩
  · exact .inl ⟨1, by decide, interE_len h1⟩
theorem pairs_snoc (l : List (Int × Int)) (q : Int × Int) : pairsE (l ++ [q]) = (pairsE l && (okE q.1 && okE q.2)) := by simp [pairsE]
theorem diff_snoc {l : List (Int × Int)} {q : Int × Int} (h : diffX (Xs (l ++ [q])) = true) : diffX (Xs l) = true ∧ ∀ y ∈ Xs l, q.1 ≠ y := by
  unfold diffX Xs at h ⊢
  rw [decide_eq_true_iff, List.map_append, List.pairwise_append] at h
  refine ⟨decide_eq_true h.1, fun y hy e => h.2.2 y hy q.1 (by simp) e.symm⟩
/-- is it the X of a point? -/
def ofX (l : List (Int × Int)) (x : Int) : Bool := l.any fun q => q.1 == x
theorem ofX_iff {l : List (Int × Int)} {x : Int} : ofX l x = true ↔ x ∈ Xs l := by simp [ofX, Xs, List.any_eq_true]
theorem inter_further {l : List (Int × Int)} {q : Int × Int} {x : Int} (hp : pairsE (l ++ [q]) = true) (hd : diffX (Xs (l ++ [q])) = true) (hx : El x) :
    (interF l x = interF (l ++ [q]) x) ↔ (ofX l x = true ∨ interF l q.1 = q.2) := by
  have hp' := hp
  rw [pairs_snoc, Bool.and_eq_true, Bool.and_eq_true] at hp'
  obtain ⟨hpl, hq1, hq2⟩ := hp'
  obtain ⟨hdl, hqn⟩ := diff_snoc hd
  have hr := Xs_range hpl
  have q1 := okE_iff.1 hq1
  have q2 := okE_iff.1 hq2
  have h := (inter_fits hpl hdl).further prI (inter_fits hp hd) (diff_of hdl hr) (fun y hy he => hqn y hy (E.el he q1 (hr y hy))) x
  constructor
  · intro e
    rcases h.1 (E.of e) with ⟨y, hy, he⟩ | he
    · left
      rw [ofX_iff, E.el he hx (hr y hy)]; exact hy
    · right; exact E.el he (interF_range _ _) q2
  · intro e
    refine E.el (h.2 ?_) (interF_range _ _) (interF_range _ _)
    rcases e with e | e
    · exact .inl ⟨x, ofX_iff.1 e, E.refl x⟩
    · exact .inr (E.of e)
end Go.Proofs.Ytcdnddjoonecdaa
