/-
  What the statements of layer 5 ask of the answers: pure facts of intervals.
-/
import Derived.Test.YtbcoblpnihdhgaaDoorIvPure
namespace Go.Proofs.YtbcoblpnihdhgaaDoor.Rt
abbrev Sz (r : Raw) : Prop := r.num.size ≤ 60 ∧ r.den.size ≤ 60
abbrev SzI (a : Iv) : Prop := Sz a.low ∧ Sz a.high
theorem in60 {r : Raw} (h : okR r = true) (hs : Sz r) : ∃ x : Q, In 60 x ∧ r = x.raw := in_of (by decide) h hs.1 hs.2
/-- a sum of valid numbers of at most 60 digits -/
theorem sum60 {r s : Raw} (hr : okR r = true) (hs : okR s = true) (zr : Sz r) (zs : Sz s) : ∃ x y : Q, x.ok ∧ y.ok ∧ r = x.raw ∧ s = y.raw ∧ addE r s = ((addQ x y).raw, 0) ∧ okR (addQ x y).raw = true := by
  obtain ⟨x, hx, rfl⟩ := in60 hr zr
  obtain ⟨y, hy, rfl⟩ := in60 hs zs
  exact ⟨x, y, hx.1, hy.1, rfl, rfl, vAdd hx hy (by decide) (by decide) (by decide), (hx.add hy).okR (by decide) (by decide)⟩
theorem prod60 {r s : Raw} (hr : okR r = true) (hs : okR s = true) (zr : Sz r) (zs : Sz s) : ∃ x y : Q, x.ok ∧ y.ok ∧ r = x.raw ∧ s = y.raw ∧ mulE r s = ((mulQ x y).raw, 0) ∧ okR (mulQ x y).raw = true := by
  obtain ⟨x, hx, rfl⟩ := in60 hr zr
  obtain ⟨y, hy, rfl⟩ := in60 hs zs
  exact ⟨x, y, hx.1, hy.1, rfl, rfl, vMul hx hy (by decide) (by decide) (by decide), (hx.mul hy).okR (by decide) (by decide)⟩
theorem sum_ok {r s : Raw} (hr : okR r = true) (hs : okR s = true) (zr : Sz r) (zs : Sz s) : addE r s = ((addE r s).1, 0) ∧ okR (addE r s).1 = true := by
  obtain ⟨x, y, _, _, _, _, e, o⟩ := sum60 hr hs zr zs
  rw [e]; exact ⟨rfl, o⟩
theorem prod_ok {r s : Raw} (hr : okR r = true) (hs : okR s = true) (zr : Sz r) (zs : Sz s) : mulE r s = ((mulE r s).1, 0) ∧ okR (mulE r s).1 = true := by
  obtain ⟨x, y, _, _, _, _, e, o⟩ := prod60 hr hs zr zs
  rw [e]; exact ⟨rfl, o⟩
theorem sum_mono {a b c d : Raw} (ha : okR a = true) (hb : okR b = true) (hc : okR c = true) (hd : okR d = true) (za : Sz a) (zb : Sz b) (zc : Sz c) (zd : Sz d) (h : LeR a b) (h' : LeR c d) : LeR (addE a c).1 (addE b d).1 := by
  obtain ⟨x, hx, rfl⟩ := in60 ha za
  obtain ⟨y, hy, rfl⟩ := in60 hb zb
  obtain ⟨z, hz, rfl⟩ := in60 hc zc
  obtain ⟨u, hu, rfl⟩ := in60 hd zd
  rw [vAdd hx hz (by decide) (by decide) (by decide), vAdd hy hu (by decide) (by decide) (by decide)]
  rw [leR_raw ha hb] at h
  rw [leR_raw hc hd] at h'
  exact (leR_raw ((hx.add hz).okR (by decide) (by decide)) ((hy.add hu).okR (by decide) (by decide))).2 (add_mono hx.1.1 hy.1.1 hz.1.1 hu.1.1 h h')
theorem sum_comm {a b : Raw} (ha : okR a = true) (hb : okR b = true) (za : Sz a) (zb : Sz b) : addE a b = addE b a := by
  obtain ⟨x, hx, rfl⟩ := in60 ha za
  obtain ⟨y, hy, rfl⟩ := in60 hb zb
  rw [vAdd hx hy (by decide) (by decide) (by decide), vAdd hy hx (by decide) (by decide) (by decide), addQ_comm hx.1.1 hy.1.1]
theorem prod_comm {a b : Raw} (ha : okR a = true) (hb : okR b = true) (za : Sz a) (zb : Sz b) : mulE a b = mulE b a := by
  obtain ⟨x, hx, rfl⟩ := in60 ha za
  obtain ⟨y, hy, rfl⟩ := in60 hb zb
  rw [vMul hx hy (by decide) (by decide) (by decide), vMul hy hx (by decide) (by decide) (by decide), mulQ_comm hx.1.1 hy.1.1]
def BetwR (l m h : Raw) : Prop := (LeR l m ∧ LeR m h) ∨ (LeR h m ∧ LeR m l)
theorem prod_betw {l m h c : Raw} (ol : okR l = true) (om : okR m = true) (oh : okR h = true) (oc : okR c = true) (zl : Sz l) (zm : Sz m) (zh : Sz h) (zc : Sz c) (h1 : LeR l m) (h2 : LeR m h) :
    BetwR (mulE l c).1 (mulE m c).1 (mulE h c).1 := by
  obtain ⟨x, hx, rfl⟩ := in60 ol zl
  obtain ⟨y, hy, rfl⟩ := in60 om zm
  obtain ⟨z, hz, rfl⟩ := in60 oh zh
  obtain ⟨u, hu, rfl⟩ := in60 oc zc
  rw [vMul hx hu (by decide) (by decide) (by decide), vMul hy hu (by decide) (by decide) (by decide), vMul hz hu (by decide) (by decide) (by decide)]
  rw [leR_raw ol om] at h1
  rw [leR_raw om oh] at h2
  have o1 := (hx.mul hu).okR (by decide) (by decide)
  have o2 := (hy.mul hu).okR (by decide) (by decide)
  have o3 := (hz.mul hu).okR (by decide) (by decide)
  have hb := betw_mul hx.1.1 hy.1.1 hz.1.1 hu.1.1 h1 h2
  unfold BetwR
  rw [leR_raw o1 o2, leR_raw o2 o3, leR_raw o3 o2, leR_raw o2 o1]
  exact hb
theorem betw_ge {l m h z : Raw} (ol : okR l = true) (om : okR m = true) (oh : okR h = true) (oz : okR z = true) (hb : BetwR l m h) (h1 : LeR z l) (h2 : LeR z h) : LeR z m := by
  rcases hb with h | h
  · exact leR_trans oz ol om h1 h.1
  · exact leR_trans oz oh om h2 h.1
theorem betw_le {l m h z : Raw} (ol : okR l = true) (om : okR m = true) (oh : okR h = true) (oz : okR z = true) (hb : BetwR l m h) (h1 : LeR l z) (h2 : LeR h z) : LeR m z := by
  rcases hb with h | h
  · exact leR_trans om oh oz h.2 h2
  · exact leR_trans om ol oz h.2 h1
/-- the least and the greatest of four numbers -/
structure Ends4 (p q r s m n : Raw) : Prop where
  okm : okR m = true
  okn : okR n = true
  lo : LeR m p ∧ LeR m q ∧ LeR m r ∧ LeR m s
  hi : LeR p n ∧ LeR q n ∧ LeR r n ∧ LeR s n
  onem : m = p ∨ m = q ∨ m = r ∨ m = s
  onen : n = p ∨ n = q ∨ n = r ∨ n = s
theorem ends4 {p q r s : Raw} (hp : okR p = true) (hq : okR q = true) (hr : okR r = true) (hs : okR s = true) : Ends4 p q r s (minR (minR (minR p q) r) s) (maxR (maxR (maxR p q) r) s) := by
  have a1 := min_of hp hq
  have a2 := min_of a1.ok hr
  have a3 := min_of a2.ok hs
  have b1 := max_of hp hq
  have b2 := max_of b1.ok hr
  have b3 := max_of b2.ok hs
  have c2 := leR_trans a3.ok a2.ok a1.ok a3.left a2.left
  have d2 := leR_trans b1.ok b2.ok b3.ok b2.left b3.left
  refine ⟨a3.ok, b3.ok, ⟨leR_trans a3.ok a1.ok hp c2 a1.left, leR_trans a3.ok a1.ok hq c2 a1.right, leR_trans a3.ok a2.ok hr a3.left a2.right, a3.right⟩,
    ⟨leR_trans hp b1.ok b3.ok b1.left d2, leR_trans hq b1.ok b3.ok b1.right d2, leR_trans hr b2.ok b3.ok b2.right b3.left, b3.right⟩, ?_, ?_⟩
  · rcases a3.one with e | e
    · rw [e]; rcases a2.one with e | e
      · rw [e]; rcases a1.one with e | e
        · exact .inl e
        · exact .inr (.inl e)
      · exact .inr (.inr (.inl e))
    · exact .inr (.inr (.inr e))
  · rcases b3.one with e | e
    · rw [e]; rcases b2.one with e | e
      · rw [e]; rcases b1.one with e | e
        · exact .inl e
        · exact .inr (.inl e)
      · exact .inr (.inr (.inl e))
    · exact .inr (.inr (.inr e))
theorem ends4_same {p q r s m n m' n' : Raw} (h : Ends4 p q r s m n) (h' : Ends4 p r q s m' n') : m = m' ∧ n = n' := by
  constructor
  · refine leR_anti h.okm h'.okm ?_ ?_
    · rcases h'.onem with e | e | e | e <;> rw [e]
      · exact h.lo.1
      · exact h.lo.2.2.1
      · exact h.lo.2.1
      · exact h.lo.2.2.2
    · rcases h.onem with e | e | e | e <;> rw [e]
      · exact h'.lo.1
      · exact h'.lo.2.2.1
      · exact h'.lo.2.1
      · exact h'.lo.2.2.2
  · refine leR_anti h.okn h'.okn ?_ ?_
    · rcases h.onen with e | e | e | e <;> rw [e]
      · exact h'.hi.1
      · exact h'.hi.2.2.1
      · exact h'.hi.2.1
      · exact h'.hi.2.2.2
    · rcases h'.onen with e | e | e | e <;> rw [e]
      · exact h.hi.1
      · exact h.hi.2.2.1
      · exact h.hi.2.1
      · exact h.hi.2.2.2
theorem mul_val {a b : Iv} (ha : okI a = true) (hb : okI b = true) (za : SzI a) (zb : SzI b) :
    Ends4 (mulE a.low b.low).1 (mulE a.low b.high).1 (mulE a.high b.low).1 (mulE a.high b.high).1 (lowM a b) (highM a b) ∧ mulI a b = (⟨lowM a b, highM a b⟩, 0) ∧ okI ⟨lowM a b, highM a b⟩ = true := by
  have ha' := okI_iff.1 ha
  have hb' := okI_iff.1 hb
  have p := prod_ok ha'.1 hb'.1 za.1 zb.1
  have q := prod_ok ha'.1 hb'.2.1 za.1 zb.2
  have r := prod_ok ha'.2.1 hb'.1 za.2 zb.1
  have s := prod_ok ha'.2.1 hb'.2.1 za.2 zb.2
  have h := ends4 p.2 q.2 r.2 s.2
  refine ⟨h, ?_, okI_iff.2 ⟨h.okm, h.okn, leR_trans h.okm p.2 h.okn h.lo.1 h.hi.1⟩⟩
  unfold mulI
  rw [ha, hb, if_pos (by rfl), if_pos ⟨by rw [p.1], by rw [q.1], by rw [r.1], by rw [s.1]⟩]
theorem add_val {a b : Iv} (ha : okI a = true) (hb : okI b = true) (za : SzI a) (zb : SzI b) :
    addI a b = (⟨(addE a.low b.low).1, (addE a.high b.high).1⟩, 0) ∧ okI ⟨(addE a.low b.low).1, (addE a.high b.high).1⟩ = true := by
  have ha' := okI_iff.1 ha
  have hb' := okI_iff.1 hb
  have p := sum_ok ha'.1 hb'.1 za.1 zb.1
  have q := sum_ok ha'.2.1 hb'.2.1 za.2 zb.2
  refine ⟨?_, okI_iff.2 ⟨p.2, q.2, sum_mono ha'.1 ha'.2.1 hb'.1 hb'.2.1 za.1 za.2 zb.1 zb.2 ha'.2.2 hb'.2.2⟩⟩
  unfold addI
  rw [ha, hb, if_pos (by rfl), if_pos ⟨by rw [p.1], by rw [q.1]⟩]
theorem bad_val {a b : Iv} (h : (okI a && okI b) = false) : addI a b = (noI, 1) ∧ mulI a b = (noI, 1) := by
  unfold addI mulI; rw [h]; exact ⟨rfl, rfl⟩
/-- P5.2 -/
theorem has_sum {a b : Iv} {r s : Raw} (hr : hasI a r = true) (hs : hasI b s = true) (za : SzI a) (zb : SzI b) (zr : Sz r) (zs : Sz s) :
    hasI ⟨(addE a.low b.low).1, (addE a.high b.high).1⟩ (addE r s).1 = true := by
  obtain ⟨ha, or, h1, h2⟩ := hasI_iff.1 hr
  obtain ⟨hb, os, h3, h4⟩ := hasI_iff.1 hs
  have ha' := okI_iff.1 ha
  have hb' := okI_iff.1 hb
  exact hasI_iff.2 ⟨(add_val ha hb za zb).2, (sum_ok or os zr zs).2, sum_mono ha'.1 or hb'.1 os za.1 zr zb.1 zs h1 h3, sum_mono or ha'.2.1 os hb'.2.1 zr za.2 zs zb.2 h2 h4⟩
theorem has_prod {a b : Iv} {r s : Raw} (hr : hasI a r = true) (hs : hasI b s = true) (za : SzI a) (zb : SzI b) (zr : Sz r) (zs : Sz s) :
    hasI ⟨lowM a b, highM a b⟩ (mulE r s).1 = true := by
  obtain ⟨ha, or, h1, h2⟩ := hasI_iff.1 hr
  obtain ⟨hb, os, h3, h4⟩ := hasI_iff.1 hs
  have ha' := okI_iff.1 ha
  have hb' := okI_iff.1 hb
  obtain ⟨he, _, ho⟩ := mul_val ha hb za zb
  have p := prod_ok ha'.1 hb'.1 za.1 zb.1
  have q := prod_ok ha'.1 hb'.2.1 za.1 zb.2
  have r' := prod_ok ha'.2.1 hb'.1 za.2 zb.1
  have s' := prod_ok ha'.2.1 hb'.2.1 za.2 zb.2
  have l' := prod_ok ha'.1 os za.1 zs
  have h' := prod_ok ha'.2.1 os za.2 zs
  have o := prod_ok or os zr zs
  have b0 := prod_betw ha'.1 or ha'.2.1 os za.1 zr za.2 zs h1 h2
  have b1 := prod_betw hb'.1 os hb'.2.1 ha'.1 zb.1 zs zb.2 za.1 h3 h4
  have b2 := prod_betw hb'.1 os hb'.2.1 ha'.2.1 zb.1 zs zb.2 za.2 h3 h4
  rw [prod_comm hb'.1 ha'.1 zb.1 za.1, prod_comm os ha'.1 zs za.1, prod_comm hb'.2.1 ha'.1 zb.2 za.1] at b1
  rw [prod_comm hb'.1 ha'.2.1 zb.1 za.2, prod_comm os ha'.2.1 zs za.2, prod_comm hb'.2.1 ha'.2.1 zb.2 za.2] at b2
  refine hasI_iff.2 ⟨ho, o.2, ?_, ?_⟩
  · exact betw_ge l'.2 o.2 h'.2 he.okm b0 (betw_ge p.2 l'.2 q.2 he.okm b1 he.lo.1 he.lo.2.1) (betw_ge r'.2 h'.2 s'.2 he.okm b2 he.lo.2.2.1 he.lo.2.2.2)
  · exact betw_le l'.2 o.2 h'.2 he.okn b0 (betw_le p.2 l'.2 q.2 he.okn b1 he.hi.1 he.hi.2.1) (betw_le r'.2 h'.2 s'.2 he.okn b2 he.hi.2.2.1 he.hi.2.2.2)
theorem contains_pure {a b : Iv} {r s : Raw} (hr : hasI a r = true) (hs : hasI b s = true) (za : SzI a) (zb : SzI b) (zr : Sz r) (zs : Sz s) :
    ∃ (c d : Iv) (x y : Raw), addI a b = (c, 0) ∧ mulI a b = (d, 0) ∧ addE r s = (x, 0) ∧ mulE r s = (y, 0) ∧ hasI c x = true ∧ hasI d y = true := by
  obtain ⟨ha, or, _, _⟩ := hasI_iff.1 hr
  obtain ⟨hb, os, _, _⟩ := hasI_iff.1 hs
  exact ⟨_, _, _, _, (add_val ha hb za zb).1, (mul_val ha hb za zb).2.1, (sum_ok or os zr zs).1, (prod_ok or os zr zs).1, has_sum hr hs za zb zr zs, has_prod hr hs za zb zr zs⟩
/-- P5.3 -/
theorem ends_pure {a b : Iv} (ha : okI a = true) (hb : okI b = true) (za : SzI a) (zb : SzI b) :
    ∃ (x y p q r s : Raw) (d : Iv), addE a.low b.low = (x, 0) ∧ addE a.high b.high = (y, 0) ∧ addI a b = (⟨x, y⟩, 0) ∧ okI ⟨x, y⟩ = true ∧
      mulE a.low b.low = (p, 0) ∧ mulE a.low b.high = (q, 0) ∧ mulE a.high b.low = (r, 0) ∧ mulE a.high b.high = (s, 0) ∧ mulI a b = (d, 0) ∧ okI d = true ∧
      (d.low = p ∨ d.low = q ∨ d.low = r ∨ d.low = s) ∧ (d.high = p ∨ d.high = q ∨ d.high = r ∨ d.high = s) := by
  have ha' := okI_iff.1 ha
  have hb' := okI_iff.1 hb
  obtain ⟨he, hm, ho⟩ := mul_val ha hb za zb
  obtain ⟨hs, hso⟩ := add_val ha hb za zb
  exact ⟨_, _, _, _, _, _, _, (sum_ok ha'.1 hb'.1 za.1 zb.1).1, (sum_ok ha'.2.1 hb'.2.1 za.2 zb.2).1, hs, hso, (prod_ok ha'.1 hb'.1 za.1 zb.1).1, (prod_ok ha'.1 hb'.2.1 za.1 zb.2).1,
    (prod_ok ha'.2.1 hb'.1 za.2 zb.1).1, (prod_ok ha'.2.1 hb'.2.1 za.2 zb.2).1, hm, ho, he.onem, he.onen⟩
/-- P5.5 -/
theorem meets_pure (a b : Iv) : (∃ c, meetI a b = (c, true) ∧ okI a = true ∧ okI b = true ∧ okI c = true ∧ ∀ r, (hasI a r && hasI b r) = hasI c r) ∨ (meetI a b = (noI, false) ∧ ∀ r, (hasI a r && hasI b r) = false) := by
  by_cases h : (okI a && okI b) = true
  case neg =>
    right
    refine ⟨by unfold meetI; rw [if_neg h], fun r => ?_⟩
    rw [Bool.eq_false_iff]
    intro e
    rw [Bool.and_eq_true, hasI_iff, hasI_iff] at e
    exact h (by rw [e.1.1, e.2.1]; rfl)
  have h' := h
  rw [Bool.and_eq_true] at h'
  have ha' := okI_iff.1 h'.1
  have hb' := okI_iff.1 h'.2
  have hm := max_of ha'.1 hb'.1
  have hn := min_of ha'.2.1 hb'.2.1
  have key : ∀ r, okR r = true → ((hasI a r && hasI b r) = true ↔ LeR (maxR a.low b.low) r ∧ LeR r (minR a.high b.high)) := by
    intro r hr
    rw [Bool.and_eq_true, hasI_iff, hasI_iff]
    constructor
    · rintro ⟨⟨_, _, l1, u1⟩, ⟨_, _, l2, u2⟩⟩
      exact ⟨max_le l1 l2, min_ge u1 u2⟩
    · rintro ⟨l, u⟩
      exact ⟨⟨h'.1, hr, leR_trans ha'.1 hm.ok hr hm.left l, leR_trans hr hn.ok ha'.2.1 u hn.left⟩, ⟨h'.2, hr, leR_trans hb'.1 hm.ok hr hm.right l, leR_trans hr hn.ok hb'.2.1 u hn.right⟩⟩
  by_cases hc : okI (cutI a b) = true
  · left
    refine ⟨cutI a b, by unfold meetI; rw [if_pos h, if_pos hc], h'.1, h'.2, hc, fun r => ?_⟩
    rw [Bool.eq_iff_iff]
    by_cases hr : okR r = true
    · rw [key r hr, hasI_iff]
      exact ⟨fun e => ⟨hc, hr, e.1, e.2⟩, fun e => ⟨e.2.2.1, e.2.2.2⟩⟩
    · constructor
      · intro e; rw [Bool.and_eq_true, hasI_iff] at e; exact absurd e.1.2.1 hr
      · intro e; rw [hasI_iff] at e; exact absurd e.2.1 hr
  · right
    refine ⟨by unfold meetI; rw [if_pos h, if_neg hc], fun r => ?_⟩
    rw [Bool.eq_false_iff]
    intro e
    have hr : okR r = true := by have := e; rw [Bool.and_eq_true, hasI_iff] at this; exact this.1.2.1
    have := (key r hr).1 e
    exact hc (okI_iff.2 ⟨hm.ok, hn.ok, leR_trans hm.ok hr hn.ok this.1 this.2⟩)
/-- P5.6 -/
theorem add_swap {a b : Iv} (za : SzI a) (zb : SzI b) : addI a b = addI b a := by
  by_cases ha : okI a = true
  · by_cases hb : okI b = true
    · have ha' := okI_iff.1 ha
      have hb' := okI_iff.1 hb
      rw [(add_val ha hb za zb).1, (add_val hb ha zb za).1, sum_comm ha'.1 hb'.1 za.1 zb.1, sum_comm ha'.2.1 hb'.2.1 za.2 zb.2]
    · have hb := Bool.eq_false_iff.2 hb
      rw [(bad_val (a := a) (b := b) (by rw [hb]; simp)).1, (bad_val (a := b) (b := a) (by rw [hb]; rfl)).1]
  · have ha := Bool.eq_false_iff.2 ha
    rw [(bad_val (a := a) (b := b) (by rw [ha]; rfl)).1, (bad_val (a := b) (b := a) (by rw [ha]; simp)).1]
theorem mul_swap {a b : Iv} (za : SzI a) (zb : SzI b) : mulI a b = mulI b a := by
  by_cases ha : okI a = true
  · by_cases hb : okI b = true
    · have ha' := okI_iff.1 ha
      have hb' := okI_iff.1 hb
      obtain ⟨e1, m1, _⟩ := mul_val ha hb za zb
      obtain ⟨e2, m2, _⟩ := mul_val hb ha zb za
      rw [prod_comm hb'.1 ha'.1 zb.1 za.1, prod_comm hb'.1 ha'.2.1 zb.1 za.2, prod_comm hb'.2.1 ha'.1 zb.2 za.1, prod_comm hb'.2.1 ha'.2.1 zb.2 za.2] at e2
      have := ends4_same e1 e2
      rw [m1, m2, this.1, this.2]
    · have hb := Bool.eq_false_iff.2 hb
      rw [(bad_val (a := a) (b := b) (by rw [hb]; simp)).2, (bad_val (a := b) (b := a) (by rw [hb]; rfl)).2]
  · have ha := Bool.eq_false_iff.2 ha
    rw [(bad_val (a := a) (b := b) (by rw [ha]; rfl)).2, (bad_val (a := b) (b := a) (by rw [ha]; simp)).2]
theorem min_swap {x y : Raw} (hx : okR x = true) (hy : okR y = true) : minR x y = minR y x :=
  leR_anti (min_of hx hy).ok (min_of hy hx).ok (min_ge (min_of hx hy).right (min_of hx hy).left) (min_ge (min_of hy hx).right (min_of hy hx).left)
theorem max_swap {x y : Raw} (hx : okR x = true) (hy : okR y = true) : maxR x y = maxR y x :=
  leR_anti (max_of hx hy).ok (max_of hy hx).ok (max_le (max_of hy hx).right (max_of hy hx).left) (max_le (max_of hx hy).right (max_of hx hy).left)
theorem meet_swap (a b : Iv) : meetI a b = meetI b a := by
  unfold meetI
  rw [Bool.and_comm (okI b) (okI a)]
  by_cases h : (okI a && okI b) = true
  · rw [if_pos h, if_pos h]
    rw [Bool.and_eq_true] at h
    have ha' := okI_iff.1 h.1
    have hb' := okI_iff.1 h.2
    have e : cutI a b = cutI b a := Iv.eq_of (max_swap ha'.1 hb'.1) (min_swap ha'.2.1 hb'.2.1)
    rw [e]
  · rw [if_neg h, if_neg h]
theorem wider_pure {a b c : Iv} (ha : okI a = true) (h1 : hasI b a.low = true) (h2 : hasI b a.high = true) (za : SzI a) (zb : SzI b) (zc : SzI c) :
    (okI c = false ∧ addI a c = (noI, 1) ∧ addI b c = (noI, 1) ∧ mulI a c = (noI, 1) ∧ mulI b c = (noI, 1)) ∨
    (okI c = true ∧ ∃ p q x y : Iv, addI a c = (p, 0) ∧ addI b c = (q, 0) ∧ mulI a c = (x, 0) ∧ mulI b c = (y, 0) ∧ hasI q p.low = true ∧ hasI q p.high = true ∧ hasI y x.low = true ∧ hasI y x.high = true) := by
  by_cases hc : okI c = true
  case neg =>
    have hc := Bool.eq_false_iff.2 hc
    left
    have e1 : (okI a && okI c) = false := by rw [hc]; simp
    have e2 : (okI b && okI c) = false := by rw [hc]; simp
    exact ⟨hc, (bad_val e1).1, (bad_val e2).1, (bad_val e1).2, (bad_val e2).2⟩
  right
  have hb := (hasI_iff.1 h1).1
  have ha' := okI_iff.1 ha
  have hc' := okI_iff.1 hc
  have c1 : hasI c c.low = true := hasI_iff.2 ⟨hc, hc'.1, leR_refl hc'.1, hc'.2.2⟩
  have c2 : hasI c c.high = true := hasI_iff.2 ⟨hc, hc'.2.1, hc'.2.2, leR_refl hc'.2.1⟩
  obtain ⟨e1, m1, _⟩ := mul_val ha hc za zc
  obtain ⟨e2, m2, _⟩ := mul_val hb hc zb zc
  have k1 := has_prod h1 c1 zb zc za.1 zc.1
  have k2 := has_prod h1 c2 zb zc za.1 zc.2
  have k3 := has_prod h2 c1 zb zc za.2 zc.1
  have k4 := has_prod h2 c2 zb zc za.2 zc.2
  refine ⟨hc, _, _, _, _, (add_val ha hc za zc).1, (add_val hb hc zb zc).1, m1, m2, has_sum h1 c1 zb zc za.1 zc.1, has_sum h2 c2 zb zc za.2 zc.2, ?_, ?_⟩
  · show hasI _ (lowM a c) = true
    rcases e1.onem with e | e | e | e <;> rw [e] <;> assumption
  · show hasI _ (highM a c) = true
    rcases e1.onen with e | e | e | e <;> rw [e] <;> assumption
/-- P5.4: what a hull is -/
structure HullOf (l : List Iv) (h : Iv) : Prop where
  okl : okR h.low = true
  okh : okR h.high = true
  lo : ∀ i ∈ l, LeR h.low i.low
  hi : ∀ i ∈ l, LeR i.high h.high
  onel : ∃ i ∈ l, i.low = h.low
  oneh : ∃ i ∈ l, i.high = h.high
theorem hull_one {x : Iv} (hx : okI x = true) : HullOf [x] x := by
  have h := okI_iff.1 hx
  exact ⟨h.1, h.2.1, by intro i hi; simp only [List.mem_singleton] at hi; subst hi; exact leR_refl h.1, by intro i hi; simp only [List.mem_singleton] at hi; subst hi; exact leR_refl h.2.1, ⟨x, by simp, rfl⟩, ⟨x, by simp, rfl⟩⟩
theorem hull_snoc {l : List Iv} {h x : Iv} (hl : ∀ i ∈ l, okI i = true) (hh : HullOf l h) (hx : okI x = true) : HullOf (l ++ [x]) (joinI h x) := by
  have hx' := okI_iff.1 hx
  have m := min_of hh.okl hx'.1
  have n := max_of hh.okh hx'.2.1
  refine ⟨m.ok, n.ok, ?_, ?_, ?_, ?_⟩
  · intro i hi
    rcases List.mem_append.1 hi with hi | hi
    · exact leR_trans m.ok hh.okl (okI_iff.1 (hl i hi)).1 m.left (hh.lo i hi)
    · simp only [List.mem_singleton] at hi; subst hi; exact m.right
  · intro i hi
    rcases List.mem_append.1 hi with hi | hi
    · exact leR_trans (okI_iff.1 (hl i hi)).2.1 hh.okh n.ok (hh.hi i hi) n.left
    · simp only [List.mem_singleton] at hi; subst hi; exact n.right
  · rcases m.one with e | e
    · obtain ⟨i, hi, e'⟩ := hh.onel
      exact ⟨i, List.mem_append.2 (.inl hi), e'.trans e.symm⟩
    · exact ⟨x, by simp, e.symm⟩
  · rcases n.one with e | e
    · obtain ⟨i, hi, e'⟩ := hh.oneh
      exact ⟨i, List.mem_append.2 (.inl hi), e'.trans e.symm⟩
    · exact ⟨x, by simp, e.symm⟩
theorem hull_fold : ∀ (t l : List Iv) (h : Iv), (∀ i ∈ l, okI i = true) → (∀ i ∈ t, okI i = true) → HullOf l h → HullOf (l ++ t) (t.foldl joinI h)
  | [], l, h, _, _, hh => by simpa using hh
  | x :: t, l, h, hl, ht, hh => by
    have hx := ht x (by simp)
    have := hull_fold t (l ++ [x]) (joinI h x) (by
      intro i hi
      rcases List.mem_append.1 hi with hi | hi
      · exact hl i hi
      · simp only [List.mem_singleton] at hi; subst hi; exact hx) (fun i hi => ht i (by simp [hi])) (hull_snoc hl hh hx)
    simpa [List.append_assoc] using this
theorem hull_same {l m : List Iv} {h k : Iv} (hm : ∀ i, i ∈ l ↔ i ∈ m) (hh : HullOf l h) (hk : HullOf m k) : h = k := by
  refine Iv.eq_of (leR_anti hh.okl hk.okl ?_ ?_) (leR_anti hh.okh hk.okh ?_ ?_)
  · obtain ⟨i, hi, e⟩ := hk.onel; rw [← e]; exact hh.lo i ((hm i).2 hi)
  · obtain ⟨i, hi, e⟩ := hh.onel; rw [← e]; exact hk.lo i ((hm i).1 hi)
  · obtain ⟨i, hi, e⟩ := hh.oneh; rw [← e]; exact hk.hi i ((hm i).1 hi)
  · obtain ⟨i, hi, e⟩ := hk.oneh; rw [← e]; exact hh.hi i ((hm i).2 hi)
theorem hull_val {l : List Iv} (h0 : l ≠ []) (hl : l.length ≤ 1000) (hok : ∀ i ∈ l, okI i = true) : ∃ h, hullI l = (h, 0) ∧ HullOf l h := by
  cases l with
  | nil => exact absurd rfl h0
  | cons x t =>
    have ha : (x :: t).all okI = true := by rw [List.all_eq_true]; exact hok
    refine ⟨t.foldl joinI x, ?_, ?_⟩
    · unfold hullI; rw [if_neg (by omega), ha]; rfl
    · have := hull_fold t [x] x (by intro i hi; simp only [List.mem_singleton] at hi; subst hi; exact hok _ (by simp)) (fun i hi => hok i (by simp [hi])) (hull_one (hok x (by simp)))
      simpa using this
theorem hulls_pure {l : List Iv} (hlen : l.length ≤ 12) :
    (l = [] ∧ hullI l = (noI, 10)) ∨ (l ≠ [] ∧ hullI l = (noI, 1)) ∨
    (l ≠ [] ∧ ∃ h, hullI l = (h, 0) ∧ hullI l.reverse = (h, 0) ∧ okI h = true ∧ (∀ i ∈ l, (∀ r, hasI i r = true → hasI h r = true) ∧ hasI h i.low = true ∧ hasI h i.high = true) ∧ (∃ i ∈ l, i.low = h.low) ∧ (∃ i ∈ l, i.high = h.high)) := by
  by_cases h0 : l = []
  · left; subst h0; exact ⟨rfl, rfl⟩
  by_cases ha : l.all okI = true
  case neg =>
    right; left
    refine ⟨h0, ?_⟩
    unfold hullI; rw [if_neg (by omega), if_neg ha]
  right; right
  rw [List.all_eq_true] at ha
  obtain ⟨h, e, hh⟩ := hull_val h0 (by omega) ha
  obtain ⟨k, e', hk⟩ := hull_val (l := l.reverse) (by simpa using h0) (by simp; omega) (fun i hi => ha i (by simpa using hi))
  have hs : h = k := hull_same (fun i => by simp) hh hk
  subst hs
  have hoh : okI h = true := by
    obtain ⟨i, hi, e⟩ := hh.onel
    have h' := okI_iff.1 (ha i hi)
    refine okI_iff.2 ⟨hh.okl, hh.okh, ?_⟩
    rw [← e]; exact leR_trans h'.1 h'.2.1 hh.okh h'.2.2 (hh.hi i hi)
  refine ⟨h0, h, e, e', hoh, fun i hi => ?_, hh.onel, hh.oneh⟩
  have h' := okI_iff.1 (ha i hi)
  refine ⟨fun r hr => ?_, ?_, ?_⟩
  · obtain ⟨_, o, l1, u1⟩ := hasI_iff.1 hr
    exact hasI_iff.2 ⟨hoh, o, leR_trans hh.okl h'.1 o (hh.lo i hi) l1, leR_trans o h'.2.1 hh.okh u1 (hh.hi i hi)⟩
  · exact hasI_iff.2 ⟨hoh, h'.1, hh.lo i hi, leR_trans h'.1 h'.2.1 hh.okh h'.2.2 (hh.hi i hi)⟩
  · exact hasI_iff.2 ⟨hoh, h'.2.1, leR_trans hh.okl h'.1 h'.2.1 (hh.lo i hi) h'.2.2, hh.hi i hi⟩
end Go.Proofs.YtbcoblpnihdhgaaDoor.Rt
