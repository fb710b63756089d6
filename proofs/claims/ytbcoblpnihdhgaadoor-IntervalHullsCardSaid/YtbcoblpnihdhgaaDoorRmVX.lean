/-
  The chapter's examples of layer 4, as the answers have them.
-/
import Derived.Test.YtbcoblpnihdhgaaDoorRatP
import Derived.Test.YtbcoblpnihdhgaaDoorRmPure
import Derived.KernelRfl
namespace Go.Proofs.YtbcoblpnihdhgaaDoor.Rt
abbrev dg (n : Nat) : ByteArray := ⟨#[UInt8.ofNat (48 + n)]⟩
theorem nS_dg {n : Nat} (h : n < 10) : nS n = dg n := by unfold nS; rw [Dec.digs_small h]; rfl
theorem raw_dg (neg : Bool) {n d : Nat} (hn : n < 10) (hd : d < 10) : (⟨neg, n, d⟩ : Q).raw = ⟨neg, dg n, dg d⟩ := by
  unfold Q.raw; rw [nS_dg hn, nS_dg hd]
theorem in_dg (neg : Bool) {n d : Nat} (hn : n < 10) (hd : d < 10) (h : okQB ⟨neg, n, d⟩ = true) : In 1 ⟨neg, n, d⟩ := ⟨okQB_iff.1 h, hn, hd⟩
theorem x_of1 : ofE 6 (-8) = (⟨true, ⟨#[51]⟩, ⟨#[52]⟩⟩, 0) := by
  unfold ofE; rw [if_neg (by decide), show ofQ 6 (-8) = ⟨true, 3, 4⟩ from rfl, raw_dg true (by decide) (by decide)]; rfl
theorem x_of2 : ofE 0 (-5) = (⟨false, ⟨#[48]⟩, ⟨#[49]⟩⟩, 0) := by
  unfold ofE; rw [if_neg (by decide), show ofQ 0 (-5) = ⟨false, 0, 1⟩ from rfl, raw_dg false (by decide) (by decide)]; rfl
theorem x_of3 : ofE 1 0 = (noRaw, 14) := rfl
theorem x_add : addE ⟨false, ⟨#[49]⟩, ⟨#[50]⟩⟩ ⟨false, ⟨#[49]⟩, ⟨#[51]⟩⟩ = (⟨false, ⟨#[53]⟩, ⟨#[54]⟩⟩, 0) := by
  have h := vAdd (in_dg false (n := 1) (d := 2) (by decide) (by decide) (by decide)) (in_dg false (n := 1) (d := 3) (by decide) (by decide) (by decide)) (by decide) (by decide) (by decide)
  rw [show addQ ⟨false, 1, 2⟩ ⟨false, 1, 3⟩ = ⟨false, 5, 6⟩ from rfl, raw_dg false (by decide) (by decide), raw_dg false (by decide) (by decide), raw_dg false (by decide) (by decide)] at h
  exact h
theorem x_sub : subE ⟨false, ⟨#[49]⟩, ⟨#[50]⟩⟩ ⟨false, ⟨#[49]⟩, ⟨#[50]⟩⟩ = (⟨false, ⟨#[48]⟩, ⟨#[49]⟩⟩, 0) := by
  have h := vSub (in_dg false (n := 1) (d := 2) (by decide) (by decide) (by decide)) (in_dg false (n := 1) (d := 2) (by decide) (by decide) (by decide)) (by decide) (by decide) (by decide)
  rw [show subQ ⟨false, 1, 2⟩ ⟨false, 1, 2⟩ = ⟨false, 0, 1⟩ from rfl, raw_dg false (by decide) (by decide), raw_dg false (by decide) (by decide)] at h
  exact h
theorem x_div : divE ⟨true, ⟨#[49]⟩, ⟨#[50]⟩⟩ ⟨false, ⟨#[51]⟩, ⟨#[52]⟩⟩ = (⟨true, ⟨#[50]⟩, ⟨#[51]⟩⟩, 0) := by
  have h := vDiv (in_dg true (n := 1) (d := 2) (by decide) (by decide) (by decide)) (in_dg false (n := 3) (d := 4) (by decide) (by decide) (by decide)) (by decide) (by decide) (by decide) (by decide)
  rw [show divQ ⟨true, 1, 2⟩ ⟨false, 3, 4⟩ = ⟨true, 2, 3⟩ from rfl, raw_dg true (by decide) (by decide), raw_dg false (by decide) (by decide), raw_dg true (by decide) (by decide)] at h
  exact h
theorem x_div0 : divE ⟨false, ⟨#[49]⟩, ⟨#[50]⟩⟩ ⟨false, ⟨#[48]⟩, ⟨#[49]⟩⟩ = (noRaw, 14) := by
  unfold divE
  rw [if_pos (by decide +kernel), if_pos (by decide +kernel)]
theorem x_parse : parseE ⟨#[45, 51, 47, 52]⟩ = (⟨true, ⟨#[51]⟩, ⟨#[52]⟩⟩, 0) := by
  unfold parseE
  rw [show parts (tl ⟨#[45, 51, 47, 52]⟩) = some (true, [51], [52]) by decide +kernel]
  simp only
  rw [if_pos (by decide +kernel)]
  rfl
theorem x_text : textE ⟨true, ⟨#[51]⟩, ⟨#[52]⟩⟩ = (⟨#[45, 51, 47, 52]⟩, 0) := by
  unfold textE
  rw [if_pos (by decide +kernel), show (Raw.q ⟨true, ⟨#[51]⟩, ⟨#[52]⟩⟩) = ⟨true, 3, 4⟩ from rfl]
  unfold textL
  rw [Dec.digs_small (n := 3) (by decide), Dec.digs_small (n := 4) (by decide)]
  rfl
theorem x_cmp1 : cmpE ⟨true, ⟨#[49]⟩, ⟨#[50]⟩⟩ ⟨false, ⟨#[49]⟩, ⟨#[51]⟩⟩ = -1 := by decide +kernel
theorem x_cmp2 : cmpE ⟨false, ⟨#[50]⟩, ⟨#[51]⟩⟩ ⟨false, ⟨#[51]⟩, ⟨#[52]⟩⟩ = -1 := by decide +kernel
theorem x_ok : okR ⟨false, ⟨#[49]⟩, ⟨#[50]⟩⟩ = true := by decide +kernel
theorem x_no : okR ⟨false, ⟨#[50]⟩, ⟨#[52]⟩⟩ = false := by decide +kernel
def refusedL : List ByteArray := [⟨#[54, 47, 56]⟩, ⟨#[53, 47, 49]⟩, ⟨#[45, 48]⟩, ⟨#[]⟩, ⟨#[49, 47, 48]⟩, ⟨#[47, 50]⟩, ⟨#[48, 49]⟩]
theorem x_none {t : ByteArray} (h : parts (tl t) = none) : parseE t = (noRaw, 5) := by unfold parseE; rw [h]
theorem x_bad {t : ByteArray} {g : Bool} {n d : List UInt8} (h : parts (tl t) = some (g, n, d)) (ho : okR ⟨g, bx n, bx d⟩ = false) : parseE t = (noRaw, 5) := by unfold parseE; rw [h]; simp only; rw [ho]; rfl
theorem x_refused : ∀ t ∈ refusedL, parseE t = (noRaw, 5) := by
  intro t h
  simp only [refusedL, List.mem_cons, List.not_mem_nil, or_false] at h
  rcases h with rfl | rfl | rfl | rfl | rfl | rfl | rfl
  · exact x_bad (g := false) (n := [54]) (d := [56]) (by decide +kernel) (by decide +kernel)
  · exact x_none (by decide +kernel)
  · exact x_bad (g := true) (n := [48]) (d := [49]) (by decide +kernel) (by decide +kernel)
  · exact x_bad (g := false) (n := []) (d := [49]) (by decide +kernel) (by decide +kernel)
  · exact x_bad (g := false) (n := [49]) (d := [48]) (by decide +kernel) (by decide +kernel)
  · exact x_bad (g := false) (n := []) (d := [50]) (by decide +kernel) (by decide +kernel)
  · exact x_bad (g := false) (n := [48, 49]) (d := [49]) (by decide +kernel) (by decide +kernel)
end Go.Proofs.YtbcoblpnihdhgaaDoor.Rt

/-
  What the statements of layer 4 ask of the answers: pure facts of numbers as signs and texts.
-/
namespace Go.Proofs.YtbcoblpnihdhgaaDoor.Rt
abbrev zeroR : Raw := ⟨false, ⟨#[48]⟩, ⟨#[49]⟩⟩
theorem zeroR_is : zeroQ.raw = zeroR := raw_dg false (by decide) (by decide)
theorem zero_in : In 1 zeroQ := in_dg false (by decide) (by decide) (by decide)
theorem raw_zero {b : Q} (hb : b.ok) : b.raw = zeroR ↔ b.num = 0 := by
  rw [← zeroR_is, ← zero_iff hb]
  exact ⟨raw_inj, fun h => by rw [h]⟩
theorem order_pure {a b c : Raw} (ha : okR a = true) (hb : okR b = true) (hc : okR c = true) (sa : a.num.size ≤ 40 ∧ a.den.size ≤ 40) (sb : b.num.size ≤ 40 ∧ b.den.size ≤ 40) (sc : c.num.size ≤ 40 ∧ c.den.size ≤ 40) :
    ∃ (d p q r s : Raw) (x : Int), (x = -1 ∨ x = 0 ∨ x = 1) ∧ cmpE a b = x ∧ cmpE b a = -x ∧ (x = 0 ↔ a = b) ∧ (x ≤ 0 → cmpE b c ≤ 0 → cmpE a c ≤ 0) ∧
      subE a b = (d, 0) ∧ addE a c = (p, 0) ∧ addE b c = (q, 0) ∧ mulE a c = (r, 0) ∧ mulE b c = (s, 0) ∧
      cmpE d zeroR = x ∧ cmpE p q = x ∧ (c.neg = false → c ≠ zeroR → cmpE r s = x) := by
  obtain ⟨x, hx, rfl⟩ := in_of (k := 40) (by decide) ha sa.1 sa.2
  obtain ⟨y, hy, rfl⟩ := in_of (k := 40) (by decide) hb sb.1 sb.2
  obtain ⟨z, hz, rfl⟩ := in_of (k := 40) (by decide) hc sc.1 sc.2
  refine ⟨_, _, _, _, _, cmpQ x y, ?_, cmpE_val ha hb, ?_, ?_, ?_, vSub hx hy (by decide) (by decide) (by decide), vAdd hx hz (by decide) (by decide) (by decide), vAdd hy hz (by decide) (by decide) (by decide), vMul hx hz (by decide) (by decide) (by decide), vMul hy hz (by decide) (by decide) (by decide), ?_, ?_, ?_⟩
  · have := sgnI_range (x.z * y.den - y.z * x.den)
    unfold cmpQ; omega
  · rw [cmpE_val hb ha, cmp_turn]
  · rw [cmp_zero hx.1 hy.1]; exact ⟨fun h => by rw [h], raw_inj⟩
  · rw [cmpE_val hb hc, cmpE_val ha hc]; exact cmp_trans hx.1.1 hy.1.1 hz.1.1
  · rw [← zeroR_is, cmpE_val ((hx.sub hy).okR (by decide) (by decide)) (zero_in.okR (by decide) (by decide)), cmp_sub hx.1.1 hy.1.1]
  · rw [cmpE_val ((hx.add hz).okR (by decide) (by decide)) ((hy.add hz).okR (by decide) (by decide)), cmp_add hx.1.1 hy.1.1 hz.1.1]
  · intro h1 h2
    rw [cmpE_val ((hx.mul hz).okR (by decide) (by decide)) ((hy.mul hz).okR (by decide) (by decide)), cmp_mul hx.1.1 hy.1.1 hz.1.1 h1 (fun e => h2 ((raw_zero hz.1).2 e))]
theorem back_pure {a b : Raw} (ha : okR a = true) (hb : okR b = true) (sa : a.num.size ≤ 40 ∧ a.den.size ≤ 40) (sb : b.num.size ≤ 40 ∧ b.den.size ≤ 40) :
    ∃ s p : Raw, addE a b = (s, 0) ∧ subE s b = (a, 0) ∧ subE a a = (zeroR, 0) ∧ mulE a b = (p, 0) ∧ ((b = zeroR ∧ p = zeroR ∧ divE p b = (noRaw, 14)) ∨ (b ≠ zeroR ∧ divE p b = (a, 0))) := by
  obtain ⟨x, hx, rfl⟩ := in_of (k := 40) (by decide) ha sa.1 sa.2
  obtain ⟨y, hy, rfl⟩ := in_of (k := 40) (by decide) hb sb.1 sb.2
  refine ⟨_, _, vAdd hx hy (by decide) (by decide) (by decide), ?_, ?_, vMul hx hy (by decide) (by decide) (by decide), ?_⟩
  · rw [vSub (hx.add hy) hy (by decide) (by decide) (by decide), sub_add hx.1 hy.1.1]
  · rw [vSub hx hx (by decide) (by decide) (by decide), sub_self hx.1.1, zeroR_is]
  · by_cases h : y.num = 0
    · left
      have hm : mulQ x y = zeroQ := mul_zero h
      refine ⟨(raw_zero hy.1).2 h, by rw [hm, zeroR_is], ?_⟩
      exact divE_zero ((hx.mul hy).okR (by decide) (by decide)) hb h
    · right
      refine ⟨fun e => h ((raw_zero hy.1).1 e), ?_⟩
      rw [vDiv (hx.mul hy) hy (by decide) (by decide) (by decide) h, div_mul hx.1 hy.1.1 h]
theorem ring_pure {a b c : Raw} (ha : okR a = true) (hb : okR b = true) (hc : okR c = true) (sa : a.num.size ≤ 40 ∧ a.den.size ≤ 40) (sb : b.num.size ≤ 40 ∧ b.den.size ≤ 40) (sc : c.num.size ≤ 40 ∧ c.den.size ≤ 40) :
    ∃ ab bc abc mab mbc mac mabc dist : Raw, addE a b = (ab, 0) ∧ addE b a = (ab, 0) ∧ addE ab c = (abc, 0) ∧ addE b c = (bc, 0) ∧ addE a bc = (abc, 0) ∧
      mulE a b = (mab, 0) ∧ mulE b a = (mab, 0) ∧ mulE mab c = (mabc, 0) ∧ mulE b c = (mbc, 0) ∧ mulE a mbc = (mabc, 0) ∧ mulE a c = (mac, 0) ∧
      mulE a bc = (dist, 0) ∧ addE mab mac = (dist, 0) := by
  obtain ⟨x, hx, rfl⟩ := in_of (k := 40) (by decide) ha sa.1 sa.2
  obtain ⟨y, hy, rfl⟩ := in_of (k := 40) (by decide) hb sb.1 sb.2
  obtain ⟨z, hz, rfl⟩ := in_of (k := 40) (by decide) hc sc.1 sc.2
  have px := hx.1.1; have py := hy.1.1; have pz := hz.1.1
  refine ⟨_, _, _, _, _, _, _, _, vAdd hx hy (by decide) (by decide) (by decide), ?_, vAdd (hx.add hy) hz (by decide) (by decide) (by decide), vAdd hy hz (by decide) (by decide) (by decide), ?_,
    vMul hx hy (by decide) (by decide) (by decide), ?_, vMul (hx.mul hy) hz (by decide) (by decide) (by decide), vMul hy hz (by decide) (by decide) (by decide), ?_, vMul hx hz (by decide) (by decide) (by decide),
    vMul hx (hy.add hz) (by decide) (by decide) (by decide), ?_⟩
  · rw [vAdd hy hx (by decide) (by decide) (by decide), addQ_comm py px]
  · rw [vAdd hx (hy.add hz) (by decide) (by decide) (by decide), addQ_assoc px py pz]
  · rw [vMul hy hx (by decide) (by decide) (by decide), mulQ_comm py px]
  · rw [vMul hx (hy.mul hz) (by decide) (by decide) (by decide), mulQ_assoc px py pz]
  · rw [vAdd (hx.mul hy) (hx.mul hz) (by decide) (by decide) (by decide), mulQ_addQ px py pz]
/-- an answer keeps its form -/
def Form (bad : Bool) (r : Raw × Int) : Prop := (r.2 = 0 ∧ okR r.1 = true ∧ bad = false) ∨ (r.2 = 1 ∧ r.1 = noRaw ∧ bad = true) ∨ (r.2 ≠ 0 ∧ r.2 ≠ 1 ∧ r.1 = noRaw ∧ bad = false)
theorem form_pure {a b : Raw} (sa : a.num.size ≤ 40 ∧ a.den.size ≤ 40) (sb : b.num.size ≤ 40 ∧ b.den.size ≤ 40) :
    Form (!(okR a && okR b)) (addE a b) ∧ Form (!(okR a && okR b)) (subE a b) ∧ Form (!(okR a && okR b)) (mulE a b) ∧ Form (!(okR a && okR b)) (divE a b) := by
  by_cases h : (okR a && okR b) = true
  · have h' := h
    rw [Bool.and_eq_true] at h'
    obtain ⟨x, hx, rfl⟩ := in_of (k := 40) (by decide) h'.1 sa.1 sa.2
    obtain ⟨y, hy, rfl⟩ := in_of (k := 40) (by decide) h'.2 sb.1 sb.2
    rw [h]
    refine ⟨.inl ?_, .inl ?_, .inl ?_, ?_⟩
    · rw [vAdd hx hy (by decide) (by decide) (by decide)]; exact ⟨rfl, (hx.add hy).okR (by decide) (by decide), rfl⟩
    · rw [vSub hx hy (by decide) (by decide) (by decide)]; exact ⟨rfl, (hx.sub hy).okR (by decide) (by decide), rfl⟩
    · rw [vMul hx hy (by decide) (by decide) (by decide)]; exact ⟨rfl, (hx.mul hy).okR (by decide) (by decide), rfl⟩
    · by_cases h0 : y.num = 0
      · right; right
        rw [divE_zero h'.1 h'.2 h0]; exact ⟨by decide, by decide, rfl, rfl⟩
      · left
        rw [vDiv hx hy (by decide) (by decide) (by decide) h0]; exact ⟨rfl, (hx.div hy h0).okR (by decide) (by decide), rfl⟩
  · have e : (okR a && okR b) = false := by simpa using h
    rw [e]
    refine ⟨.inr (.inl ?_), .inr (.inl ?_), .inr (.inl ?_), .inr (.inl ?_)⟩
    · unfold addE; rw [if_neg h]; exact ⟨rfl, rfl, rfl⟩
    · unfold subE; rw [if_neg h]; exact ⟨rfl, rfl, rfl⟩
    · unfold mulE; rw [if_neg h]; exact ⟨rfl, rfl, rfl⟩
    · unfold divE; rw [if_neg h]; exact ⟨rfl, rfl, rfl⟩
theorem ofQ_in {n d : Int} (hn : -9223372036854775808 ≤ n ∧ n ≤ 9223372036854775807) (hd : -9223372036854775808 ≤ d ∧ d ≤ 9223372036854775807) (h : d ≠ 0) : In 19 (ofQ n d) := by
  have l := low_le (neg := decide (n < 0) != decide (d < 0)) (n := n.natAbs) (d := d.natAbs) (by omega)
  refine ⟨ofQ_ok h, Nat.lt_of_le_of_lt l.1 ?_, Nat.lt_of_le_of_lt l.2 ?_⟩ <;> omega
theorem of_pure {n d : Int} (hn : -9223372036854775808 ≤ n ∧ n ≤ 9223372036854775807) (hd : -9223372036854775808 ≤ d ∧ d ≤ 9223372036854775807) :
    (d = 0 ∧ ofE n d = (noRaw, 14)) ∨ (d ≠ 0 ∧ ∃ r, ofE n d = (r, 0) ∧ okR r = true) := by
  by_cases h : d = 0
  · left; exact ⟨h, by unfold ofE; rw [if_pos h]⟩
  · right; exact ⟨h, _, by unfold ofE; rw [if_neg h], (ofQ_in hn hd h).okR (by decide) (by decide)⟩
theorem text_ok {r : Raw} (h : okR r = true) : ∃ s, textE r = (s, 0) ∧ parseE s = (r, 0) ∧ s.size ≤ maxLen := by
  have hp := parse_text h
  obtain ⟨_, hr, h1, h2⟩ := okR_of h
  refine ⟨(textE r).1, ?_, hp, ?_⟩
  · unfold textE; rw [if_pos h]
  · have e : (textE r).1 = bx (textL r.q) := by unfold textE; rw [if_pos h]
    have a1 : (Dec.digs r.q.num).length ≤ 1000 := by rw [← hr] at h1; simpa [Q.raw, nS, bx_size] using h1
    have a2 : (Dec.digs r.q.den).length ≤ 1000 := by rw [← hr] at h2; simpa [Q.raw, nS, bx_size] using h2
    rw [e, bx_size]
    unfold textL maxLen
    simp only [List.length_append]
    have b1 : (if r.q.neg then [(45 : UInt8)] else []).length ≤ 1 := by split <;> simp
    have b2 : (if r.q.den = 1 then [] else 47 :: Dec.digs r.q.den).length ≤ 1001 := by split <;> simp <;> omega
    omega
theorem text_no {r : Raw} (h : okR r = false) : textE r = (⟨#[]⟩, 1) := by unfold textE; rw [if_neg (by simp [h])]
theorem parse_cases (t : ByteArray) : (∃ y, parseE t = (y, 0) ∧ textE y = (t, 0)) ∨ parseE t = (noRaw, 5) := by
  by_cases h : (parseE t).2 = 0
  · left
    have : parseE t = ((parseE t).1, 0) := by rw [← h]
    exact ⟨_, this, text_parse this⟩
  · right; exact parse_err h
theorem ofE_val {n d : Int} (h : d ≠ 0) : ofE n d = ((ofQ n d).raw, 0) := by unfold ofE; rw [if_neg h]
theorem ints_pure {n d k : Int} (hn : -9223372036854775808 ≤ n ∧ n ≤ 9223372036854775807) (hd : -9223372036854775808 ≤ d ∧ d ≤ 9223372036854775807) (h0 : d ≠ 0) :
    ∃ a x y : Raw, ofE n d = (a, 0) ∧ ((k ≠ 0 ∧ ofE (n * k) (d * k) = (a, 0)) ∨ (k = 0 ∧ ofE (n * k) (d * k) = (noRaw, 14))) ∧ ofE d 1 = (x, 0) ∧ ofE n 1 = (y, 0) ∧ mulE a x = (y, 0) ∧
      makeE (decide (n < 0) != decide (d < 0)) (nS n.natAbs) (nS d.natAbs) = (a, 0) := by
  refine ⟨_, _, _, ofE_val h0, ?_, ofE_val (by decide), ofE_val (by decide), ?_, ?_⟩
  · by_cases hk : k = 0
    · right; exact ⟨hk, by unfold ofE; rw [if_pos (by rw [hk, Int.mul_zero])]⟩
    · left; exact ⟨hk, by rw [ofE_val (Int.mul_ne_zero h0 hk), ofQ_scale h0 hk]⟩
  · rw [vMul (ofQ_in hn hd h0) (ofQ_in hd (by decide) (by decide)) (by decide) (by decide) (by decide), ofQ_back h0]
  · have v1 : validB (nS n.natAbs) = true := (validB_iff _).2 ⟨nS_norm _, Nat.le_trans ((nS_size (k := 19) (by decide)).2 (by omega)) (by decide)⟩
    have v2 : validB (nS d.natAbs) = true := (validB_iff _).2 ⟨nS_norm _, Nat.le_trans ((nS_size (k := 19) (by decide)).2 (by omega)) (by decide)⟩
    unfold makeE
    rw [v1, v2]
    have e1 : nv (nS n.natAbs) = n.natAbs := val_nS _
    have e2 : nv (nS d.natAbs) = d.natAbs := val_nS _
    rw [e1, e2, if_neg (show ¬ d.natAbs = 0 by omega)]
    rfl
end Go.Proofs.YtbcoblpnihdhgaaDoor.Rt

/-
  Products of nines and of powers of ten, as the statement RationalLimit asks: pure facts.
-/
namespace Go.Proofs.YtbcoblpnihdhgaaDoor.Rt
abbrev repB (d : UInt8) (n : Nat) : ByteArray := ⟨(List.replicate n d).toArray⟩
theorem digs_ten (k : Nat) : Dec.digs (10 ^ k) = 49 :: List.replicate k 48 := by
  induction k with
  | zero => rw [Dec.digs_small (by decide)]; rfl
  | succ k ih =>
    have hp : 0 < 10 ^ k := Nat.pow_pos (by omega)
    rw [Nat.pow_succ, Dec.digs_big (by omega), Nat.mul_div_cancel _ (by omega), ih, Nat.mul_mod_left, List.replicate_succ']
    rfl
theorem digs_nine (k : Nat) : Dec.digs (10 ^ (k + 1) - 1) = List.replicate (k + 1) 57 := by
  induction k with
  | zero => rw [Dec.digs_small (by decide)]; rfl
  | succ k ih =>
    have hp : 0 < 10 ^ (k + 1) := Nat.pow_pos (by omega)
    rw [Nat.pow_succ 10 (k + 1)]
    generalize hx : 10 ^ (k + 1) = x at *
    have h10 : 10 ≤ x := by
      have := Nat.pow_le_pow_right (show 0 < 10 by omega) (show 1 ≤ k + 1 by omega)
      omega
    rw [Dec.digs_big (by omega), show (x * 10 - 1) / 10 = x - 1 by omega, show (x * 10 - 1) % 10 = 9 by omega, ih, List.replicate_succ' (n := k + 1)]
    rfl
theorem nS_nine {m : Nat} (h : 1 ≤ m) : repB 57 m = nS (10 ^ m - 1) := by
  obtain ⟨k, rfl⟩ : ∃ k, m = k + 1 := ⟨m - 1, by omega⟩
  unfold nS; rw [digs_nine]; rfl
theorem nS_ten (k : Nat) : (⟨#[49]⟩ : ByteArray) ++ repB 48 k = nS (10 ^ k) := by
  unfold nS
  rw [digs_ten]
  apply ByteArray.ext
  apply Array.ext'
  simp [bx]
theorem one_ok (neg : Bool) {x : Nat} (h : 0 < x) : (⟨neg, x, 1⟩ : Q).ok := ⟨Nat.one_pos, by simp, fun e => by simp only at e; omega⟩
theorem one_raw (neg : Bool) (x : Nat) : (⟨neg, nS x, ⟨#[49]⟩⟩ : Raw) = (⟨neg, x, 1⟩ : Q).raw := by
  unfold Q.raw; rw [nS_dg (n := 1) (by decide)]; rfl
theorem one_okR (neg : Bool) {x k : Nat} (h : 0 < x) (hx : x < 10 ^ k) (hk : k ≤ 1000) (hk0 : 0 < k) : okR (⟨neg, x, 1⟩ : Q).raw = true :=
  okR_raw (one_ok neg h) (Nat.le_trans ((nS_size hk0).2 hx) hk) (by show (nS 1).size ≤ 1000; rw [nS_dg (n := 1) (by decide)]; decide)
theorem size_eq {x k : Nat} (h1 : 10 ^ k ≤ x) (h2 : x < 10 ^ (k + 1)) : (nS x).size = k + 1 := by
  have a := (nS_size (n := x) (k := k + 1) (by omega)).2 h2
  rcases Nat.lt_or_ge k (nS x).size with h | h
  · omega
  · have hk : 1 ≤ k := by
      rcases Nat.eq_zero_or_pos k with e | e
      · subst e
        have : 1 ≤ (nS x).size := by unfold nS; rw [bx_size]; exact Dec.digs_len_pos x
        omega
      · exact e
    have := (nS_size hk).1 h
    omega
theorem low_one {neg : Bool} {x : Nat} (h : 0 < x) : low neg x 1 = ⟨neg, x, 1⟩ := by
  rw [low_pos (by omega), Nat.gcd_one_right, Nat.div_one, Nat.div_one]
theorem mul_one {s t : Bool} {x y L : Nat} (hx : 0 < x) (hy : 0 < y) (kx : okR (⟨s, x, 1⟩ : Q).raw = true) (ky : okR (⟨t, y, 1⟩ : Q).raw = true) (hL : (nS (x * y)).size = L) :
    (L ≤ 1000 ∧ ∃ p : Raw, mulE (⟨s, x, 1⟩ : Q).raw (⟨t, y, 1⟩ : Q).raw = (p, 0) ∧ p.neg = (s != t) ∧ p.num.size = L) ∨ (1000 < L ∧ mulE (⟨s, x, 1⟩ : Q).raw (⟨t, y, 1⟩ : Q).raw = (noRaw, 2)) := by
  rcases Nat.lt_or_ge 1000 L with h | h
  · right
    refine ⟨h, ?_⟩
    have hf : fit (x * y) = false := decide_eq_false (by omega)
    unfold mulE
    rw [kx, ky, Q.raw_q, Q.raw_q]
    simp [hf]
  · left
    have hf : fit (x * y) = true := decide_eq_true (by omega)
    have hg : fit (1 * 1) = true := fit_of (k := 1) (by decide) (by decide) (by decide)
    refine ⟨h, _, mulE_val kx ky hf hg, ?_, ?_⟩
    · show (low (s != t) (x * y) (1 * 1)).neg = _
      rw [Nat.mul_one, low_one (Nat.mul_pos hx hy)]
    · show (nS (low (s != t) (x * y) (1 * 1)).num).size = _
      rw [Nat.mul_one, low_one (Nat.mul_pos hx hy)]; exact hL
theorem limit_pure {m n : Nat} (hm : 1 ≤ m) (hm6 : m ≤ 600) (hn : 1 ≤ n) (hn6 : n ≤ 600) :
    ((m + n ≤ 1000 ∧ ∃ p : Raw, mulE ⟨false, repB 57 m, ⟨#[49]⟩⟩ ⟨false, repB 57 n, ⟨#[49]⟩⟩ = (p, 0) ∧ p.num.size = m + n) ∨ (1000 < m + n ∧ mulE ⟨false, repB 57 m, ⟨#[49]⟩⟩ ⟨false, repB 57 n, ⟨#[49]⟩⟩ = (noRaw, 2))) ∧
    ((m + n ≤ 1001 ∧ ∃ q : Raw, mulE ⟨false, ⟨#[49]⟩ ++ repB 48 (m - 1), ⟨#[49]⟩⟩ ⟨true, ⟨#[49]⟩ ++ repB 48 (n - 1), ⟨#[49]⟩⟩ = (q, 0) ∧ q.neg = true ∧ q.num.size = m + n - 1) ∨ (1001 < m + n ∧ mulE ⟨false, ⟨#[49]⟩ ++ repB 48 (m - 1), ⟨#[49]⟩⟩ ⟨true, ⟨#[49]⟩ ++ repB 48 (n - 1), ⟨#[49]⟩⟩ = (noRaw, 2))) ∧
    cmpE ⟨true, ⟨#[49]⟩ ++ repB 48 (n - 1), ⟨#[49]⟩⟩ ⟨false, repB 57 m, ⟨#[49]⟩⟩ = -1 := by
  obtain ⟨k, rfl⟩ : ∃ k, m = k + 1 := ⟨m - 1, by omega⟩
  obtain ⟨l, rfl⟩ : ∃ l, n = l + 1 := ⟨n - 1, by omega⟩
  rw [nS_nine hm, nS_nine hn, Nat.add_sub_cancel, Nat.add_sub_cancel, nS_ten, nS_ten, one_raw, one_raw, one_raw, one_raw]
  have pk : 0 < 10 ^ k := Nat.pow_pos (by omega)
  have pl : 0 < 10 ^ l := Nat.pow_pos (by omega)
  have ek : 10 ^ (k + 1) = 10 ^ k * 10 := Nat.pow_succ 10 k
  have el : 10 ^ (l + 1) = 10 ^ l * 10 := Nat.pow_succ 10 l
  have ekl : 10 ^ (k + l) = 10 ^ k * 10 ^ l := Nat.pow_add 10 k l
  have ekl1 : 10 ^ (k + l + 1) = 10 ^ k * 10 ^ l * 10 := by rw [Nat.pow_succ, ekl]
  have ekl2 : 10 ^ (k + l + 1 + 1) = 10 ^ k * 10 ^ l * 100 := by rw [Nat.pow_succ, ekl1]; omega
  have k1 : okR (⟨false, 10 ^ (k + 1) - 1, 1⟩ : Q).raw = true := one_okR (k := k + 1) false (by omega) (by omega) (by omega) (by omega)
  have k2 : okR (⟨false, 10 ^ (l + 1) - 1, 1⟩ : Q).raw = true := one_okR (k := l + 1) false (by omega) (by omega) (by omega) (by omega)
  have k3 : okR (⟨false, 10 ^ k, 1⟩ : Q).raw = true := one_okR (k := k + 1) false pk (by omega) (by omega) (by omega)
  have k4 : okR (⟨true, 10 ^ l, 1⟩ : Q).raw = true := one_okR (k := l + 1) true pl (by omega) (by omega) (by omega)
  have s1 : (nS ((10 ^ (k + 1) - 1) * (10 ^ (l + 1) - 1))).size = (k + l + 1) + 1 := by
    apply size_eq
    · rw [ekl1, ek, el]
      have a1 : 9 * 10 ^ k ≤ 10 ^ k * 10 - 1 := by omega
      have a2 : 9 * 10 ^ l ≤ 10 ^ l * 10 - 1 := by omega
      have := Nat.mul_le_mul a1 a2
      have e : 9 * 10 ^ k * (9 * 10 ^ l) = 10 ^ k * 10 ^ l * 81 := by grind
      omega
    · rw [ekl2, ek, el]
      have a1 : 10 ^ k * 10 - 1 < 10 ^ k * 10 := by omega
      have a2 : 10 ^ l * 10 - 1 < 10 ^ l * 10 := by omega
      have := Nat.mul_lt_mul'' a1 a2
      have e : 10 ^ k * 10 * (10 ^ l * 10) = 10 ^ k * 10 ^ l * 100 := by grind
      omega
  have pp := Nat.mul_pos pk pl
  have s2 : (nS (10 ^ k * 10 ^ l)).size = k + l + 1 := size_eq (by omega) (by omega)
  refine ⟨?_, ?_, ?_⟩
  · rcases mul_one (by omega) (by omega) k1 k2 s1 with ⟨h, p, h1, _, h2⟩ | ⟨h, h1⟩
    · left; exact ⟨by omega, p, h1, by omega⟩
    · right; exact ⟨by omega, h1⟩
  · rcases mul_one pk pl k3 k4 s2 with ⟨h, p, h1, h3, h2⟩ | ⟨h, h1⟩
    · left; exact ⟨by omega, p, h1, h3, by omega⟩
    · right; exact ⟨by omega, h1⟩
  · rw [cmpE_val k4 k1, cmpQ_diff (one_ok true pl) (one_ok false (by omega)) (show true ≠ false by decide)]
    rfl
end Go.Proofs.YtbcoblpnihdhgaaDoor.Rt
