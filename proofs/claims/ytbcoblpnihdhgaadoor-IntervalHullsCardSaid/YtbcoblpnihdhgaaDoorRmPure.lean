/-
  The program's way to the answers of layer 4: what each of its steps leaves, as pure functions, and that they end in the answers.
-/
import Derived.Test.YtbcoblpnihdhgaaDoorRatP
import Derived.Test.YtbcoblpnihdhgaaDoorNatB
namespace Go.Proofs.YtbcoblpnihdhgaaDoor.Rt
/-- a step of a computation: nothing is done after an error -/
def doR (op : ByteArray → ByteArray → ByteArray × Int) (e : Int) (a b : ByteArray) : ByteArray × Int := if e = 0 then op a b else (⟨#[]⟩, e)
def exactR (a b : ByteArray) : ByteArray × Int := ((divR a b).1, (divR a b).2.2)
def isZ (a : ByteArray) : Bool := decide (a = ⟨#[48]⟩)
def isO (a : ByteArray) : Bool := decide (a = ⟨#[49]⟩)
def reqR (e : Int) (c : Bool) (er : Int) : Int := if e = 0 ∧ c = false then er else e
def resR (r : Raw × Int) : Raw × Int := if r.2 = 0 then (r.1, 0) else (noRaw, r.2)
def redR (e : Int) (neg : Bool) (num den : ByteArray) : Raw × Int :=
  (⟨neg && !isZ num, (doR exactR (doR gcdR e num den).2 num (doR gcdR e num den).1).1,
    (doR exactR (doR exactR (doR gcdR e num den).2 num (doR gcdR e num den).1).2 den (doR gcdR e num den).1).1⟩,
   (doR exactR (doR exactR (doR gcdR e num den).2 num (doR gcdR e num den).1).2 den (doR gcdR e num den).1).2)
def sumL (e : Int) (a b : Raw) : ByteArray × Int := doR mulR e a.num b.den
def sumR (e : Int) (a b : Raw) : ByteArray × Int := doR mulR (sumL e a b).2 b.num a.den
def sumD (e : Int) (a b : Raw) : ByteArray × Int := doR mulR (sumR e a b).2 a.den b.den
def sgnR (op : ByteArray → ByteArray → ByteArray × Int) (e : Int) (neg : Bool) (x y d : ByteArray) : Raw × Int := redR (doR op e x y).2 neg (doR op e x y).1 d
def sumF (e : Int) (a b : Raw) : Raw × Int :=
  if a.neg = b.neg then sgnR addR (sumD e a b).2 a.neg (sumL e a b).1 (sumR e a b).1 (sumD e a b).1
  else if cmpR (sumL e a b).1 (sumR e a b).1 < 0 then sgnR subR (sumD e a b).2 b.neg (sumR e a b).1 (sumL e a b).1 (sumD e a b).1
  else sgnR subR (sumD e a b).2 a.neg (sumL e a b).1 (sumR e a b).1 (sumD e a b).1
def diffF (e : Int) (a b : Raw) : Raw × Int := sumF e a ⟨!b.neg, b.num, b.den⟩
def prodF (e : Int) (a b : Raw) : Raw × Int :=
  redR (doR mulR (doR mulR e a.num b.num).2 a.den b.den).2 (a.neg != b.neg) (doR mulR e a.num b.num).1 (doR mulR (doR mulR e a.num b.num).2 a.den b.den).1
def quotF (e : Int) (a b : Raw) : Raw × Int := prodF (reqR e (!isZ b.num) 14) a ⟨b.neg, b.den, b.num⟩
def applyF (f : Int → Raw → Raw → Raw × Int) (a b : Raw) : Raw × Int := resR (f (reqR 0 (okR a && okR b) 1) a b)
def Sm (n : Nat) : Prop := (nS n).size ≤ 1000
theorem vN {n : Nat} (h : Sm n) : validB (nS n) = true := (validB_iff _).2 ⟨nS_norm _, h⟩
theorem bN {x y : Nat} (hx : Sm x) (hy : Sm y) : (validB (nS x) && validB (nS y)) = true := by rw [vN hx, vN hy]; rfl
theorem mulS {x y : Nat} (hx : Sm x) (hy : Sm y) : mulR (nS x) (nS y) = within (x * y) := by
  unfold mulR; rw [if_pos (bN hx hy), val_nS, val_nS]
theorem addS {x y : Nat} (hx : Sm x) (hy : Sm y) : addR (nS x) (nS y) = within (x + y) := by
  unfold addR; rw [if_pos (bN hx hy), val_nS, val_nS]
theorem subS {x y : Nat} (hx : Sm x) (hy : Sm y) (h : y ≤ x) : subR (nS x) (nS y) = (nS (x - y), 0) := by
  unfold subR; rw [if_pos (bN hx hy), val_nS, val_nS, if_neg (by omega)]
theorem gcdS {x y : Nat} (hx : Sm x) (hy : Sm y) : gcdR (nS x) (nS y) = (nS (Nat.gcd x y), 0) := by
  unfold gcdR; rw [if_pos (bN hx hy), val_nS, val_nS]
theorem exactS {x y : Nat} (hx : Sm x) (hy : Sm y) (h : y ≠ 0) : exactR (nS x) (nS y) = (nS (x / y), 0) := by
  unfold exactR divR; rw [if_pos (bN hx hy), val_nS, val_nS, if_neg h]
theorem cmpS {x y : Nat} (hx : Sm x) (hy : Sm y) : cmpR (nS x) (nS y) = if x < y then -1 else if y < x then 1 else 0 := by
  unfold cmpR; rw [if_pos (bN hx hy), val_nS, val_nS]
theorem isZ_nS (n : Nat) : isZ (nS n) = decide (n = 0) := by
  unfold isZ
  by_cases h : n = 0
  · rw [decide_eq_true h, h, nS_zero]; exact decide_eq_true rfl
  · rw [decide_eq_false h]; exact decide_eq_false (fun e => h (nS_inj (e.trans nS_zero.symm)))
theorem nS_one : nS 1 = ⟨#[49]⟩ := by unfold nS; rw [digs_one]; rfl
theorem isO_nS (n : Nat) : isO (nS n) = decide (n = 1) := by
  unfold isO
  by_cases h : n = 1
  · rw [decide_eq_true h, h, nS_one]; exact decide_eq_true rfl
  · rw [decide_eq_false h]; exact decide_eq_false (fun e => h (nS_inj (e.trans nS_one.symm)))
theorem within_yes {n : Nat} (h : fit n = true) : within n = (nS n, 0) := if_pos (of_decide_eq_true h)
theorem within_no {n : Nat} (h : fit n = false) : within n = (⟨#[]⟩, 2) := if_neg (of_decide_eq_false h)
theorem fit_sm {n : Nat} (h : fit n = true) : Sm n := (of_decide_eq_true h : (nS n).size ≤ 1000)
theorem doR_go (op : ByteArray → ByteArray → ByteArray × Int) (a b : ByteArray) : doR op 0 a b = op a b := if_pos rfl
theorem doR_err (op : ByteArray → ByteArray → ByteArray × Int) {e : Int} (h : e ≠ 0) (a b : ByteArray) : doR op e a b = (⟨#[]⟩, e) := if_neg h
theorem red_err {e : Int} (h : e ≠ 0) (neg : Bool) (n d : ByteArray) : (redR e neg n d).2 = e := by
  unfold redR; simp only [doR_err _ h]
theorem sm_le {n m : Nat} (h : n ≤ m) (hm : Sm m) : Sm n := Nat.le_trans (nS_mono h) hm
theorem redS {neg : Bool} {n d : Nat} (hn : Sm n) (hd : Sm d) (h0 : d ≠ 0) : redR 0 neg (nS n) (nS d) = ((low neg n d).raw, 0) := by
  have hg : Nat.gcd n d ≠ 0 := fun e => h0 (Nat.gcd_eq_zero_iff.1 e).2
  have hgd : Nat.gcd n d ≤ d := Nat.le_of_dvd (by omega) (Nat.gcd_dvd_right n d)
  unfold redR
  simp only [doR_go, gcdS hn hd, exactS hn (sm_le hgd hd) hg, exactS hd (sm_le hgd hd) hg, isZ_nS]
  by_cases h : n = 0
  · subst h
    rw [low_zero]
    simp [Q.raw, zeroQ, Nat.div_self (Nat.pos_of_ne_zero h0)]
  · rw [low_pos h]
    simp [Q.raw, h]
theorem resR_err {r : Raw × Int} {e : Int} (h : r.2 = e) (he : e ≠ 0) : resR r = (noRaw, e) := by unfold resR; rw [h, if_neg he]
theorem sgn_err (op : ByteArray → ByteArray → ByteArray × Int) {e : Int} (h : e ≠ 0) (neg : Bool) (x y d : ByteArray) : (sgnR op e neg x y d).2 = e := by
  unfold sgnR; rw [doR_err _ h]; exact red_err h _ _ _
theorem sumF_err {e : Int} (a b : Raw) (h : (sumD e a b).2 = 2 ∨ (sumD e a b).2 = 1) : (sumF e a b).2 = (sumD e a b).2 := by
  have h' : (sumD e a b).2 ≠ 0 := by rcases h with h | h <;> rw [h] <;> decide
  unfold sumF
  split
  · exact sgn_err _ h' _ _ _ _
  · split
    · exact sgn_err _ h' _ _ _ _
    · exact sgn_err _ h' _ _ _ _
theorem sumD_err {e : Int} (h : e ≠ 0) (a b : Raw) : (sumD e a b).2 = e := by
  unfold sumD sumR sumL; simp only [doR_err _ h]
def addOk (a b : Q) : Bool := fit (a.num * b.den) && (fit (b.num * a.den) && (fit (a.den * b.den) && (a.neg != b.neg || fit (a.num * b.den + b.num * a.den))))
structure SmQ (a : Q) : Prop where
  num : Sm a.num
  den : Sm a.den
  pos : a.den ≠ 0
theorem sum_val {a b : Q} (ha : SmQ a) (hb : SmQ b) : resR (sumF 0 a.raw b.raw) = if addOk a b then ((addQ a b).raw, 0) else (noRaw, 2) := by
  have hd : a.den * b.den ≠ 0 := Nat.mul_ne_zero ha.pos hb.pos
  have eL : sumL 0 a.raw b.raw = within (a.num * b.den) := by unfold sumL; rw [doR_go]; exact mulS ha.num hb.den
  by_cases f1 : fit (a.num * b.den) = true
  case neg =>
    have f1 := Bool.eq_false_iff.2 f1
    have : (sumD 0 a.raw b.raw).2 = 2 := by
      unfold sumD sumR; rw [eL, within_no f1]
      simp only [doR_err _ (by decide : (2 : Int) ≠ 0)]
    rw [resR_err ((sumF_err _ _ (.inl this)).trans this) (by decide), if_neg (by unfold addOk; rw [f1]; simp)]
  rw [within_yes f1] at eL
  have eR : sumR 0 a.raw b.raw = within (b.num * a.den) := by unfold sumR; rw [eL, doR_go]; exact mulS hb.num ha.den
  by_cases f2 : fit (b.num * a.den) = true
  case neg =>
    have f2 := Bool.eq_false_iff.2 f2
    have : (sumD 0 a.raw b.raw).2 = 2 := by
      unfold sumD; rw [eR, within_no f2]
      simp only [doR_err _ (by decide : (2 : Int) ≠ 0)]
    rw [resR_err ((sumF_err _ _ (.inl this)).trans this) (by decide), if_neg (by unfold addOk; rw [f2]; simp)]
  rw [within_yes f2] at eR
  have eD : sumD 0 a.raw b.raw = within (a.den * b.den) := by unfold sumD; rw [eR, doR_go]; exact mulS ha.den hb.den
  by_cases f3 : fit (a.den * b.den) = true
  case neg =>
    have f3 := Bool.eq_false_iff.2 f3
    have : (sumD 0 a.raw b.raw).2 = 2 := by rw [eD, within_no f3]
    rw [resR_err ((sumF_err _ _ (.inl this)).trans this) (by decide), if_neg (by unfold addOk; rw [f3]; simp)]
  rw [within_yes f3] at eD
  unfold sumF addOk
  rw [eL, eR, eD, f1, f2, f3]
  have n1 : a.raw.neg = a.neg := rfl
  have n2 : b.raw.neg = b.neg := rfl
  simp only [n1, n2]
  by_cases hn : a.neg = b.neg
  · rw [if_pos hn]
    have e0 : (a.neg != b.neg) = false := by rw [hn]; simp
    have ad : addQ a b = low a.neg (a.num * b.den + b.num * a.den) (a.den * b.den) := by unfold addQ; rw [if_pos hn]
    unfold sgnR
    rw [doR_go, addS (fit_sm f1) (fit_sm f2), e0]
    by_cases f4 : fit (a.num * b.den + b.num * a.den) = true
    · rw [within_yes f4, f4, redS (fit_sm f4) (fit_sm f3) hd, ad]
      rfl
    · have f4 := Bool.eq_false_iff.2 f4
      rw [within_no f4, f4, resR_err (red_err (by decide) _ _ _) (by decide)]
      rfl
  · rw [if_neg hn]
    have e0 : (a.neg != b.neg) = true := by simpa using hn
    rw [e0, cmpS (fit_sm f1) (fit_sm f2)]
    by_cases hlt : a.num * b.den < b.num * a.den
    · have ad : addQ a b = low b.neg (b.num * a.den - a.num * b.den) (a.den * b.den) := by unfold addQ; rw [if_neg hn, if_neg (by omega)]
      rw [if_pos hlt, if_pos (by decide)]
      unfold sgnR
      rw [doR_go, subS (fit_sm f2) (fit_sm f1) (by omega), redS (sm_le (Nat.sub_le _ _) (fit_sm f2)) (fit_sm f3) hd, ad]
      rfl
    · have ad : addQ a b = low a.neg (a.num * b.den - b.num * a.den) (a.den * b.den) := by unfold addQ; rw [if_neg hn, if_pos (by omega)]
      rw [if_neg hlt, if_neg (by split <;> decide)]
      unfold sgnR
      rw [doR_go, subS (fit_sm f1) (fit_sm f2) (by omega), redS (sm_le (Nat.sub_le _ _) (fit_sm f1)) (fit_sm f3) hd, ad]
      rfl
theorem ok_sm {r : Raw} (h : okR r = true) : SmQ r.q := by
  obtain ⟨h1, h2, h3, h4⟩ := okR_of h
  exact ⟨by show (r.q.raw.num).size ≤ 1000; rw [h2]; exact h3, by show (r.q.raw.den).size ≤ 1000; rw [h2]; exact h4, by have := h1.1; omega⟩
theorem req_ok {c : Bool} {er : Int} (h : c = true) : reqR 0 c er = 0 := by unfold reqR; rw [h]; rfl
theorem req_bad {c : Bool} {er : Int} (h : c = false) : reqR 0 c er = er := by unfold reqR; rw [h]; rfl
theorem req_err {e : Int} {c : Bool} {er : Int} (h : e ≠ 0) : reqR e c er = e := by unfold reqR; rw [if_neg (fun h' => h h'.1)]
theorem add_is (a b : Raw) : applyF sumF a b = addE a b := by
  unfold applyF addE
  by_cases h : (okR a && okR b) = true
  · rw [req_ok h, if_pos h]
    rw [Bool.and_eq_true] at h
    have := sum_val (ok_sm h.1) (ok_sm h.2)
    rw [(okR_of h.1).2.1, (okR_of h.2).2.1] at this
    exact this
  · rw [req_bad (Bool.eq_false_iff.2 h), if_neg h]
    have hd : (sumD 1 a b).2 = 1 := sumD_err (by decide) a b
    exact resR_err ((sumF_err a b (.inr hd)).trans hd) (by decide)
theorem add_flip {a b : Q} (h : b.num = 0) (ha : a.den ≠ 0) (hb : b.den ≠ 0) : addQ a ⟨!b.neg, b.num, b.den⟩ = addQ a b := by
  rw [addQ_lowI (by omega) (by show 0 < b.den; omega), addQ_lowI (by omega) (by omega)]
  congr 1
  unfold Q.z sg; simp [h]
theorem sub_is (a b : Raw) : applyF diffF a b = subE a b := by
  unfold applyF subE diffF
  by_cases h : (okR a && okR b) = true
  · rw [req_ok h, if_pos h]
    rw [Bool.and_eq_true] at h
    have sa := ok_sm h.1
    have sb := ok_sm h.2
    have ea : a.q.raw = a := (okR_of h.1).2.1
    have eb : b.q.raw = b := (okR_of h.2).2.1
    have sb' : SmQ ⟨!b.q.neg, b.q.num, b.q.den⟩ := ⟨sb.num, sb.den, sb.pos⟩
    have := sum_val sa sb'
    have e1 : (⟨!b.q.neg, b.q.num, b.q.den⟩ : Q).raw = ⟨!b.neg, b.num, b.den⟩ := by
      show (⟨!b.q.raw.neg, b.q.raw.num, b.q.raw.den⟩ : Raw) = _; rw [eb]
    rw [ea, e1] at this
    rw [this]
    have hn : okR (negQ b.q).raw = true := negQ_raw (by rw [eb]; exact h.2)
    unfold addE
    rw [h.1, hn, Q.raw_q]
    simp only [Bool.and_self, if_true, negQ_num, negQ_den]
    have hneg : (negQ b.q).raw.neg = (negQ b.q).neg := rfl
    rw [hneg]
    by_cases h0 : b.q.num = 0
    · have e2 : negQ b.q = b.q := by unfold negQ; rw [if_pos h0]
      rw [e2, add_flip h0 sa.pos sb.pos]
      have e3 : addOk a.q ⟨!b.q.neg, b.q.num, b.q.den⟩ = (fit (a.q.num * b.q.den) && (fit (b.q.num * a.q.den) && (fit (a.q.den * b.q.den) && (a.neg != b.q.neg || fit (a.q.num * b.q.den + b.q.num * a.q.den))))) := by
        unfold addOk
        simp only [h0, Nat.zero_mul, Nat.add_zero]
        cases fit (a.q.num * b.q.den) <;> simp
      rw [e3]
    · have e2 : negQ b.q = ⟨!b.q.neg, b.q.num, b.q.den⟩ := by unfold negQ; rw [if_neg h0]
      rw [e2]; rfl
  · rw [req_bad (Bool.eq_false_iff.2 h), if_neg h]
    have hd : (sumD 1 a ⟨!b.neg, b.num, b.den⟩).2 = 1 := sumD_err (by decide) _ _
    exact resR_err ((sumF_err _ _ (.inr hd)).trans hd) (by decide)
theorem prod_err {e : Int} (h : e ≠ 0) (a b : Raw) : (prodF e a b).2 = e := by
  unfold prodF; simp only [doR_err _ h]; exact red_err h _ _ _
theorem prod_val {a b : Q} (ha : SmQ a) (hb : SmQ b) : resR (prodF 0 a.raw b.raw) = if fit (a.num * b.num) && fit (a.den * b.den) then ((mulQ a b).raw, 0) else (noRaw, 2) := by
  have hd : a.den * b.den ≠ 0 := Nat.mul_ne_zero ha.pos hb.pos
  have e1 : doR mulR 0 a.raw.num b.raw.num = within (a.num * b.num) := by rw [doR_go]; exact mulS ha.num hb.num
  unfold prodF
  rw [e1]
  by_cases f1 : fit (a.num * b.num) = true
  case neg =>
    have f1 := Bool.eq_false_iff.2 f1
    rw [within_no f1, f1]
    simp only [doR_err _ (by decide : (2 : Int) ≠ 0)]
    rw [resR_err (red_err (by decide) _ _ _) (by decide)]
    rfl
  rw [within_yes f1]
  have e2 : doR mulR 0 a.raw.den b.raw.den = within (a.den * b.den) := by rw [doR_go]; exact mulS ha.den hb.den
  rw [e2]
  by_cases f2 : fit (a.den * b.den) = true
  case neg =>
    have f2 := Bool.eq_false_iff.2 f2
    rw [within_no f2, f2, resR_err (red_err (by decide) _ _ _) (by decide)]
    simp
  rw [within_yes f2, redS (fit_sm f1) (fit_sm f2) hd, f1, f2]
  rfl
theorem mul_is (a b : Raw) : applyF prodF a b = mulE a b := by
  unfold applyF mulE
  by_cases h : (okR a && okR b) = true
  · rw [req_ok h, if_pos h]
    rw [Bool.and_eq_true] at h
    have := prod_val (ok_sm h.1) (ok_sm h.2)
    rw [(okR_of h.1).2.1, (okR_of h.2).2.1] at this
    exact this
  · rw [req_bad (Bool.eq_false_iff.2 h), if_neg h]
    exact resR_err (prod_err (by decide) _ _) (by decide)
theorem isZ_ok {r : Raw} (h : okR r = true) : isZ r.num = decide (r.q.num = 0) := by
  have : isZ r.q.raw.num = decide (r.q.num = 0) := isZ_nS _
  rwa [(okR_of h).2.1] at this
theorem div_is (a b : Raw) : applyF quotF a b = divE a b := by
  unfold applyF divE quotF
  by_cases h : (okR a && okR b) = true
  · rw [req_ok h, if_pos h]
    rw [Bool.and_eq_true] at h
    have sa := ok_sm h.1
    have sb := ok_sm h.2
    have ea : a.q.raw = a := (okR_of h.1).2.1
    have eb : b.q.raw = b := (okR_of h.2).2.1
    rw [isZ_ok h.2]
    by_cases h0 : b.q.num = 0
    · rw [if_pos h0, decide_eq_true h0, req_bad (c := !true) rfl]
      exact resR_err (prod_err (by decide) _ _) (by decide)
    · rw [if_neg h0, decide_eq_false h0, req_ok (c := !false) rfl]
      have sb' : SmQ (invQ b.q) := ⟨sb.den, sb.num, h0⟩
      have := prod_val sa sb'
      have e1 : (invQ b.q).raw = ⟨b.neg, b.den, b.num⟩ := by
        show (⟨b.q.raw.neg, b.q.raw.den, b.q.raw.num⟩ : Raw) = _; rw [eb]
      rw [ea, e1] at this
      exact this
  · have hc := Bool.eq_false_iff.2 h
    rw [req_bad hc, if_neg h, req_err (by decide)]
    exact resR_err (prod_err (by decide) _ _) (by decide)
theorem isZ_val {s : ByteArray} (h : validB s = true) : isZ s = decide (nv s = 0) := by
  rw [nS_of h, isZ_nS, ← nS_of h]; rfl
theorem make_is (neg : Bool) (num den : ByteArray) : resR (redR (reqR (reqR 0 (validB num && validB den) 1) (!isZ den) 14) neg num den) = makeE neg num den := by
  unfold makeE
  by_cases h : (validB num && validB den) = true
  · rw [req_ok h, if_pos h]
    rw [Bool.and_eq_true] at h
    rw [isZ_val h.2]
    by_cases h0 : nv den = 0
    · rw [if_pos h0, decide_eq_true h0, req_bad (c := !true) rfl]
      exact resR_err (red_err (by decide) _ _ _) (by decide)
    · rw [if_neg h0, decide_eq_false h0, req_ok (c := !false) rfl]
      have e1 : num = nS (nv num) := nS_of h.1
      have e2 : den = nS (nv den) := nS_of h.2
      have := redS (neg := neg) (n := nv num) (d := nv den) (by show _ ≤ _; rw [← e1]; exact valid_size h.1) (by show _ ≤ _; rw [← e2]; exact valid_size h.2) h0
      rw [← e1, ← e2] at this
      rw [this]; rfl
  · have hc := Bool.eq_false_iff.2 h
    rw [req_bad hc, if_neg h, req_err (by decide)]
    exact resR_err (red_err (by decide) _ _ _) (by decide)
theorem valid_is (r : Raw) : okR r = (decide ((gcdR r.num r.den).2 = 0) && (isO (gcdR r.num r.den).1 && (!isZ r.den && !(r.neg && isZ r.num)))) := by
  unfold okR okQB gcdR
  by_cases h1 : validB r.num = true
  · by_cases h2 : validB r.den = true
    · have h3 : (validB r.num && validB r.den) = true := by rw [h1, h2]; rfl
      rw [if_pos h3, h1, h2, isZ_val h1, isZ_val h2, isO_nS]
      show (true && (true && (decide (0 < nv r.den) && (decide (Nat.gcd (nv r.num) (nv r.den) = 1) && (decide (nv r.num ≠ 0) || !r.neg))))) = _
      have e1 : decide (0 < nv r.den) = !decide (nv r.den = 0) := by
        by_cases h : nv r.den = 0
        · rw [h]; rfl
        · rw [decide_eq_true (by omega : 0 < nv r.den), decide_eq_false h]; rfl
      have e2 : decide (nv r.num ≠ 0) = !decide (nv r.num = 0) := by simp
      have e3 : decide ((0 : Int) = 0) = true := rfl
      rw [e1, e2]
      show _ = (decide ((0 : Int) = 0) && _)
      rw [e3]
      simp only [Bool.true_and]
      generalize decide (nv r.den = 0) = x
      generalize decide (nv r.num = 0) = y
      generalize hz : decide (Nat.gcd (nv r.num) (nv r.den) = 1) = z
      have hz' : decide (Nat.gcd (Dec.val (tl r.num)) (Dec.val (tl r.den)) = 1) = z := hz
      rw [hz']
      cases x <;> cases y <;> cases z <;> cases r.neg <;> rfl
    · have h2 := Bool.eq_false_iff.2 h2
      rw [h1, h2]; rfl
  · have h1 := Bool.eq_false_iff.2 h1
    rw [h1]; rfl
end Go.Proofs.YtbcoblpnihdhgaaDoor.Rt
