/-
  The chapter's examples of layer 5, as the answers have them.
-/
import Derived.Test.YtbcoblpnihdhgaaDoorIvLaw
namespace Go.Proofs.YtbcoblpnihdhgaaDoor.Rt
/-- the interval of two quotients -/
def iv (a b c d : Int) : Iv := ⟨(ofE a b).1, (ofE c d).1⟩
theorem iv_is {a b c d : Int} {x y : Q} (hb : b ≠ 0) (hd : d ≠ 0) (hx : ofQ a b = x) (hy : ofQ c d = y) : iv a b c d = ⟨x.raw, y.raw⟩ := by
  unfold iv; rw [ofE_val hb, ofE_val hd, hx, hy]
theorem sm_in {x : Q} (h : okQB x = true) (h1 : x.num < 10 ^ 2) (h2 : x.den < 10 ^ 2) : In 2 x := ⟨okQB_iff.1 h, h1, h2⟩
theorem sm_ok {x : Q} (h : In 2 x) : okR x.raw = true := h.okR (by decide) (by decide)
theorem okI_val {x y : Q} (hx : In 2 x) (hy : In 2 y) : okI ⟨x.raw, y.raw⟩ = decide (cmpQ x y ≤ 0) := by
  unfold okI; simp only [sm_ok hx, sm_ok hy, cmpE_val (sm_ok hx) (sm_ok hy), Bool.true_and]
theorem minR_lt {x y : Q} (hx : In 2 x) (hy : In 2 y) (h : cmpQ y x < 0) : minR x.raw y.raw = y.raw := by
  unfold minR; rw [cmpE_val (sm_ok hy) (sm_ok hx), if_pos h]
theorem minR_ge {x y : Q} (hx : In 2 x) (hy : In 2 y) (h : ¬ cmpQ y x < 0) : minR x.raw y.raw = x.raw := by
  unfold minR; rw [cmpE_val (sm_ok hy) (sm_ok hx), if_neg h]
theorem maxR_lt {x y : Q} (hx : In 2 x) (hy : In 2 y) (h : 0 < cmpQ y x) : maxR x.raw y.raw = y.raw := by
  unfold maxR; rw [cmpE_val (sm_ok hy) (sm_ok hx), if_pos h]
theorem maxR_ge {x y : Q} (hx : In 2 x) (hy : In 2 y) (h : ¬ 0 < cmpQ y x) : maxR x.raw y.raw = x.raw := by
  unfold maxR; rw [cmpE_val (sm_ok hy) (sm_ok hx), if_neg h]
theorem add_q {x y z : Q} (hx : In 2 x) (hy : In 2 y) (h : addQ x y = z) : addE x.raw y.raw = (z.raw, 0) := by
  rw [vAdd hx hy (by decide) (by decide) (by decide), h]
theorem mul_q {x y z : Q} (hx : In 2 x) (hy : In 2 y) (h : mulQ x y = z) : mulE x.raw y.raw = (z.raw, 0) := by
  rw [vMul hx hy (by decide) (by decide) (by decide), h]
abbrev qn (n : Nat) : Q := ⟨false, n, 1⟩
abbrev qm (n : Nat) : Q := ⟨true, n, 1⟩
abbrev qh : Q := ⟨false, 1, 2⟩
theorem qn_in (n : Nat) (h : n < 100) : In 2 (qn n) := sm_in (by simp [okQB]) (by simpa using h) (by simp)
theorem qm_in (n : Nat) (h : n < 100) (h0 : n ≠ 0) : In 2 (qm n) := sm_in (by simp [okQB, h0]) (by simpa using h) (by simp)
theorem qh_in : In 2 qh := sm_in (by decide) (by decide) (by decide)
theorem e_add : addI (iv 1 2 1 1) (iv (-1) 1 2 1) = (iv (-1) 2 3 1, 0) := by
  rw [iv_is (x := qh) (y := qn 1) (by decide) (by decide) rfl rfl, iv_is (x := qm 1) (y := qn 2) (by decide) (by decide) rfl rfl, iv_is (x := ⟨true, 1, 2⟩) (y := qn 3) (by decide) (by decide) rfl rfl]
  unfold addI
  rw [okI_val qh_in (qn_in 1 (by decide)), okI_val (qm_in 1 (by decide) (by decide)) (qn_in 2 (by decide)), if_pos (by decide)]
  simp only
  rw [add_q qh_in (qm_in 1 (by decide) (by decide)) (z := ⟨true, 1, 2⟩) rfl, add_q (qn_in 1 (by decide)) (qn_in 2 (by decide)) (z := qn 3) rfl]
  rfl
theorem e_mul : mulI (iv (-2) 1 3 1) (iv (-1) 1 4 1) = (iv (-8) 1 12 1, 0) := by
  rw [iv_is (x := qm 2) (y := qn 3) (by decide) (by decide) rfl rfl, iv_is (x := qm 1) (y := qn 4) (by decide) (by decide) rfl rfl, iv_is (x := qm 8) (y := qn 12) (by decide) (by decide) rfl rfl]
  unfold mulI lowM highM
  rw [okI_val (qm_in 2 (by decide) (by decide)) (qn_in 3 (by decide)), okI_val (qm_in 1 (by decide) (by decide)) (qn_in 4 (by decide)), if_pos (by decide)]
  simp only
  rw [mul_q (qm_in 2 (by decide) (by decide)) (qm_in 1 (by decide) (by decide)) (z := qn 2) rfl, mul_q (qm_in 2 (by decide) (by decide)) (qn_in 4 (by decide)) (z := qm 8) rfl,
    mul_q (qn_in 3 (by decide)) (qm_in 1 (by decide) (by decide)) (z := qm 3) rfl, mul_q (qn_in 3 (by decide)) (qn_in 4 (by decide)) (z := qn 12) rfl]
  simp only [and_self, if_true]
  rw [minR_lt (qn_in 2 (by decide)) (qm_in 8 (by decide) (by decide)) (by decide), maxR_ge (qn_in 2 (by decide)) (qm_in 8 (by decide) (by decide)) (by decide), minR_ge (qm_in 8 (by decide) (by decide)) (qm_in 3 (by decide) (by decide)) (by decide), maxR_ge (qn_in 2 (by decide)) (qm_in 3 (by decide) (by decide)) (by decide), minR_ge (qm_in 8 (by decide) (by decide)) (qn_in 12 (by decide)) (by decide), maxR_lt (qn_in 2 (by decide)) (qn_in 12 (by decide)) (by decide)]
theorem e_hull : hullI [iv 1 1 2 1, iv 5 1 6 1, iv 0 1 1 2] = (iv 0 1 6 1, 0) := by
  rw [iv_is (x := qn 1) (y := qn 2) (by decide) (by decide) rfl rfl, iv_is (x := qn 5) (y := qn 6) (by decide) (by decide) rfl rfl, iv_is (x := qn 0) (y := qh) (by decide) (by decide) rfl rfl, iv_is (x := qn 0) (y := qn 6) (by decide) (by decide) rfl rfl]
  have o1 : okI ⟨(qn 1).raw, (qn 2).raw⟩ = true := by rw [okI_val (qn_in 1 (by decide)) (qn_in 2 (by decide))]; decide
  have o2 : okI ⟨(qn 5).raw, (qn 6).raw⟩ = true := by rw [okI_val (qn_in 5 (by decide)) (qn_in 6 (by decide))]; decide
  have o3 : okI ⟨(qn 0).raw, qh.raw⟩ = true := by rw [okI_val (qn_in 0 (by decide)) qh_in]; decide
  unfold hullI
  rw [if_neg (by simp)]
  simp only [List.all_cons, List.all_nil, o1, o2, o3, Bool.and_self, if_true, List.foldl_cons, List.foldl_nil, joinI]
  rw [minR_ge (qn_in 1 (by decide)) (qn_in 5 (by decide)) (by decide), maxR_lt (qn_in 2 (by decide)) (qn_in 6 (by decide)) (by decide), minR_lt (qn_in 1 (by decide)) (qn_in 0 (by decide)) (by decide), maxR_ge (qn_in 6 (by decide)) qh_in (by decide)]
theorem e_none : hullI [] = (noI, 10) := rfl
theorem e_meet : meetI (iv 0 1 2 1) (iv 2 1 3 1) = (iv 2 1 2 1, true) := by
  rw [iv_is (x := qn 0) (y := qn 2) (by decide) (by decide) rfl rfl, iv_is (x := qn 2) (y := qn 3) (by decide) (by decide) rfl rfl, iv_is (x := qn 2) (y := qn 2) (by decide) (by decide) rfl rfl]
  unfold meetI cutI
  rw [okI_val (qn_in 0 (by decide)) (qn_in 2 (by decide)), okI_val (qn_in 2 (by decide)) (qn_in 3 (by decide)), if_pos (by decide)]
  simp only
  rw [maxR_lt (qn_in 0 (by decide)) (qn_in 2 (by decide)) (by decide), minR_ge (qn_in 2 (by decide)) (qn_in 3 (by decide)) (by decide), okI_val (qn_in 2 (by decide)) (qn_in 2 (by decide)), if_pos (by decide)]
theorem e_apart : meetI (iv 0 1 1 1) (iv 2 1 3 1) = (noI, false) := by
  rw [iv_is (x := qn 0) (y := qn 1) (by decide) (by decide) rfl rfl, iv_is (x := qn 2) (y := qn 3) (by decide) (by decide) rfl rfl]
  unfold meetI cutI
  rw [okI_val (qn_in 0 (by decide)) (qn_in 1 (by decide)), okI_val (qn_in 2 (by decide)) (qn_in 3 (by decide)), if_pos (by decide)]
  simp only
  rw [maxR_lt (qn_in 0 (by decide)) (qn_in 2 (by decide)) (by decide), minR_ge (qn_in 1 (by decide)) (qn_in 3 (by decide)) (by decide), okI_val (qn_in 2 (by decide)) (qn_in 1 (by decide)), if_neg (by decide)]
theorem e_ok : okI (iv 1 1 1 1) = true := by
  rw [iv_is (x := qn 1) (y := qn 1) (by decide) (by decide) rfl rfl, okI_val (qn_in 1 (by decide)) (qn_in 1 (by decide))]; decide
theorem e_no : okI (iv 2 1 1 1) = false := by
  rw [iv_is (x := qn 2) (y := qn 1) (by decide) (by decide) rfl rfl, okI_val (qn_in 2 (by decide)) (qn_in 1 (by decide))]; decide
theorem e_zero : okI noI = false := by unfold okI noI; rw [okR_no]; rfl
theorem e_has : hasI (iv 0 1 2 1) (iv 1 3 1 1).low = true := by
  have e : (iv 1 3 1 1).low = (⟨false, 1, 3⟩ : Q).raw := by rw [iv_is (x := ⟨false, 1, 3⟩) (y := qn 1) (by decide) (by decide) rfl rfl]
  have h3 : In 2 (⟨false, 1, 3⟩ : Q) := sm_in (by decide) (by decide) (by decide)
  rw [e, iv_is (x := qn 0) (y := qn 2) (by decide) (by decide) rfl rfl]
  unfold hasI
  rw [okI_val (qn_in 0 (by decide)) (qn_in 2 (by decide)), sm_ok h3, cmpE_val (sm_ok (qn_in 0 (by decide))) (sm_ok h3), cmpE_val (sm_ok h3) (sm_ok (qn_in 2 (by decide)))]
  decide
end Go.Proofs.YtbcoblpnihdhgaaDoor.Rt
