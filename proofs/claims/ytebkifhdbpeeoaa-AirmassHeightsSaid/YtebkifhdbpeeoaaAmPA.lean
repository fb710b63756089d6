/-
  The program's airmass (layer 11): hour angles, heights, airmasses.
-/
import Derived.Test.YtebkifhdbpeeoaaAmRefB
import Derived.Test.YtebkifhdbpeeoaaSkPB
set_option linter.unusedVariables false
set_option maxRecDepth 100000
namespace Go.Proofs.Ytebkifhdbpeeoaa.Am
open Go.RowKit
open Ca (sid sid_lt)
theorem pabs_any (n : Int) (h : -1000000 ≤ n ∧ n ≤ 1000000) (w : World) : Calls Try.prog 42 #[.int .i64 n] w fun e w' => e = .returned (.int .i64 ((n.natAbs : Nat) : Int)) ∧ w = w' := by
  have e1 : IntKind.i64.wrap (-n) = -n := IntWalk.i64_in _ (by omega)
  have e2 : max n (-n) = ((n.natAbs : Nat) : Int) := by omega
  go_enter Try.func42, Try.ntmps42
  go_wp2_with fail
  go_ret
  exact ⟨rfl, rfl⟩
theorem pband_any (x : Int) (b : Nat) (hb : b < 16) (w : World) : Calls Try.prog 31 #[.agg #[.int .i64 x, .int .i64 ((b * 180 + 90 : Nat) : Int)]] w fun e w' => e = .returned (.int .i64 (b : Int)) ∧ Below w.heap.size w w' := by
  obtain ⟨y, hy⟩ : ∃ y : Int, y = ((b * 180 + 90 : Nat) : Int) := ⟨_, rfl⟩
  have HY : Hid (y.tdiv 180 = (b : Int)) := Lib.hid (by rw [Int.tdiv_eq_ediv_of_nonneg (by omega)]; omega)
  rw [← hy]
  clear hy
  have t1 := HY.out
  have D := Lib.hid ((Below.refl w.heap.size w).alloc (Nat.le_refl _) (Obj.cells #[.int .i64 x, .int .i64 y] 43))
  have f1 : IntKind.i64.wrap (b : Int) = (b : Int) := IntWalk.i64_in _ (by omega)
  go_enter Try.func31, Try.ntmps31
  go_wp2_with fail
  go_ret
  exact ⟨rfl, D.out⟩
theorem pheight_any (b : Int) (h : Int) (hb : -100 ≤ b ∧ b ≤ 100) (hh : -10000 ≤ h ∧ h ≤ 10000) (w : World) : Calls Try.prog 30 #[.int .i64 b, .int .i64 h] w fun e w' => e = .returned (.int .i64 (htA b.natAbs h)) ∧ Below w.heap.size w w' := by
  have c1 := Lib.hid (fun w => pabs_any b ⟨by omega, by omega⟩ w)
  have c2 := Lib.hid (fun w => pabs_any h ⟨by omega, by omega⟩ w)
  have D := Lib.hid (Below.refl w.heap.size w)
  obtain ⟨x, hx⟩ : ∃ x, x = b.natAbs := ⟨_, rfl⟩
  obtain ⟨y, hy⟩ : ∃ y, y = h.natAbs := ⟨_, rfl⟩
  have HV : Hid (htA b.natAbs h = 900 - 50 * (x : Int) - ((5 * y / 16 : Nat) : Int)) := Lib.hid (by rw [hx, hy]; rfl)
  rw [HV.out]
  rw [← hx] at c1
  rw [← hy] at c2
  have hx2 : x ≤ 100 := by omega
  have hy2 : y ≤ 10000 := by omega
  have f1 : IntKind.i64.wrap (50 * (x : Int)) = 50 * (x : Int) := IntWalk.i64_in _ (by omega)
  have f2 : IntKind.i64.wrap (900 - 50 * (x : Int)) = 900 - 50 * (x : Int) := IntWalk.i64_in _ (by omega)
  have f3 : IntKind.i64.wrap (5 * (y : Int)) = 5 * (y : Int) := IntWalk.i64_in _ (by omega)
  have t1 : (5 * (y : Int)).tdiv 16 = ((5 * y / 16 : Nat) : Int) := by rw [Int.tdiv_eq_ediv_of_nonneg (by omega)]; omega
  have f4 : IntKind.i64.wrap ((5 * y / 16 : Nat) : Int) = ((5 * y / 16 : Nat) : Int) := IntWalk.i64_in _ (by omega)
  have f5 : IntKind.i64.wrap (900 - 50 * (x : Int) - ((5 * y / 16 : Nat) : Int)) = 900 - 50 * (x : Int) - ((5 * y / 16 : Nat) : Int) := IntWalk.i64_in _ (by omega)
  generalize ((5 * y / 16 : Nat) : Int) = q at t1 f4 f5 ⊢
  clear HV hx hy hx2 hy2
  go_enter Try.func30, Try.ntmps30
  go_wp2_with fail
  refine (c1.out _).mono ?_
  rintro e w1 ⟨rfl, rfl⟩
  go_wp2_with fail
  refine (c2.out _).mono ?_
  rintro e w1 ⟨rfl, rfl⟩
  go_wp2_with fail
  go_ret
  exact ⟨rfl, D.out⟩
theorem phour_any (c : Nat) (y m : Int) (hc : c < 32) (hm : I64 m) (w : World) : Calls Try.prog 27 #[.agg #[.int .i64 ((c * 180 + 90 : Nat) : Int), .int .i64 y], .int .i64 m] w (GivesN (if isM m then hr (sid m.toNat) c else 0) (if isM m then 0 else 1) w) := by
  have cS := Lib.hid (fun w => pSidereal_any m hm w)
  obtain ⟨x, hx⟩ : ∃ x : Int, x = ((c * 180 + 90 : Nat) : Int) := ⟨_, rfl⟩
  rw [← hx]
  cases h : isM m with
  | false =>
    have e1 : sidA m = (0, 1) := by unfold sidA; rw [h]; rfl
    rw [e1] at cS
    clear h e1 hx hm
    go_enter Try.func27, Try.ntmps27
    have D := Lib.hid ((Below.refl w.heap.size w).alloc (Nat.le_refl _) (Obj.cells #[.int .i64 x, .int .i64 y] 43))
    go_wp2_with fail
    refine (cS.out _).mono ?_
    rintro e w1 ⟨rfl, hb⟩
    have D1 := Lib.hid (D.out.trans (hb.mono D.out.size))
    clear hb
    go_wp2_with fail
    go_ret2
    exact ⟨rfl, D1.out⟩
  | true =>
    obtain ⟨k, rfl, hk⟩ := isM_yes h
    rw [sidA_ok hk] at cS
    have hs := sid_lt k
    have HE : Hid ((if true = true then hr (sid (k : Int).toNat) c else 0) = hr (sid k) c) := Lib.hid rfl
    rw [HE.out]
    clear h hm HE
    generalize sid k = s at cS hs ⊢
    have f1 : IntKind.i64.wrap ((s : Int) - x) = (s : Int) - x := IntWalk.i64_in _ (by omega)
    have f2 : IntKind.i64.wrap ((s : Int) - x + 2880) = (s : Int) - x + 2880 := IntWalk.i64_in _ (by omega)
    have f3 : IntKind.i64.wrap ((s : Int) - x + 2880 + 5760) = (s : Int) - x + 2880 + 5760 := IntWalk.i64_in _ (by omega)
    obtain ⟨q, hq⟩ : ∃ q : Int, q = ((s : Int) - x + 2880 + 5760) % 5760 := ⟨_, rfl⟩
    have f4 : ((s : Int) - x + 2880 + 5760).tmod 5760 = q := by rw [Int.tmod_eq_emod_of_nonneg (by omega), hq]
    have hq1 : 0 ≤ q ∧ q < 5760 := by omega
    have f5 : IntKind.i64.wrap q = q := IntWalk.i64_in _ (by omega)
    have f6 : IntKind.i64.wrap (q - 2880) = q - 2880 := IntWalk.i64_in _ (by omega)
    have HV : Hid (hr s c = q - 2880) := Lib.hid (by have := hr_cases s c; omega)
    rw [HV.out]
    have D := Lib.hid ((Below.refl w.heap.size w).alloc (Nat.le_refl _) (Obj.cells #[.int .i64 x, .int .i64 y] 43))
    have P := Lib.hid (Sk.PosAt.new w x y)
    clear hx hq hq1 HV hs hk
    go_enter Try.func27, Try.ntmps27
    go_wp2_with fail
    refine (cS.out _).mono ?_
    rintro e w1 ⟨rfl, hb⟩
    have D1 := Lib.hid (D.out.trans (hb.mono D.out.size))
    have P1 := Lib.hid (P.out.bel hb)
    have c0 := P1.out.c0
    clear hb
    go_wp2_with fail
    go_ret2
    exact ⟨rfl, D1.out⟩
theorem pHour_bad (c m : Int) (hc : I64 c) (h : okC c = false) (w : World) : Calls Try.prog 11 #[.int .i64 c, .int .i64 m] w (GivesN 0 1 w) := by
  have cC := Lib.hid (fun w => Sk.pCentre_any c ⟨hc.1, hc.2⟩ w)
  cases ht : Sk.isT c with
  | false =>
    have e1 : Sk.cenA c = (0, 0, 1) := by unfold Sk.cenA; rw [ht]; rfl
    rw [e1] at cC
    clear hc h ht e1
    go_enter Try.func11, Try.ntmps11
    go_wp2_with fail
    refine (cC.out _).mono ?_
    rintro e w1 ⟨rfl, hb⟩
    have D1 := Lib.hid (hb.alloc hb.size (Obj.cells #[.int .i64 0, .int .i64 0] 43))
    clear hb
    go_wp2_with fail
    go_ret2
    exact ⟨rfl, D1.out⟩
  | true =>
    obtain ⟨k, rfl, hk⟩ := Sk.isT_yes ht
    rw [Sk.cenA_ok hk] at cC
    simp only [okC, decide_eq_false_iff_not] at h
    have t1 : decide ((32 : Int) ≤ (k : Int)) = true := decide_eq_true (by omega)
    generalize ((k % 32 * 180 + 90 : Nat) : Int) = x at cC
    generalize ((k / 32 * 180 + 90 : Nat) : Int) = y at cC
    clear hc h ht hk
    go_enter Try.func11, Try.ntmps11
    go_wp2_with fail
    refine (cC.out _).mono ?_
    rintro e w1 ⟨rfl, hb⟩
    have D1 := Lib.hid (hb.alloc hb.size (Obj.cells #[.int .i64 x, .int .i64 y] 43))
    clear hb
    go_wp2_with fail
    go_ret2
    exact ⟨rfl, D1.out⟩
theorem pHour_any (c m : Int) (hc : I64 c) (hm : I64 m) (w : World) : Calls Try.prog 11 #[.int .i64 c, .int .i64 m] w (GivesN (horA c m).1 (horA c m).2 w) := by
  cases h : okC c with
  | false =>
    have e1 : horA c m = (0, 1) := by unfold horA; rw [h]; rfl
    rw [e1]
    exact pHour_bad c m hc h w
  | true =>
    obtain ⟨k, rfl, hk⟩ := okC_yes h
    have cC := Lib.hid (fun w => Sk.pCentre_any (k : Int) ⟨hc.1, hc.2⟩ w)
    rw [Sk.cenA_ok (by omega), show k % 32 = k by omega] at cC
    have HV : Hid ((horA (k : Int) m).1 = (if isM m then hr (sid m.toNat) k else 0) ∧ (horA (k : Int) m).2 = (if isM m then 0 else 1)) := Lib.hid (by
      unfold horA; rw [h]; cases isM m <;> exact ⟨rfl, rfl⟩)
    generalize horA (k : Int) m = A at HV ⊢
    obtain ⟨a1, a2⟩ := A
    have cH := Lib.hid (fun w => phour_any k ((k / 32 * 180 + 90 : Nat) : Int) m hk hm w)
    rw [← HV.out.1, ← HV.out.2] at cH
    generalize ((k * 180 + 90 : Nat) : Int) = x at cC cH
    generalize ((k / 32 * 180 + 90 : Nat) : Int) = y at cC cH
    have t1 : decide ((32 : Int) ≤ (k : Int)) = false := decide_eq_false (by omega)
    clear HV h hc hm hk
    go_enter Try.func11, Try.ntmps11
    go_wp2_with fail
    refine (cC.out _).mono ?_
    rintro e w1 ⟨rfl, hb⟩
    have D1 := Lib.hid (hb.alloc hb.size (Obj.cells #[.int .i64 x, .int .i64 y] 43))
    have P1 := Lib.hid (Sk.PosAt.new w1 x y)
    have c0 := P1.out.c0
    have c1 := P1.out.c1
    clear hb
    go_wp2_with fail
    refine (cH.out _).mono ?_
    rintro e w2 ⟨rfl, hb⟩
    have D2 := Lib.hid (D1.out.trans (hb.mono D1.out.size))
    clear hb
    go_wp2_with fail
    go_ret2
    exact ⟨rfl, D2.out⟩
theorem pHeight_bad (s t m : Int) (ht : I64 t) (h : okT t = true → okS s = false) (w : World) : Calls Try.prog 13 #[.int .i64 s, .int .i64 t, .int .i64 m] w (GivesN 0 1 w) := by
  have cC := Lib.hid (fun w => Sk.pCentre_any t ⟨ht.1, ht.2⟩ w)
  cases hT : Sk.isT t with
  | false =>
    have e1 : Sk.cenA t = (0, 0, 1) := by unfold Sk.cenA; rw [hT]; rfl
    rw [e1] at cC
    clear ht h hT e1
    go_enter Try.func13, Try.ntmps13
    go_wp2_with fail
    refine (cC.out _).mono ?_
    rintro e w1 ⟨rfl, hb⟩
    have D1 := Lib.hid (hb.alloc hb.size (Obj.cells #[.int .i64 0, .int .i64 0] 43))
    clear hb
    go_wp2_with fail
    go_ret2
    exact ⟨rfl, D1.out⟩
  | true =>
    have h' : ¬ (0 ≤ s ∧ s ≤ 15) := of_decide_eq_false (h hT)
    obtain ⟨k, rfl, hk⟩ := Sk.isT_yes hT
    rw [Sk.cenA_ok hk] at cC
    generalize ((k % 32 * 180 + 90 : Nat) : Int) = x at cC
    generalize ((k / 32 * 180 + 90 : Nat) : Int) = y at cC
    by_cases h0 : s < 0
    · have t1 : decide (s < 0) = true := decide_eq_true h0
      clear ht h h' hT hk h0
      go_enter Try.func13, Try.ntmps13
      go_wp2_with fail
      refine (cC.out _).mono ?_
      rintro e w1 ⟨rfl, hb⟩
      have D1 := Lib.hid (hb.alloc hb.size (Obj.cells #[.int .i64 x, .int .i64 y] 43))
      clear hb
      go_wp2_with fail
      go_ret2
      exact ⟨rfl, D1.out⟩
    · have t1 : decide (s < 0) = false := decide_eq_false h0
      have t2 : decide (16 ≤ s) = true := decide_eq_true (by omega)
      clear ht h h' hT hk h0
      go_enter Try.func13, Try.ntmps13
      go_wp2_with fail
      refine (cC.out _).mono ?_
      rintro e w1 ⟨rfl, hb⟩
      have D1 := Lib.hid (hb.alloc hb.size (Obj.cells #[.int .i64 x, .int .i64 y] 43))
      clear hb
      go_wp2_with fail
      go_ret2
      exact ⟨rfl, D1.out⟩
theorem pHeight_in (s t : Nat) (m : Int) (hs : s < 16) (ht' : t < 512) (hm : I64 m) (w : World) : Calls Try.prog 13 #[.int .i64 (s : Int), .int .i64 (t : Int), .int .i64 m] w (GivesN (if isM m then ht t s m.toNat else 0) (if isM m then 0 else 1) w) := by
  have cC := Lib.hid (fun w => Sk.pCentre_any (t : Int) ⟨by omega, by omega⟩ w)
  rw [Sk.cenA_ok ht'] at cC
  have hb16 : t / 32 < 16 := by omega
  have hc32 : t % 32 < 32 := by omega
  have t1 : decide ((s : Int) < 0) = false := decide_eq_false (by omega)
  have t2 : decide (16 ≤ (s : Int)) = false := decide_eq_false (by omega)
  have cH := Lib.hid (fun w => phour_any (t % 32) ((t / 32 * 180 + 90 : Nat) : Int) m hc32 hm w)
  cases h : isM m with
  | false =>
    rw [h] at cH
    generalize ((t % 32 * 180 + 90 : Nat) : Int) = x at cC cH
    generalize ((t / 32 * 180 + 90 : Nat) : Int) = y at cC cH
    have cH' : Hid (∀ w, Calls Try.prog 27 #[.agg #[.int .i64 x, .int .i64 y], .int .i64 m] w (GivesN 0 1 w)) := cH
    clear cH h hm hs ht' hb16 hc32
    go_enter Try.func13, Try.ntmps13
    go_wp2_with fail
    refine (cC.out _).mono ?_
    rintro e w1 ⟨rfl, hb⟩
    have D1 := Lib.hid (hb.alloc hb.size (Obj.cells #[.int .i64 x, .int .i64 y] 43))
    have P1 := Lib.hid (Sk.PosAt.new w1 x y)
    have c0 := P1.out.c0
    have c1 := P1.out.c1
    clear hb
    go_wp2_with fail
    refine (cH'.out _).mono ?_
    rintro e w2 ⟨rfl, hb⟩
    have D2 := Lib.hid (D1.out.trans (hb.mono D1.out.size))
    clear hb
    go_wp2_with fail
    go_ret2
    exact ⟨rfl, D2.out⟩
  | true =>
    obtain ⟨k, rfl, hk⟩ := isM_yes h
    rw [h] at cH
    obtain ⟨v, hv⟩ : ∃ v, v = hr (sid k) (t % 32) := ⟨_, rfl⟩
    have hvr := hr_range (sid_lt k) hc32
    rw [← hv] at hvr
    have HV : Hid ((if true = true then ht t s (k : Int).toNat else 0) = htA ((t / 32 : Nat) - (s : Int)).natAbs v) := Lib.hid (by
      rw [hv]
      show ht t s k = _
      unfold ht Sk.bnd
      congr 1
      omega)
    rw [HV.out]
    have cH' : Hid (∀ w, Calls Try.prog 27 #[.agg #[.int .i64 ((t % 32 * 180 + 90 : Nat) : Int), .int .i64 ((t / 32 * 180 + 90 : Nat) : Int)], .int .i64 (k : Int)] w (GivesN v 0 w)) := Lib.hid (by rw [hv]; exact cH.out)
    have cB := Lib.hid (fun w => pband_any ((t % 32 * 180 + 90 : Nat) : Int) (t / 32) hb16 w)
    have cT := Lib.hid (fun w => pheight_any ((t / 32 : Nat) - (s : Int)) v ⟨by omega, by omega⟩ ⟨by omega, by omega⟩ w)
    generalize htA ((t / 32 : Nat) - (s : Int)).natAbs v = H at cT ⊢
    have f1 : IntKind.i64.wrap (((t / 32 : Nat) : Int) - (s : Int)) = ((t / 32 : Nat) : Int) - (s : Int) := IntWalk.i64_in _ (by omega)
    generalize ((t % 32 * 180 + 90 : Nat) : Int) = x at cC cH' cB
    generalize ((t / 32 * 180 + 90 : Nat) : Int) = y at cC cH' cB
    generalize ((t / 32 : Nat) : Int) = b at cB cT f1
    clear cH h hm hs ht' hb16 hc32 hv hvr HV hk
    go_enter Try.func13, Try.ntmps13
    go_wp2_with fail
    refine (cC.out _).mono ?_
    rintro e w1 ⟨rfl, hb⟩
    have D1 := Lib.hid (hb.alloc hb.size (Obj.cells #[.int .i64 x, .int .i64 y] 43))
    have P1 := Lib.hid (Sk.PosAt.new w1 x y)
    have c0 := P1.out.c0
    have c1 := P1.out.c1
    clear hb
    go_wp2_with fail
    refine (cH'.out _).mono ?_
    rintro e w2 ⟨rfl, hb⟩
    have D2 := Lib.hid (D1.out.trans (hb.mono D1.out.size))
    have P2 := Lib.hid (P1.out.bel hb)
    have d0 := P2.out.c0
    have d1 := P2.out.c1
    clear hb c0 c1
    go_wp2_with fail
    refine (cB.out _).mono ?_
    rintro e w3 ⟨rfl, hb⟩
    have D3 := Lib.hid (D2.out.trans (hb.mono D2.out.size))
    clear hb
    go_wp2_with fail
    refine (cT.out _).mono ?_
    rintro e w4 ⟨rfl, hb⟩
    have D4 := Lib.hid (D3.out.trans (hb.mono D3.out.size))
    clear hb
    go_wp2_with fail
    go_ret2
    exact ⟨rfl, D4.out⟩
theorem pHeight_any (s t m : Int) (hs : I64 s) (ht : I64 t) (hm : I64 m) (w : World) : Calls Try.prog 13 #[.int .i64 s, .int .i64 t, .int .i64 m] w (GivesN (heiA s t m).1 (heiA s t m).2 w) := by
  cases h : okS s && okT t with
  | false =>
    have e1 : heiA s t m = (0, 1) := by unfold heiA; rw [h]; rfl
    rw [e1]
    exact pHeight_bad s t m ht (fun h1 => by rw [h1] at h; simpa using h) w
  | true =>
    rw [Bool.and_eq_true] at h
    obtain ⟨a, rfl, ha⟩ := okS_yes h.1
    obtain ⟨b, rfl, hb⟩ := okT_yes h.2
    have := pHeight_in a b m ha hb hm w
    have e : heiA (a : Int) (b : Int) m = (if isM m then Am.ht b a m.toNat else 0, if isM m then 0 else 1) := by
      unfold heiA; rw [h.1, h.2]; cases isM m <;> rfl
    rw [e]; exact this
theorem pAirmass_any (n : Int) (hn : I64 n) (w : World) : Calls Try.prog 15 #[.int .i64 n] w (GivesN (airA n).1 (airA n).2 w) := by
  have D := Lib.hid (Below.refl w.heap.size w)
  by_cases h1 : 900 < n
  · have e : airA n = (0, 1) := by unfold airA; rw [if_pos h1]
    have t1 : decide (900 < n) = true := decide_eq_true h1
    rw [e]
    clear hn h1 e
    go_enter Try.func15, Try.ntmps15
    go_wp2_with fail
    go_ret2
    exact ⟨rfl, D.out⟩
  · have t1 : decide (900 < n) = false := decide_eq_false h1
    by_cases h2 : n < 100
    · have e : airA n = (0, 19) := by unfold airA; rw [if_neg h1, if_pos h2]
      have t2 : decide (n < 100) = true := decide_eq_true h2
      rw [e]
      clear hn h1 h2 e
      go_enter Try.func15, Try.ntmps15
      go_wp2_with fail
      go_ret2
      exact ⟨rfl, D.out⟩
    · have t2 : decide (n < 100) = false := decide_eq_false h2
      obtain ⟨q, hq⟩ : ∃ q, q = 900000 / n := ⟨_, rfl⟩
      have HA : Hid (airA n = (q, 0)) := Lib.hid (by unfold airA; rw [if_neg h1, if_neg h2, hq])
      have f1 : (900000 : Int).tdiv n = q := by rw [Int.tdiv_eq_ediv_of_nonneg (by omega), hq]
      have hq1 : 0 ≤ q ∧ q ≤ 900000 := by rw [hq]; exact ⟨Int.ediv_nonneg (by omega) (by omega), Int.ediv_le_self _ (by omega)⟩
      have f2 : IntKind.i64.wrap q = q := IntWalk.i64_in _ (by omega)
      have hn0 : (n == 0) = false := by rw [beq_eq_false_iff_ne]; omega
      have hn1 : ¬ n = 0 := by omega
      rw [HA.out]
      clear hq hq1 HA hn h1 h2
      go_enter Try.func15, Try.ntmps15
      go_wp2_with fail
      go_ret2
      exact ⟨rfl, D.out⟩
end Go.Proofs.Ytebkifhdbpeeoaa.Am
