/-
  The program's sky (layer 10): Near.
-/
import Derived.Test.YtaebejhncjadhaaSkPD
set_option linter.unusedVariables false
set_option maxRecDepth 100000
namespace Go.Proofs.Ytaebejhncjadhaa.Sk
open Go.RowKit
theorem pNear_bad (t r : Int) (w : World) (h : isT t = true → okR r = false) : Calls Try.prog 17 #[.int .i64 t, .int .i64 r] w (GivesL [] 1 w) := by
  cases ht : isT t with
  | false =>
    have cU := Lib.hid (fun w => pplace_no t ht w)
    clear h ht
    go_enter Try.func17, Try.ntmps17
    go_wp2_with fail
    refine (cU.out _).mono ?_
    rintro e w1 ⟨rfl, hb⟩
    have D1 := Lib.hid (hb.alloc hb.size (Obj.cells #[.int .i64 0, .int .i64 0] 44))
    clear hb
    go_wp2_with fail
    go_ret2
    exact ⟨_, rfl, list_nil _, D1.out⟩
  | true =>
    have h2 := h ht
    obtain ⟨t, rfl, hk⟩ := isT_yes ht
    have cU := Lib.hid (fun w => pplace_ok t hk w)
    generalize ((t % 32 : Nat) : Int) = c at cU
    generalize ((t / 32 : Nat) : Int) = b at cU
    simp only [okR, decide_eq_false_iff_not] at h2
    clear h ht hk
    by_cases h0 : r < 0
    · have t1 : decide (r < 0) = true := decide_eq_true h0
      clear h0 h2
      go_enter Try.func17, Try.ntmps17
      go_wp2_with fail
      refine (cU.out _).mono ?_
      rintro e w1 ⟨rfl, hb⟩
      have D1 := Lib.hid (hb.alloc hb.size (Obj.cells #[.int .i64 c, .int .i64 b] 44))
      clear hb
      go_wp2_with fail
      go_ret2
      exact ⟨_, rfl, list_nil _, D1.out⟩
    · have t1 : decide (r < 0) = false := decide_eq_false h0
      have t2 : decide (32 ≤ r) = true := decide_eq_true (by omega)
      clear h0 h2
      go_enter Try.func17, Try.ntmps17
      go_wp2_with fail
      refine (cU.out _).mono ?_
      rintro e w1 ⟨rfl, hb⟩
      have D1 := Lib.hid (hb.alloc hb.size (Obj.cells #[.int .i64 c, .int .i64 b] 44))
      clear hb
      go_wp2_with fail
      go_ret2
      exact ⟨_, rfl, list_nil _, D1.out⟩
/-- what has been gone through up to column j of band d -/
def goneI (t r d j : Nat) : List Int := intsN (rAll t r (min (2 * r + 1) 32) d ++ rRow t r d j)
theorem gone_zero (t r d : Nat) : goneI t r d 0 = intsN (rAll t r (min (2 * r + 1) 32) d) := by simp [goneI, rRow]
theorem gone_full (t r d : Nat) : goneI t r d (min (2 * r + 1) 32) = intsN (rAll t r (min (2 * r + 1) 32) (d + 1)) := rfl
theorem gone_yes {t r d j : Nat} (h : rOk t r d = true) : goneI t r d (j + 1) = goneI t r d j ++ [((rTile t r d j : Nat) : Int)] := by
  simp [goneI, rRow, h, intsN]
theorem gone_no {t r d j : Nat} (h : rOk t r d = false) : goneI t r d (j + 1) = goneI t r d j := by
  simp [goneI, rRow, h]
theorem gone_len (t r d j : Nat) : (goneI t r d j).length ≤ d * 32 + j := by
  have h1 := rAll_len t r (min (2 * r + 1) 32) d
  have h2 := rRow_len t r d j
  have h3 : d * min (2 * r + 1) 32 ≤ d * 32 := Nat.mul_le_mul_left _ (Nat.min_le_right _ _)
  rw [goneI, intsN_len, List.length_append]
  omega
set_option maxHeartbeats 4000000 in
theorem pNear_ok (t r : Nat) (ht : t < 512) (hr : r ≤ 31) (w : World) : Calls Try.prog 17 #[.int .i64 (t : Int), .int .i64 (r : Int)] w (GivesL (intsN (nea t r)) 0 w) := by
  have cU := Lib.hid (fun w => pplace_ok t ht w)
  have t1 : decide ((r : Int) < 0) = false := decide_eq_false (by omega)
  have t2 : decide (32 ≤ (r : Int)) = false := decide_eq_false (by omega)
  have t3 : decide (32 ≤ r) = false := decide_eq_false (by omega)
  have f1 : IntKind.i64.wrap (2 * (r : Int)) = 2 * (r : Int) := IntWalk.i64_in _ (by omega)
  have f2 : IntKind.i64.wrap (2 * (r : Int) + 1) = 2 * (r : Int) + 1 := IntWalk.i64_in _ (by omega)
  obtain ⟨c, hc⟩ : ∃ c, c = t % 32 := ⟨_, rfl⟩
  obtain ⟨b, hb0⟩ : ∃ b, b = t / 32 := ⟨_, rfl⟩
  have hc32 : c < 32 := by omega
  have hb16 : b < 16 := by omega
  rw [← hc, ← hb0] at cU
  have HC := Lib.hid hc
  have HB := Lib.hid hb0
  have HT := Lib.hid ht
  clear hc hb0 ht
  go_enter Try.func17, Try.ntmps17
  go_wp2_with fail
  refine (cU.out _).mono ?_
  rintro e w1 ⟨rfl, hb⟩
  have D1 := Lib.hid (hb.alloc hb.size (Obj.cells #[.int .i64 (c : Int), .int .i64 (b : Int)] 44))
  have P1 := Lib.hid (PairAt.new w1 (c : Int) (b : Int))
  have O1 : Hid (OwnI (w1.alloc (Obj.cells #[.int .i64 (c : Int), .int .i64 (b : Int)] 44)).heap.size (w1.alloc (Obj.cells #[.int .i64 (c : Int), .int .i64 (b : Int)] 44)) (.slice none 0 0) (intsN (rAll t r (min (2 * r + 1) 32) 0))) := Lib.hid (OwnI.nil _ _)
  have E1 := Lib.hid (Below.refl (w1.alloc (Obj.cells #[.int .i64 (c : Int), .int .i64 (b : Int)] 44)).heap.size (w1.alloc (Obj.cells #[.int .i64 (c : Int), .int .i64 (b : Int)] 44)))
  clear hb cU
  go_wp2_with fail
  go_loopw [8, 31] (fun v ii wr => ∃ d : Nat, d ≤ 2 * r + 1 ∧ ii = .int .i64 (d : Int) ∧ Hid (OwnI (w1.alloc (Obj.cells #[.int .i64 (c : Int), .int .i64 (b : Int)] 44)).heap.size wr v (intsN (rAll t r (min (2 * r + 1) 32) d))) ∧ Hid (Below (w1.alloc (Obj.cells #[.int .i64 (c : Int), .int .i64 (b : Int)] 44)).heap.size (w1.alloc (Obj.cells #[.int .i64 (c : Int), .int .i64 (b : Int)] 44)) wr)) (fun _ ii _ => 2 * r + 1 - (intOf ii).toNat)
  case atStart => exact ⟨0, by omega, rfl, O1, E1⟩
  case round =>
    obtain ⟨d, hd, rfl, hO, hD⟩ := hrel
    clear O1 E1
    by_cases hlt : d < 2 * r + 1
    · have s1 : decide ((d : Int) < 2 * (r : Int) + 1) = true := decide_eq_true (by omega)
      have g1 : IntKind.i64.wrap ((d : Int) + 1) = (d : Int) + 1 := IntWalk.i64_in _ (by omega)
      have g2 : IntKind.i64.wrap ((d : Int) - (r : Int)) = (d : Int) - (r : Int) := IntWalk.i64_in _ (by omega)
      have O2 : Hid (OwnI (w1.alloc (Obj.cells #[.int .i64 (c : Int), .int .i64 (b : Int)] 44)).heap.size wr _ (goneI t r d 0)) := Lib.hid (by rw [gone_zero]; exact hO.out)
      obtain ⟨m, hm⟩ : ∃ m, m = min (2 * r + 1) 32 := ⟨_, rfl⟩
      have hm32 : m ≤ 32 := by omega
      have HM := Lib.hid hm
      clear hm
      have D2 := hD
      clear hO hD
      go_wp2_with fail
      go_loopw [8, 38] (fun v ii wr => ∃ j : Nat, j ≤ m ∧ ii = .int .i64 (j : Int) ∧ Hid (OwnI (w1.alloc (Obj.cells #[.int .i64 (c : Int), .int .i64 (b : Int)] 44)).heap.size wr v (goneI t r d j)) ∧ Hid (Below (w1.alloc (Obj.cells #[.int .i64 (c : Int), .int .i64 (b : Int)] 44)).heap.size (w1.alloc (Obj.cells #[.int .i64 (c : Int), .int .i64 (b : Int)] 44)) wr)) (fun _ ii _ => m - (intOf ii).toNat)
      case atStart => exact ⟨0, by omega, rfl, O2, D2⟩
      case round =>
        obtain ⟨j, hj, rfl, hO, hD⟩ := hrel
        clear O2 D2
        by_cases hjm : j < m
        · have s2 : decide ((j : Int) < min (2 * (r : Int) + 1) 32) = true := decide_eq_true (by have := HM.out; omega)
          have g3 : IntKind.i64.wrap ((j : Int) + 1) = (j : Int) + 1 := IntWalk.i64_in _ (by omega)
          have g4 : IntKind.i64.wrap ((j : Int) - (r : Int)) = (j : Int) - (r : Int) := IntWalk.i64_in _ (by omega)
          obtain ⟨X, hX⟩ : ∃ X, X = ((c : Int) + ((j : Int) - (r : Int)) + 32).toNat % 32 := ⟨_, rfl⟩
          have P2 := Lib.hid (P1.out.bel hD.out)
          have c0 := P2.out.c0
          have c1 := P2.out.c1
          cases hk : rOk t r d with
          | true =>
            have hk' : r ≤ t / 32 + d ∧ t / 32 + d < r + 16 := by simpa [rOk] using hk
            obtain ⟨Y, hY⟩ : ∃ Y : Nat, (Y : Int) = (b : Int) + ((d : Int) - (r : Int)) := ⟨b + d - r, by have := HB.out; omega⟩
            have hY16 : Y < 16 := by have := HB.out; omega
            have HG : Hid (goneI t r d (j + 1) = goneI t r d j ++ [((32 * Y + X : Nat) : Int)]) := Lib.hid (by
              rw [gone_yes hk]
              congr 3
              have := HB.out; have := HC.out
              unfold rTile
              omega)
            have HM1 := Lib.hid (fun w => pmoved_in (c : Int) (b : Int) ((j : Int) - (r : Int)) ((d : Int) - (r : Int)) X (by omega) (by omega) (by omega) (by omega) (Y : Int) hX hY (by omega) w)
            have HT1 := Lib.hid (fun w => ptileAt_any X Y (by omega) hY16 w)
            have hLen : Hid ((goneI t r d j).length + 1 ≤ 1099511627) := Lib.hid (by have := gone_len t r d j; omega)
            clear hk' hX hY hY16 hk
            generalize hZ : ((32 * Y + X : Nat) : Int) = Z at HT1 HG
            clear hZ
            go_wp2_with fail
            refine (HM1.out _).mono ?_
            rintro e w2 ⟨rfl, hb⟩
            have O3 := Lib.hid ((hO.out.below hb).below ((Below.refl _ _).alloc (Nat.le_refl _) (Obj.cells #[.int .i64 (X : Int), .int .i64 (Y : Int)] 44)))
            have D3 := Lib.hid ((hD.out.trans (hb.mono hD.out.size)).alloc (Nat.le_trans hD.out.size hb.size) (Obj.cells #[.int .i64 (X : Int), .int .i64 (Y : Int)] 44))
            clear hb hO hD P2 c0 c1 HM1
            go_wp2_with fail
            refine (HT1.out _).mono ?_
            rintro e w3 ⟨rfl, hb⟩
            have O4 := Lib.hid (O3.out.below hb)
            have D4 := Lib.hid (D3.out.trans (hb.mono D3.out.size))
            clear hb O3 D3 HT1
            go_wp2_with (at_builtin; refine wpList_snocI _ (by rfl) _ _ (by rfl) (w1.alloc (Obj.cells #[.int .i64 (c : Int), .int .i64 (b : Int)] 44)).heap.size _ (goneI t r d j) Z (by rfl) (by rfl) O4.out hLen.out D4.out.size ?_)
            intro v7 w7 hown7 hgrow7
            have hB7 := Lib.hid (below_snocI D4.out O4.out hgrow7)
            rw [← HG.out] at hown7
            have hO7 : Hid (OwnI (w1.alloc (Obj.cells #[.int .i64 (c : Int), .int .i64 (b : Int)] 44)).heap.size w7 v7 (goneI t r d (j + 1))) := Lib.hid (by
              rw [show (w1.alloc (Obj.cells #[.int .i64 (c : Int), .int .i64 (b : Int)] 44)).heap.size = w1.heap.size + 1 by simp]
              exact hown7)
            clear hown7 hgrow7
            go_wp2_with fail
            go_roundw
            case rel => exact ⟨j + 1, by omega, by go_num, hO7, hB7⟩
            case measure => simp [intOf]; omega
          | false =>
            have hk' : ¬ (r ≤ t / 32 + d ∧ t / 32 + d < r + 16) := by simpa [rOk] using hk
            obtain ⟨Y, hY⟩ : ∃ Y : Int, Y = (b : Int) + ((d : Int) - (r : Int)) := ⟨_, rfl⟩
            have HG : Hid (goneI t r d (j + 1) = goneI t r d j) := Lib.hid (gone_no hk)
            have HM1 := Lib.hid (fun w => pmoved_no (c : Int) (b : Int) ((j : Int) - (r : Int)) ((d : Int) - (r : Int)) X (by omega) (by omega) (by omega) (by omega) Y hX hY (by have := HB.out; omega) w)
            clear hk' hX hY hk
            go_wp2_with fail
            refine (HM1.out _).mono ?_
            rintro e w2 ⟨rfl, hb⟩
            have O3 := Lib.hid ((hO.out.below hb).below ((Below.refl _ _).alloc (Nat.le_refl _) (Obj.cells #[.int .i64 (X : Int), .int .i64 Y] 44)))
            have D3 := Lib.hid ((hD.out.trans (hb.mono hD.out.size)).alloc (Nat.le_trans hD.out.size hb.size) (Obj.cells #[.int .i64 (X : Int), .int .i64 Y] 44))
            clear hb hO hD P2 c0 c1 HM1
            go_wp2_with fail
            go_roundw
            case rel => exact ⟨j + 1, by omega, by go_num, by rw [HG.out]; exact O3, D3⟩
            case measure => simp [intOf]; omega
        · have s2 : decide ((j : Int) < min (2 * (r : Int) + 1) 32) = false := decide_eq_false (by have := HM.out; omega)
          have hjm' : j = min (2 * r + 1) 32 := by have := HM.out; omega
          have O3 : Hid (OwnI (w1.alloc (Obj.cells #[.int .i64 (c : Int), .int .i64 (b : Int)] 44)).heap.size wr _ (intsN (rAll t r (min (2 * r + 1) 32) (d + 1)))) := Lib.hid (by rw [← gone_full, ← hjm']; exact hO.out)
          clear hO hjm'
          go_wp2_with fail
          go_roundw
          case rel => exact ⟨d + 1, by omega, by go_num, O3, hD⟩
          case measure => simp [intOf]; omega
    · have s1 : decide ((d : Int) < 2 * (r : Int) + 1) = false := decide_eq_false (by omega)
      have hd2 : d = 2 * r + 1 := by omega
      have hsz : (intsN (rAll t r (min (2 * r + 1) 32) d)).length ≤ 1000000 := by
        have := gone_len t r d 0
        rw [gone_zero] at this
        omega
      have HS := Lib.hid (psort_own _ _ _ _ hO.out hsz)
      have HR : Hid (upI (intsN (rAll t r (min (2 * r + 1) 32) d)) = intsN (nea t r)) := Lib.hid (by rw [hd2]; exact raw_sorted HT.out hr)
      clear hsz hd2
      rw [HR.out] at HS
      go_wp2_with fail
      refine HS.out.mono ?_
      rintro e w2 ⟨rfl, hl, hb⟩
      have L2 := Lib.hid hl
      have D2 := Lib.hid (D1.out.trans ((hD.out.trans hb).mono D1.out.size))
      clear hl hb HS hD hO
      go_wp2_with fail
      go_ret2
      exact ⟨_, rfl, L2.out, D2.out⟩
theorem pNear_any (t r : Int) (ht : I64 t) (hr : I64 r) (w : World) : Calls Try.prog 17 #[.int .i64 t, .int .i64 r] w (GivesL (neaA t r).1 (neaA t r).2 w) := by
  cases h : isT t && okR r with
  | false =>
    have hA : neaA t r = ([], 1) := by unfold neaA; rw [h]; rfl
    rw [hA]
    exact pNear_bad t r w (fun h1 => by rw [h1] at h; simpa using h)
  | true =>
    rw [Bool.and_eq_true] at h
    obtain ⟨k, rfl, hk⟩ := isT_yes h.1
    have h2 : 0 ≤ r ∧ r ≤ 31 := by simpa [okR] using h.2
    obtain ⟨q, rfl⟩ : ∃ q : Nat, r = (q : Int) := ⟨r.toNat, by omega⟩
    rw [neaA_ok hk (by omega)]
    exact pNear_ok k q hk (by omega) w
end Go.Proofs.Ytaebejhncjadhaa.Sk
