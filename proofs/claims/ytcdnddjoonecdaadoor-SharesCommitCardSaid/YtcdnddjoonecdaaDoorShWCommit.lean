/-
  Commitments (SharesCommit, P7.7).
-/
import Derived.Test.YtcdnddjoonecdaaDoorShCoP
import Derived.Test.YtcdnddjoonecdaaDoorShPRt
import Derived.Test.YtcdnddjoonecdaaDoorShRCk
import Derived.Test.YtcdnddjoonecdaaDoorShLaws
import Derived.Test.YtcdnddjoonecdaaDoorTrI
import Derived.Deep.QuietTactic
import Derived.BigQuiet
import Derived.Deep.DeepCutAuto
set_option linter.unusedVariables false
set_option maxRecDepth 100000
namespace Go.Proofs.YtcdnddjoonecdaaDoor
open Go.RowKit
open Fdp
theorem refjoin2_any (T R : ByteArray) (v : Value) (w : World) (hR : R = joinB [kLeaf, T]) (hT : T.size ≤ 2147483648) (h : StrsAt w v [kLeaf, T]) :
    Calls Tryd.prog 12 #[v] w fun e w' => e = .returned (.string R) ∧ Below w.heap.size w w' := by
  rw [hR]
  exact refjlit_any _ _ _ h (by simp) (by
    intro s h; simp only [List.mem_cons, List.not_mem_nil, or_false] at h
    rcases h with rfl | rfl
    · decide
    · exact hT)
theorem quiet_skip {P : Program} {ops : Array Oper} {C : World → Prop} {Q : Act → Prop} {o : Oper} {rest : List Oper} {a : Act} (hw : Region.wanted o (yielded ops a.tmps) = false) (h : ∀ K : Act → Prop, (∀ a, wpQuiet P ops C Q rest a → K a) → K (a.put o.dst undef)) : wpQuiet P ops C Q (o :: rest) a := by
  unfold wpQuiet; rw [hw]; exact h _ (fun _ h => h)
theorem quiet_take {P : Program} {ops : Array Oper} {C : World → Prop} {Q : Act → Prop} {o : Oper} {rest : List Oper} {a : Act} (hw : Region.wanted o (yielded ops a.tmps) = true) (h : ∀ K : Act → Prop, (∀ a, wpQuiet P ops C Q rest a → K a) → ∃ v, (∀ w, C w → o.quietAt P a C w v) ∧ K (a.put o.dst v)) : wpQuiet P ops C Q (o :: rest) a := by
  unfold wpQuiet; rw [hw]; exact h _ (fun _ h => h)
theorem region_quiet {P : Program} {C : World → Prop} {id : Nat} {Q : Exit → Act → World → Prop} {a : Act} {w : World} {l : List Oper} (hm : P.follows .mixedOrders = true) (hB : Region.lexB .any l.toArray = true) (hC : C w.drew)
    (h : wpQuiet P l.toArray C (fun a' => ∀ w', C w' → Q .normal a' w') l a) : (Code.region id l.toArray true).wp P Q a w :=
  wp_region_quiet (C := C) hm hB hC (by simpa using h)
theorem bool_quiet {f : FuncId} {args : Array Value} {b : Bool} {w w' : World} (h : Calls Tryd.prog f args w' fun e w'' => e = .returned (.bool b) ∧ Below w'.heap.size w' w'') (hw : Below w.heap.size w w') : Calls Tryd.prog f args w' (fun e w'' => e = .returned (.bool b) ∧ Below w.heap.size w w'') :=
  h.mono (fun _ _ hh => ⟨hh.1, hw.trans (hh.2.mono hw.size)⟩)
set_option maxHeartbeats 4000000 in
theorem walkSharesCommit (s : Int) (vq : Value) (q : List Int) (need total which sx sy : Int) (w : World) (ht : TabOk w) (hs64 : -9223372036854775808 ≤ s ∧ s ≤ 9223372036854775807) (hq : IntsOk w vq q) (hu1 : 0 ≤ need ∧ need ≤ 255) (hu2 : 0 ≤ total ∧ total ≤ 255) (hu3 : 0 ≤ which ∧ which ≤ 255) :
    Calls Tryd.prog 3 #[.int .i64 s, vq, .int .u8 need, .int .u8 total, .int .u8 which, .agg #[.int .i64 sx, .int .i64 sy]] w fun e w' => e = .returned (.bool true) ∧ Below w.heap.size w w' := by
  clear hs64
  obtain ⟨qa, cq, rfl, hqa1, hqa2, hqa3, hqa4⟩ := hq.form
  obtain ⟨mq, hnqa⟩ : ∃ n, n = q.length := ⟨_, rfl⟩
  rw [← hnqa] at hqa1 hqa4 ⊢
  have HQ := Lib.hid hqa4
  have hqa5 : mq ≤ maxLen := by omega
  clear hqa1 hqa2 hqa3 hqa4 hnqa hq
  obtain ⟨n, hn⟩ : ∃ n, n = mN need := ⟨_, rfl⟩
  obtain ⟨m, hm⟩ : ∃ m, m = mM need total := ⟨_, rfl⟩
  have rN := mN_range need
  have rM := mM_range need total
  rw [← hn] at rN
  rw [← hn, ← hm] at rM
  have HN := Lib.hid hn
  have HMM := Lib.hid hm
  have HT := Lib.hid ht
  clear hn hm ht
  have D0 := Lib.hid ((Below.refl w.heap.size w).alloc (Nat.le_refl _) (Obj.cells #[Value.int .i64 sx, Value.int .i64 sy] 24))
  have X0 := Lib.hid (box_new w sx sy)
  go_enter Tryd.func3, Tryd.ntmps3
  go_wp2_with fail
  refine (head7_any _).mono ?_
  rintro e w1 ⟨rfl, hb⟩
  have D1 := Lib.hid (below_then D0.out hb)
  have X1 := Lib.hid (X0.out.bel hb)
  clear hb D0 X0
  go_wp2_with fail
  refine (made_any qa mq cq q need total _ (HQ.out.bel D1.out) hqa5 hu1 hu2).mono ?_
  rintro e w2 ⟨v2, R, rfl, hO, hR, hE, hb⟩
  rw [← HN.out] at hR ⊢
  rw [← HMM.out]
  obtain ⟨a2, c2, rfl, j1, j2, j3⟩ := hO.at2 (n := n - 1) (by omega)
  have J2 := Lib.hid j3
  have HR := Lib.hid hR
  have ER := Lib.hid hE
  have D2 := Lib.hid (below_then D1.out hb)
  have X2 := Lib.hid (X1.out.bel hb)
  clear hO j1 j2 j3 hR hE hb D1 X1
  go_wp2_with fail
  refine (element_any s _).mono ?_
  rintro e w' ⟨rfl, rfl⟩
  go_wp2_with fail
  have hsp := split_made (elemF_el s) rN.1 rM.1 rM.2 HR.out ER.out
  obtain ⟨x0, hx0⟩ : ∃ x, x = elemF s := ⟨_, rfl⟩
  rw [← hx0] at hsp ⊢
  clear hx0
  have k1 : n - 1 ≤ maxLen := max_small (by omega)
  have k2 : -9223372036854775808 ≤ (n : Int) ∧ (n : Int) ≤ 9223372036854775807 := by omega
  have k3 := pSplit_open x0 n m _ (n - 1) c2 R _ J2.out k1 k2 hsp (m := m) (sharesL_len _ _).symm
  refine (k3).mono ?_
  rintro e w3 ⟨b1, c1, ⟨rfl, hq1, hq2, hq3⟩, hb⟩
  have D3 := Lib.hid (below_then D2.out hb)
  have X3 := Lib.hid (X2.out.bel hb)
  obtain ⟨l, hl⟩ : ∃ l, l = sharesL (x0 :: R) m := ⟨_, rfl⟩
  rw [← hl] at hq3
  have Q3 := Lib.hid hq3
  have HLM : Hid (m = l.length) := Lib.hid (by rw [hl, sharesL_len])
  have HLX : Hid (∀ i (hi : i < l.length), l[i].1 = (i : Int) + 1 ∧ validS l[i] = true) := Lib.hid (by
    intro i hi
    have hv := shares_mem_valid (c := x0 :: R) (m := m) (by omega) (q := l[i]) (by rw [← hl]; exact List.getElem_mem hi)
    subst hl
    refine ⟨?_, validS_iff.2 hv.1⟩
    rw [sharesL_len] at hi
    rw [sharesL_get _ hi])
  have HVS : Hid (validsS l = true) := Lib.hid (validsS_iff.2 fun q hq => by
    obtain ⟨i, hi, rfl⟩ := List.getElem_of_mem hq
    exact validS_iff.1 (HLX.out i hi).2)
  clear hq1 hq2 hq3 hsp k1 k2 k3 hb D2 X2 hl J2
  go_wp2_with fail
  refine (prootSh_any b1 m c1 l _ Q3.out (by omega) (TabOk.below HT.out D3.out)).mono ?_
  rintro e w4 ⟨rfl, hb⟩
  have hrt : rootSh l = (rootB (leavesS l), 0) := by unfold rootSh; rw [HVS.out, if_pos]; have := HLM.out; simp; omega
  rw [hrt]
  obtain ⟨RT, hRT⟩ : ∃ r, r = rootB (leavesS l) := ⟨_, rfl⟩
  simp only
  rw [← hRT]
  have HRT := Lib.hid hRT
  have D4 := Lib.hid (below_then D3.out hb)
  have X4 := Lib.hid (X3.out.bel hb)
  have Q4 := Lib.hid (Q3.out.bel hb)
  clear hb hrt hRT D3 X3 Q3
  obtain ⟨k, hk⟩ : ∃ k : Nat, k = which.toNat % m := ⟨_, rfl⟩
  have hkm : k < m := by rw [hk]; exact Nat.mod_lt _ (by omega)
  have f0 : IntKind.i64.wrap which = which := IntWalk.i64_in _ (by omega)
  have f1 : which.tmod (m : Int) = (k : Int) := by
    obtain ⟨r, rfl⟩ : ∃ r : Nat, which = r := ⟨which.toNat, by omega⟩
    rw [Int.tmod_eq_emod_of_nonneg (by omega), hk, Int.toNat_natCast]
    exact (Int.natCast_emod r m).symm
  have f2 : ((m : Int) == 0) = false := beq_eq_false_iff_ne.2 (by omega)
  have f3 : ¬ m = 0 := by omega
  have f4 : IntKind.i64.wrap (k : Int) = (k : Int) := IntWalk.i64_in _ (by omega)
  have f5 : ((m : Int) != (m : Int)) = false := by simp
  clear hk
  go_wp2_with fail
  refine (refleaves_any b1 m c1 l _ Q4.out (by omega) HVS.out).mono ?_
  rintro e w5 ⟨lv, rfl, hO, hb⟩
  have D5 := Lib.hid (below_then D4.out hb)
  have X5 := Lib.hid (X4.out.bel hb)
  have Q5 := Lib.hid (Q4.out.bel hb)
  have V5 := Lib.hid (hO.ok (fun s hs => Nat.le_trans (digsB_small (digs_leaves l) s hs) (by unfold maxLen; omega)))
  have hkl : k < (leavesS l).length := by rw [leaves_len]; have := HLM.out; omega
  have HKL := Lib.hid hkl
  have HLL : Hid ((leavesS l).length ≤ 1099511627776) := Lib.hid (by rw [leaves_len]; have := HLM.out; omega)
  clear hO hb D4 X4 Q4 hkl
  go_wp2_with fail
  refine (pPath_ok lv (leavesS l) k _ V5.out HLL.out (digs_leaves l) HKL.out (TabOk.below HT.out D5.out)).mono ?_
  rintro e w6 ⟨pv, rfl, hO, hb⟩
  have D6 := Lib.hid (below_then D5.out hb)
  have X6 := Lib.hid (X5.out.bel hb)
  have Q6 := Lib.hid (Q5.out.bel hb)
  have V6 := Lib.hid (V5.out.below hb)
  obtain ⟨p, hp⟩ : ∃ p, p = pathB (leavesS l) k := ⟨_, rfl⟩
  rw [← hp] at hO
  have HPD : Hid (digsB p = true) := Lib.hid (by rw [hp]; exact pathB_digs _ _ _ rfl (digs_leaves l))
  have P6 := Lib.hid (hO.ok (fun s hs => Nat.le_trans (digsB_small HPD.out s hs) (by unfold maxLen; omega)))
  have hkl2 : k < l.length := by have := HLM.out; omega
  have COK : Hid (checkS RT m l[k] p = true) := Lib.hid (by rw [HRT.out, hp]; exact commit_ok HLM.out (by omega) hkm (HLX.out k hkl2).1 (HLX.out k hkl2).2)
  obtain ⟨lb, lc, rfl, lr1, lr2⟩ := V6.out.room
  obtain ⟨ab, ac, rfl, ar1, ar2⟩ := P6.out.room
  obtain ⟨hc0, hc1⟩ : (∃ bb off, b1 = some ⟨bb, off, none⟩) ∧ True := ⟨by obtain ⟨bb, off, e, -⟩ := Q6.out.cells (by omega); exact ⟨bb, off, e⟩, trivial⟩
  obtain ⟨bb, off, rfl⟩ := hc0
  obtain ⟨hca, hcb⟩ := Q6.out.cell hkl2
  obtain ⟨u, hu⟩ : ∃ u, u = l[k].1 := ⟨_, rfl⟩
  obtain ⟨v, hv⟩ : ∃ v, v = l[k].2 := ⟨_, rfl⟩
  rw [← hu] at hca
  rw [← hv] at hcb
  have HUV : Hid (l[k] = (u, v)) := Lib.hid (Prod.ext hu.symm hv.symm)
  have g1 : (0 : Int) ≤ (k : Int) := by omega
  have g2 : (k : Int) < (m : Int) := by omega
  clear hO hb D5 X5 Q5 V5 hp hu hv lr1 lr2 ar1 ar2 hc1
  go_wp2_with fail
  refine (pcheckS_any RT m u v _ p _ P6.out (TabOk.below HT.out D6.out)).mono ?_
  rintro e w7 ⟨rfl, hb⟩
  rw [show checkS RT m (u, v) p = true by rw [← HUV.out]; exact COK.out]
  have D7 := Lib.hid (below_then D6.out hb)
  have X7 := Lib.hid (X6.out.bel hb)
  have Q7 := Lib.hid (Q6.out.bel hb)
  have V7 := Lib.hid (V6.out.below hb)
  have P7 := Lib.hid (P6.out.below hb)
  clear hb D6 X6 Q6 V6 P6 hca hcb
  go_wp2_with fail
  have cK : Hid (∀ w', StrsOk w' (.slice ab p.length ac) p → TabOk w' → Calls Tryd.prog 11 #[.string RT, .int .i64 (m : Int), .agg #[.int .i64 sx, .int .i64 sy], .slice ab p.length ac] w' fun e w'' => e = .returned (.bool (checkS RT m (sx, sy) p)) ∧ Below w'.heap.size w' w'') := Lib.hid (fun w' h ht => pcheckS_any RT m sx sy _ p w' h ht)
  have T7 := Lib.hid (TabOk.below HT.out D7.out)
  have HDR : Hid (Below w7.heap.size w7 w7.drew) := Lib.hid (below_drewN (Below.refl _ _) 1)
  cases hck : checkS RT m (sx, sy) p with
  | false =>
    rw [hck] at cK
    have KP : Hid (∀ w', Below w7.heap.size w7 w' → w'.cell? ⟨w.heap.size, 0, none⟩ = some (.int .i64 sx) ∧ w'.cell? ⟨w.heap.size, 1, none⟩ = some (.int .i64 sy)) := Lib.hid (fun w' hw' => ⟨(X7.out.bel hw').c0, (X7.out.bel hw').c1⟩)
    clear hck
    refine region_quiet (C := fun w' => Below w7.heap.size w7 w') (by kernel_rfl) (by kernel_rfl) HDR.out ?_
    repeat (first | go_big_quiet_skip | (go_big_quiet_want; go_big_quiet_op; first | go_big_quiet_on | (apply Exists.intro; refine ⟨fun w' hw' => ?_, ?_⟩; (obtain ⟨q0, q1⟩ := KP.out w' hw'; (try go_simp); first | done | with_reducible exact bool_quiet (cK.out w' (P7.out.below hw') (TabOk.below T7.out hw')) hw' | exact ⟨rfl, hw'⟩ | exact rfl); go_big_quiet_on)))
    refine wpQuiet_nil ?_
    intro w8 hw8
    go_wp2_with fail
    go_ret
    exact ⟨rfl, below_then D7.out hw8⟩
  | true =>
    have HCK := Lib.hid hck
    rw [hck] at cK
    clear hck
    obtain ⟨ck1, ck2, ck3, ck4⟩ := checkS_parts HCK.out
    simp only at ck3
    have ck5 := (validS_iff.1 ck2).1
    simp only at ck5
    have ck6 := (validS_iff.1 ck2).2
    simp only at ck6
    obtain ⟨X, hX⟩ : ∃ X : Nat, sx = (X : Int) + 1 := ⟨(sx - 1).toNat, by omega⟩
    obtain ⟨Y, hY⟩ : ∃ Y : Nat, sy = (Y : Int) := ⟨sy.toNat, by have := ck6.1; omega⟩
    have hXm : X < m := by omega
    have hXl : X < l.length := by have := HLM.out; omega
    have HXL := Lib.hid hXl
    have HX := Lib.hid hX
    have HY := Lib.hid hY
    have HYP : Hid (Y < 2147483647) := Lib.hid (by have := ck6.2; omega)
    have i1 : (1 : Int) ≤ sx := ck5.1
    have i2 : sx ≤ (m : Int) := ck3
    have i3 : IntKind.i64.wrap (sx - 1) = (X : Int) := by rw [IntWalk.i64_in _ (by omega)]; omega
    have i4 : (0 : Int) ≤ (X : Int) := by omega
    have i5 : (X : Int) < (m : Int) := by omega
    obtain ⟨u2, hu2_⟩ : ∃ u, u = l[X].1 := ⟨_, rfl⟩
    obtain ⟨v2_, hv2_⟩ : ∃ v, v = l[X].2 := ⟨_, rfl⟩
    have HUV2 : Hid (l[X]'HXL.out = (u2, v2_)) := Lib.hid (Prod.ext hu2_.symm hv2_.symm)
    have KP : Hid (∀ w', Below w7.heap.size w7 w' → w'.cell? ⟨w.heap.size, 0, none⟩ = some (.int .i64 sx) ∧ w'.cell? ⟨w.heap.size, 1, none⟩ = some (.int .i64 sy) ∧ w'.cell? ⟨bb, off + X * 2, none⟩ = some (.int .i64 u2) ∧ w'.cell? ⟨bb, off + X * 2 + 1, none⟩ = some (.int .i64 v2_)) := Lib.hid (fun w' hw' => by
      have h2 := (Q7.out.bel hw').cell HXL.out
      rw [HUV2.out] at h2
      exact ⟨(X7.out.bel hw').c0, (X7.out.bel hw').c1, h2.1, h2.2⟩)
    clear ck1 ck2 ck3 ck4 ck5 ck6 hX hY hu2_ hv2_ hXl
    cases heq : eqS (sx, sy) (u2, v2_) with
    | true =>
      have ue : ∀ w, (binOp .eql 24 (.agg #[.int .i64 sx, .int .i64 sy]) (.agg #[.int .i64 u2, .int .i64 v2_])).run Tryd.prog w = .ok (.bool true) w := fun w => by rw [← heq]; exact run_eql_sh _ _ _ _ w
      clear heq
      refine region_quiet (C := fun w' => Below w7.heap.size w7 w') (by kernel_rfl) (by kernel_rfl) HDR.out ?_
      repeat (first | go_big_quiet_skip | (go_big_quiet_want; go_big_quiet_op; first | go_big_quiet_on | (apply Exists.intro; refine ⟨fun w' hw' => ?_, ?_⟩; (obtain ⟨q0, q1, q2, q3⟩ := KP.out w' hw'; (try go_simp); first | done | with_reducible exact bool_quiet (cK.out w' (P7.out.below hw') (TabOk.below T7.out hw')) hw' | exact ⟨rfl, hw'⟩ | exact rfl); go_big_quiet_on)))
      refine wpQuiet_nil ?_
      intro w8 hw8
      go_wp2_with fail
      go_ret
      exact ⟨rfl, below_then D7.out hw8⟩
    | false =>
      have HNE : Hid ((sx, sy) ≠ l[X]'HXL.out) := Lib.hid (by rw [HUV2.out]; exact eqS_no.1 heq)
      have ue : ∀ w, (binOp .eql 24 (.agg #[.int .i64 sx, .int .i64 sy]) (.agg #[.int .i64 u2, .int .i64 v2_])).run Tryd.prog w = .ok (.bool false) w := fun w => by rw [← heq]; exact run_eql_sh _ _ _ _ w
      clear heq
      refine region_quiet (C := fun w' => Below w7.heap.size w7 w') (by kernel_rfl) (by kernel_rfl) HDR.out ?_
      repeat (first | go_big_quiet_skip | (go_big_quiet_want; go_big_quiet_op; first | go_big_quiet_on | (apply Exists.intro; refine ⟨fun w' hw' => ?_, ?_⟩; (obtain ⟨q0, q1, q2, q3⟩ := KP.out w' hw'; (try go_simp); first | done | with_reducible exact bool_quiet (cK.out w' (P7.out.below hw') (TabOk.below T7.out hw')) hw' | exact ⟨rfl, hw'⟩ | exact rfl); go_big_quiet_on)))
      refine wpQuiet_nil ?_
      intro w8 hw8
      have D8 := Lib.hid (below_then D7.out hw8)
      have X8 := Lib.hid (X7.out.bel hw8)
      have Q8 := Lib.hid (Q7.out.bel hw8)
      have V8 := Lib.hid (V7.out.below hw8)
      have P8 := Lib.hid (P7.out.below hw8)
      clear hw8 KP ue D7 X7 Q7 V7 P7 HDR T7
      go_wp2_with fail
      obtain ⟨wz, hwz⟩ : ∃ wz : World, wz = w8 := ⟨_, rfl⟩
      have hO0 : Hid (OwnS w8.heap.size w8 (.slice none 0 0) (lfsK l 0)) := Lib.hid (OwnS.nil _ _)
      go_loopw [25, 26] (fun v ii wr => ∃ k : Nat, k ≤ m ∧ ii = .int .i64 (k : Int) ∧ Hid (OwnS w8.heap.size wr v (lfsK l k)) ∧ Hid (Below w8.heap.size w8 wr)) (fun _ ii _ => m - (intOf ii).toNat)
      case atStart => exact ⟨0, by omega, rfl, hO0, Lib.hid (Below.refl _ _)⟩
      case round =>
        clear hO0
        obtain ⟨j, hj, rfl, hO, hZ⟩ := hrel
        by_cases hjm : j < m
        · have hjl : j < l.length := by have := HLM.out; omega
          obtain ⟨hca, hcb⟩ := (Q8.out.bel hZ.out).cell hjl
          have hvj := (validS_iff.1 (HLX.out j hjl).2)
          obtain ⟨a, ha⟩ : ∃ a : Nat, l[j].1 = a := ⟨l[j].1.toNat, by omega⟩
          obtain ⟨b, hb⟩ : ∃ b : Nat, l[j].2 = b := ⟨l[j].2.toNat, by have := hvj.2.1; omega⟩
          have ha16 : a ≤ 16 := by omega
          have hbP : b < 2147483647 := by have := hvj.2.2; omega
          rw [ha] at hca
          rw [hb] at hcb
          obtain ⟨T, hT⟩ : ∃ T, T = textS ((a : Int), (b : Int)) := ⟨_, rfl⟩
          have hts : T.size ≤ 2147483648 := by rw [hT]; have := textS_size ha16 hbP; omega
          have cT : Hid (∀ w : World, Calls Tryd.prog 13 #[.agg #[.int .i64 (a : Int), .int .i64 (b : Int)]] w fun e w' => e = .returned (.string T) ∧ Below w.heap.size w w') := Lib.hid (fun w => by rw [hT]; exact reftextS_any a b w ha16 hbP)
          obtain ⟨F, hF⟩ : ∃ F, F = joinB [kLeaf, T] := ⟨_, rfl⟩
          have hlj : l[j] = ((a : Int), (b : Int)) := Prod.ext ha hb
          have hnx : Hid (lfsK l (j + 1) = lfsK l j ++ [F]) := Lib.hid (by
            rw [lfsK_next hjl, hlj, hF, hT]; rfl)
          have HF := Lib.hid hF
          have HTS := Lib.hid hts
          have hl1 : Hid ((lfsK l j).length + [F].length ≤ 1099511627776) := Lib.hid (by have := lfsK_len l j; simp; omega)
          have b1_ : (0 : Int) ≤ (j : Int) := by omega
          have b2_ : (j : Int) < (m : Int) := by omega
          clear ha hb hT hF hts hlj hvj ha16 hbP
          go_wp2_with fail
          refine (cT.out _).mono ?_
          rintro e w9 ⟨rfl, hb⟩
          have Z9 := Lib.hid (below_then hZ.out hb)
          have O9 := Lib.hid (hO.out.below hb)
          clear hb hO hZ
          go_wp2_with fail
          refine (refjoin2_any T F _ _ HF.out HTS.out (lit2_at w9 kLeaf T)).mono ?_
          rintro e w10 ⟨rfl, hb⟩
          have Z10 := Lib.hid (below_then (Z9.out.alloc Z9.out.size (Obj.cells #[Value.string kLeaf, Value.string T] 9)) hb)
          have O10 := Lib.hid ((O9.out.below ((Below.refl _ w9).alloc (Nat.le_refl _) (Obj.cells #[Value.string kLeaf, Value.string T] 9))).below hb)
          clear hb O9 Z9
          have Z11 := Lib.hid (Z10.out.alloc Z10.out.size (Obj.cells #[Value.string F] 9))
          have O11 := Lib.hid (O10.out.below ((Below.refl _ w10).alloc (Nat.le_refl _) (Obj.cells #[Value.string F] 9)))
          clear O10 Z10
          go_wp2_with (at_builtin; refine wpList_cat _ rfl _ _ rfl w8.heap.size 0 _ _ (lfsK l j) [F] rfl rfl O11.out (own_lit w10 F) hl1.out Z11.out.size ?_)
          intro v12 w12 hO12 hg12
          have O12 : Hid (OwnS w8.heap.size w12 v12 (lfsK l (j + 1))) := Lib.hid (by rw [hnx.out]; exact hO12)
          have Z12 := Lib.hid (below_app Z11.out Z11.out.size O11.out hg12)
          clear hO12 hg12 O11 Z11
          go_wp2_with fail
          go_roundw
          case rel => exact ⟨j + 1, by omega, by go_num, O12, Z12⟩
          case measure => simp [intOf]; omega
        · obtain rfl : j = m := by omega
          obtain ⟨A, hA⟩ : ∃ A, A = l.map leafTs := ⟨_, rfl⟩
          have O9 : Hid (OwnS w8.heap.size wr u25 A) := Lib.hid (by have := hO.out; rwa [lfsK_all HLM.out, ← hA] at this)
          have HA := Lib.hid hA
          clear hO hA
          have e1 : sx = ((X + 1 : Nat) : Int) := by rw [HX.out]; simp
          obtain ⟨T, hT⟩ : ∃ T, T = textS (sx, sy) := ⟨_, rfl⟩
          have hts : T.size ≤ 2147483648 := by rw [hT, e1, HY.out]; have := textS_size (x := X + 1) (y := Y) (by omega) HYP.out; omega
          have cT : Hid (∀ w : World, Calls Tryd.prog 13 #[.agg #[.int .i64 sx, .int .i64 sy]] w fun e w' => e = .returned (.string T) ∧ Below w.heap.size w w') := Lib.hid (fun w => by rw [hT, e1, HY.out]; exact reftextS_any (X + 1) Y w (by omega) HYP.out)
          obtain ⟨F, hF⟩ : ∃ F, F = joinB [kLeaf, T] := ⟨_, rfl⟩
          obtain ⟨G, hG⟩ : ∃ G, G = leafB T := ⟨_, rfl⟩
          have cG : Hid (∀ w : World, Calls Tryd.prog 17 #[.string T] w fun e w' => e = .returned (.string G) ∧ Below w.heap.size w w') := Lib.hid (fun w => by rw [hG]; exact refleaf_any T w hts)
          have HGS : Hid (G.size ≤ 2147483648) := Lib.hid (by rw [hG, show (leafB T).size = 16 from sumB_size _]; omega)
          have HF := Lib.hid hF
          have HTS := Lib.hid hts
          have HTT := Lib.hid hT
          have HGG := Lib.hid hG
          obtain ⟨TX, hTX⟩ : ∃ TX, TX = textsB (leavesS l) := ⟨_, rfl⟩
          have cX : Hid (∀ w : World, StrsOk w (.slice lb (leavesS l).length lc) (leavesS l) → Calls Tryd.prog 14 #[.slice lb (leavesS l).length lc] w (Gives TX w)) := Lib.hid (fun w h => by rw [hTX]; exact reftexts_any _ (leavesS l) _ w rfl (by rw [leaves_len]; have := HLM.out; omega) (digsB_small (digs_leaves l)) h)
          have HTX := Lib.hid hTX
          have hpl : p.length = lenB j X := commit_len (root := RT) (y := sy) (by have := HCK.out; rwa [HX.out] at this)
          obtain ⟨PX, hPX⟩ : ∃ PX, PX = pathTextsB j X G p := ⟨_, rfl⟩
          have cP : Hid (∀ w : World, StrsOk w (.slice ab p.length ac) p → Calls Tryd.prog 16 #[.int .i64 (j : Int), .int .i64 (X : Int), .string G, .slice ab p.length ac] w (Gives PX w)) := Lib.hid (fun w h => by rw [hPX]; exact refptexts_any j X G p _ w (by omega) hXm hpl HGS.out (digsB_small HPD.out) h)
          have HPX := Lib.hid hPX
          have HPL := Lib.hid hpl
          have l1 : Hid (A.length + TX.length ≤ 1099511627776) := Lib.hid (by
            rw [HA.out, HTX.out]; have h1 := (textsB_len _ (leavesS l) rfl).1; rw [leaves_len] at h1; have := HLM.out; simp; omega)
          have l2 : Hid ((A ++ TX).length + [F].length ≤ 1099511627776) := Lib.hid (by
            rw [HA.out, HTX.out]; have h1 := (textsB_len _ (leavesS l) rfl).1; rw [leaves_len] at h1; have := HLM.out; simp; omega)
          have l3 : Hid ((A ++ TX ++ [F]).length + PX.length ≤ 1099511627776) := Lib.hid (by
            rw [HA.out, HTX.out, HPX.out]; have h1 := (textsB_len _ (leavesS l) rfl).1; have h2 := pathTextsB_len j X G p; rw [leaves_len] at h1; have := HLM.out; simp; omega)
          have O9d := Lib.hid (O9.out.below (below_drewN (Below.refl _ wr) 1))
          have Z9d := Lib.hid (below_then hZ.out (below_drewN (Below.refl _ wr) 1))
          have hq0 := (X8.out.bel hZ.out).c0
          have hq1 := (X8.out.bel hZ.out).c1
          clear hT hts hF hG hTX hpl hPX e1
          go_upto_region 19 with fail
          go_cut [25] (fun s25 wx => Hid (OwnS w8.heap.size wx s25 (A ++ TX ++ [F])) ∧ Hid (Below w8.heap.size w8 wx))
          case first =>
            go_region_law (first
              | (go_simp; go_at_call 14; refine (cX.out _ (V8.out.below Z9d.out)).mono ?_; rintro e w10 ⟨u1, rfl, hu1, hb⟩; have U1 := Lib.hid hu1; have Z10 := Lib.hid (below_then Z9d.out hb); have O10 := Lib.hid (O9d.out.below hb); have hq10 := (X8.out.bel Z10.out).c0; have hq11 := (X8.out.bel Z10.out).c1; clear hu1 hb)
              | (go_simp; go_at_call 13; refine (cT.out _).mono ?_; rintro e w12 ⟨rfl, hb⟩; have Z12 := Lib.hid (below_then Z11.out hb); have O12 := Lib.hid (O11.out.below hb); clear hb)
              | (go_simp; go_at_call 12; refine (refjoin2_any T F _ _ HF.out HTS.out (lit2_at w12 kLeaf T)).mono ?_; rintro e w13 ⟨rfl, hb⟩; have Z13 := Lib.hid (below_then (Z12.out.alloc Z12.out.size (Obj.cells #[Value.string kLeaf, Value.string T] 9)) hb); have O13 := Lib.hid ((O12.out.below ((Below.refl _ w12).alloc (Nat.le_refl _) (Obj.cells #[Value.string kLeaf, Value.string T] 9))).below hb); have Z14 := Lib.hid (Z13.out.alloc Z13.out.size (Obj.cells #[Value.string F] 9)); have O14 := Lib.hid (O13.out.below ((Below.refl _ w13).alloc (Nat.le_refl _) (Obj.cells #[Value.string F] 9))); clear hb)
              | (refine step_cat _ (by rfl) _ _ (by rfl) w8.heap.size _ u25 u1 A TX (by rfl) (by rfl) O10.out U1.out l1.out Z10.out.size ?_; intro v11 w11 hO11 hg11; have O11 := Lib.hid hO11; have Z11 := Lib.hid (below_app Z10.out Z10.out.size O10.out hg11); have hq20 := (X8.out.bel Z11.out).c0; have hq21 := (X8.out.bel Z11.out).c1; clear hO11 hg11)
              | (refine step_cat _ (by rfl) _ _ (by rfl) w8.heap.size 0 v11 _ (A ++ TX) [F] (by rfl) (by rfl) O14.out (own_lit w13 F) l2.out Z14.out.size ?_; intro v15 w15 hO15 hg15; have O15 := Lib.hid hO15; have Z15 := Lib.hid (below_app Z14.out Z14.out.size O14.out hg15); clear hO15 hg15)
              | fail "no arm")
            all_goals (go_wp2_with fail; go_meet; exact ⟨O15, Z15⟩)
          case rest =>
            obtain ⟨O15, Z15⟩ := hcut
            clear O9 O9d Z9d hq0 hq1 cX l1 l2 hZ
            have hr0 := (X8.out.bel Z15.out).c0
            have hr1 := (X8.out.bel Z15.out).c1
            have i6 : ¬ sx < 1 := by omega
            have i7 : ¬ (j : Int) < sx := by omega
            go_wp2_with fail
            refine (refcheckS_any RT j sx sy _ p _ (P8.out.below Z15.out)).mono ?_
            rintro e w16 ⟨rfl, hb⟩
            rw [HCK.out]
            have O16 := Lib.hid (O15.out.below hb)
            have Z16 := Lib.hid (below_then Z15.out hb)
            clear hb O15 Z15 hr0 hr1
            have O16d := Lib.hid (O16.out.below (below_drewN (Below.refl _ w16) 1))
            have Z16d := Lib.hid (below_then Z16.out (below_drewN (Below.refl _ w16) 1))
            have hr0 := (X8.out.bel Z16.out).c0
            have hr1 := (X8.out.bel Z16.out).c1
            go_upto_region 22 with fail
            go_cut [25] (fun s25 wx => Hid (OwnS w8.heap.size wx s25 (A ++ TX ++ [F] ++ PX)) ∧ Hid (Below w8.heap.size w8 wx))
            case first =>
              go_region_law (first
                | (go_simp; go_at_call 13; refine (cT.out _).mono ?_; rintro e w17 ⟨rfl, hb⟩; have Z17 := Lib.hid (below_then Z16d.out hb); have O17 := Lib.hid (O16d.out.below hb); have hs0 := (X8.out.bel Z17.out).c0; clear hb)
                | (go_simp; go_at_call 17; refine (cG.out _).mono ?_; rintro e w18 ⟨rfl, hb⟩; have Z18 := Lib.hid (below_then Z17.out hb); have O18 := Lib.hid (O17.out.below hb); have ht0 := (X8.out.bel Z18.out).c0; clear hb)
                | (go_simp; go_at_call 16; refine (cP.out _ (P8.out.below Z18.out)).mono ?_; rintro e w19 ⟨u2, rfl, hu2, hb⟩; have U2 := Lib.hid hu2; have Z19 := Lib.hid (below_then Z18.out hb); have O19 := Lib.hid (O18.out.below hb); clear hu2 hb)
                | (refine step_cat _ (by rfl) _ _ (by rfl) w8.heap.size _ _ u2 (A ++ TX ++ [F]) PX (by rfl) (by rfl) O19.out U2.out l3.out Z19.out.size ?_; intro v20 w20 hO20 hg20; have O20 := Lib.hid hO20; have Z20 := Lib.hid (below_app Z19.out Z19.out.size O19.out hg20); clear hO20 hg20)
                | fail "no arm")
              all_goals (go_wp2_with fail; go_meet; exact ⟨O20, Z20⟩)
            case rest =>
              obtain ⟨O20, Z20⟩ := hcut
              have hty : leafTs (sx, sy) = F := by rw [HF.out, HTT.out]; rfl
              have hgy : leafB (textS (sx, sy)) = G := by rw [HGG.out, HTT.out]
              have SHN : Hid (Shown (A ++ TX ++ [F] ++ PX)) := Lib.hid (by
                have hj2 := HLM.out
                have := commit_shown (l := l) (m := j) (X := X) (Y := Y) (p := p) hj2 hXm (HLX.out X HXL.out).1 (validS_iff.1 (HLX.out X HXL.out).2).2.1 (by have h := HCK.out; rwa [HRT.out, HX.out, HY.out] at h) (by have h := HNE.out; rwa [HX.out, HY.out] at h)
                rwa [← HX.out, ← HY.out, hty, hgy, ← HA.out, ← HTX.out, ← HPX.out] at this)
              have SZ : Hid (∀ s ∈ A ++ TX ++ [F] ++ PX, s.size ≤ 1099511627776) := Lib.hid (by
                have := texts_all_size (l := l) (m := j) (X := X) (Y := Y) (p := p) HVS.out (by omega) HYP.out HPL.out (digsB_small HPD.out)
                rwa [← HX.out, ← HY.out, hty, hgy, ← HA.out, ← HTX.out, ← HPX.out] at this)
              have LN : Hid ((A ++ TX ++ [F] ++ PX).length ≤ 549755813888) := Lib.hid (by
                have := texts_all_len (l := l) (m := j) (X := X) (d := G) (t := F) (p := p) HLM.out (by omega)
                rwa [← HA.out, ← HTX.out, ← HPX.out] at this)
              clear hty hgy
              go_wp2_with fail
              refine (shown_any _ _ _ (O20.out.ok (fun s hs => Nat.le_trans (SZ.out s hs) (by unfold maxLen; omega))) LN.out (fun s hs => Nat.le_trans (SZ.out s hs) (by omega)) SHN.out).mono ?_
              rintro e w21 ⟨rfl, hb⟩
              have Z21 := Lib.hid (below_then Z20.out hb)
              clear hb
              go_wp2_with fail
              go_ret
              exact ⟨rfl, below_then D8.out Z21.out⟩
end Go.Proofs.YtcdnddjoonecdaaDoor
