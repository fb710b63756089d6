/-
  All functions of layer 7 agree with the document's own answers (SharesMatchReference, P7.1).
-/
import Derived.Test.YtcdnddjoonecdaaGreatDoorShPRt
import Derived.Test.YtcdnddjoonecdaaGreatDoorShRCk
import Derived.Test.YtcdnddjoonecdaaGreatDoorShHead
import Derived.Test.YtcdnddjoonecdaaGreatDoorShSame
import Derived.Deep.QuietTactic
import Derived.BigQuiet
set_option linter.unusedVariables false
set_option maxRecDepth 100000
namespace Go.Proofs.YtcdnddjoonecdaaGreatDoor
open Go.RowKit
open Fdp
theorem region_quiet7 {P : Program} {C : World → Prop} {id : Nat} {Q : Exit → Act → World → Prop} {a : Act} {w : World} {l : List Oper} (hm : P.follows .mixedOrders = true) (hB : Region.lexB .any l.toArray = true) (hC : C w.drew)
    (h : wpQuiet P l.toArray C (fun a' => ∀ w', C w' → Q .normal a' w') l a) : (Code.region id l.toArray true).wp P Q a w :=
  wp_region_quiet (C := C) hm hB hC (by simpa using h)
theorem bool_quiet7 {f : FuncId} {args : Array Value} {b : Bool} {w w' : World} (h : Calls Tryz.prog f args w' fun e w'' => e = .returned (.bool b) ∧ Below w'.heap.size w' w'') (hw : Below w.heap.size w w') : Calls Tryz.prog f args w' (fun e w'' => e = .returned (.bool b) ∧ Below w.heap.size w w'') :=
  h.mono (fun _ _ hh => ⟨hh.1, hw.trans (hh.2.mono hw.size)⟩)
structure Box7 (w : World) (B : Nat) (x y : Int) : Prop where
  c0 : w.cell? ⟨B, 0, none⟩ = some (.int .i64 x)
  c1 : w.cell? ⟨B, 1, none⟩ = some (.int .i64 y)
theorem Box7.bel {w w' : World} {B : Nat} {x y : Int} (h : Box7 w B x y) (hb : Below w.heap.size w w') : Box7 w' B x y :=
  ⟨(hb.cell (p := ⟨B, 0, none⟩) (cell_ltF h.c0)).trans h.c0, (hb.cell (p := ⟨B, 1, none⟩) (cell_ltF h.c1)).trans h.c1⟩
theorem box_new7 (w : World) (x y : Int) : Box7 (w.alloc (Obj.cells #[Value.int .i64 x, Value.int .i64 y] 25)) w.heap.size x y :=
  ⟨by rw [Lib.cell_of_heap (heap_lastF _ _)]; rfl, by rw [Lib.cell_of_heap (heap_lastF _ _)]; rfl⟩
theorem eqL_self (l : List (Int × Int)) : eqL l l = true := by simp [eqL]
set_option maxHeartbeats 4000000 in
theorem walkSharesMatchReference (secret need total : Int) (vq : Value) (q : List Int) (vl : Value) (l : List (Int × Int)) (root : ByteArray) (sx sy : Int) (vp : Value) (p : List ByteArray) (w : World) (ht : TabOk w)
    (hs64 : -9223372036854775808 ≤ secret ∧ secret ≤ 9223372036854775807) (hn64 : -9223372036854775808 ≤ need ∧ need ≤ 9223372036854775807) (ht64 : -9223372036854775808 ≤ total ∧ total ≤ 9223372036854775807) (hq : IntsOk w vq q) (hl : PtsOk w vl l) (hroot : root.size ≤ maxLen) (hp : StrsOk w vp p) :
    Calls Tryz.prog 3 #[.int .i64 secret, .int .i64 need, .int .i64 total, vq, vl, .string root, .agg #[.int .i64 sx, .int .i64 sy], vp] w fun e w' => e = .returned (.bool true) ∧ Below w.heap.size w w' := by
  clear hs64 ht64
  obtain ⟨qa, cq, rfl, hqa1, hqa2, hqa3, hqa4⟩ := hq.form
  obtain ⟨la, cl, rfl, hla1, hla2, hla3, hla4⟩ := hl.form
  obtain ⟨pa, cp, rfl, hpa1, hpa2⟩ := hp.room
  obtain ⟨nq, hnq⟩ : ∃ n, n = q.length := ⟨_, rfl⟩
  obtain ⟨nl, hnl⟩ : ∃ n, n = l.length := ⟨_, rfl⟩
  obtain ⟨np, hnp⟩ : ∃ n, n = p.length := ⟨_, rfl⟩
  rw [← hnq] at hqa1 hqa4 ⊢
  rw [← hnl] at hla1 hla4 ⊢
  have HQ := Lib.hid hqa4
  have HL := Lib.hid hla4
  have HP := Lib.hid hp
  rw [← hnp] at hpa1 HP ⊢
  have HT := Lib.hid ht
  have HN64 := Lib.hid hn64
  have HNP := Lib.hid hnp
  have hqm : nq ≤ maxLen := by omega
  have hlm : nl ≤ maxLen := by omega
  have HQM := Lib.hid hqm
  have HLC := Lib.hid hla1
  have HCM := Lib.hid hla2
  have hroot' : root.size ≤ 9223372036854775807 := by unfold maxLen at hroot; omega
  have hnq' : nq ≤ 9223372036854775807 := by unfold maxLen at hqm; omega
  have hnl' : nl ≤ 9223372036854775807 := by unfold maxLen at hlm; omega
  have hnp' : np ≤ 9223372036854775807 := by unfold maxLen at hpa2; omega
  have HPL := Lib.hid hp.len
  have HPS := Lib.hid hp.sizes
  clear hqa1 hqa2 hqa3 hqa4 hla1 hla2 hla3 hla4 hpa1 hpa2 hp hq hl ht hn64 hqm hlm hroot hnq hnl hnp
  have D0 := Lib.hid ((Below.refl w.heap.size w).alloc (Nat.le_refl _) (Obj.cells #[Value.int .i64 sx, Value.int .i64 sy] 25))
  have X0 := Lib.hid (box_new7 w sx sy)
  by_cases c1 : 40 < nq
  · go_enter Tryz.func3, Tryz.ntmps3
    go_wp2_with fail
    refine (head7_any _).mono ?_
    rintro e w1 ⟨rfl, hb⟩
    have D1 := Lib.hid (below_then D0.out hb)
    clear hb D0 X0
    go_wp2_with fail
    go_ret
    exact ⟨rfl, D1.out⟩
  by_cases c2 : 40 < nl
  · go_enter Tryz.func3, Tryz.ntmps3
    go_wp2_with fail
    refine (head7_any _).mono ?_
    rintro e w1 ⟨rfl, hb⟩
    have D1 := Lib.hid (below_then D0.out hb)
    clear hb D0 X0
    go_wp2_with fail
    go_ret
    exact ⟨rfl, D1.out⟩
  by_cases c3 : 60 < root.size
  · go_enter Tryz.func3, Tryz.ntmps3
    go_wp2_with fail
    refine (head7_any _).mono ?_
    rintro e w1 ⟨rfl, hb⟩
    have D1 := Lib.hid (below_then D0.out hb)
    clear hb D0 X0
    go_wp2_with fail
    go_ret
    exact ⟨rfl, D1.out⟩
  by_cases c4 : 40 < np
  · go_enter Tryz.func3, Tryz.ntmps3
    go_wp2_with fail
    refine (head7_any _).mono ?_
    rintro e w1 ⟨rfl, hb⟩
    have D1 := Lib.hid (below_then D0.out hb)
    clear hb D0 X0
    go_wp2_with fail
    go_ret
    exact ⟨rfl, D1.out⟩
  obtain ⟨fw, hfw⟩ : ∃ b, b = fewB p 60 := ⟨_, rfl⟩
  have HFW := Lib.hid hfw
  clear hfw
  have cFew : Hid (∀ w', StrsOk w' (.slice pa np cp) p → Calls Tryz.prog 5 #[.slice pa np cp, .int .i64 60] w' fun e w'' => e = .returned (.bool fw) ∧ w' = w'') := Lib.hid (fun w' h => by
    rw [HFW.out]; exact few_any _ p 60 w' h.at_ HPL.out HPS.out)
  cases fw with
  | false =>
    go_enter Tryz.func3, Tryz.ntmps3
    go_wp2_with fail
    refine (head7_any _).mono ?_
    rintro e w1 ⟨rfl, hb⟩
    have D1 := Lib.hid (below_then D0.out hb)
    clear hb D0 X0
    go_wp2_with fail
    refine (cFew.out _ (HP.out.below D1.out)).mono ?_
    rintro e w' ⟨rfl, rfl⟩
    go_wp2_with fail
    go_ret
    exact ⟨rfl, D1.out⟩
  | true =>
    obtain ⟨r, hr⟩ : ∃ r, r = splitE secret need total q := ⟨_, rfl⟩
    have cS : Hid (∀ w', IntsAt w' qa nq q → Calls Tryz.prog 6 #[.int .i64 secret, .int .i64 need, .int .i64 total, .slice qa nq cq] w' (GivesSh r w')) := Lib.hid (fun w' h => by rw [hr]; exact pSplit_any _ _ _ _ _ _ _ _ h HQM.out HN64.out)
    have cR : Hid (∀ w', IntsAt w' qa nq q → Calls Tryz.prog 7 #[.int .i64 secret, .int .i64 need, .int .i64 total, .slice qa nq cq] w' (GivesSh r w')) := Lib.hid (fun w' h => by rw [hr]; exact refSplit_any _ _ _ _ _ _ _ _ h HQM.out HN64.out)
    obtain ⟨jv, hjv⟩ : ∃ r, r = joinE l need := ⟨_, rfl⟩
    have cJ : Hid (∀ w', PtsAt w' la nl l → Calls Tryz.prog 8 #[.slice la nl cl, .int .i64 need] w' (GivesN jv w')) := Lib.hid (fun w' h => by rw [hjv]; exact pJoin_any _ _ _ _ _ _ h (by omega) HLC.out HCM.out)
    have cK : Hid (∀ w', PtsAt w' la nl l → Calls Tryz.prog 9 #[.slice la nl cl, .int .i64 need] w' (GivesN jv w')) := Lib.hid (fun w' h => by rw [hjv]; exact refJoin_any _ _ _ _ _ _ h (by omega))
    obtain ⟨rv, hrv⟩ : ∃ r, r = rootSh l := ⟨_, rfl⟩
    have cM : Hid (∀ w', PtsAt w' la nl l → TabOk w' → Calls Tryz.prog 10 #[.slice la nl cl] w' (GivesSN rv w')) := Lib.hid (fun w' h ht => by rw [hrv]; exact prootSh_any _ _ _ _ _ h (by omega) ht)
    have cN : Hid (∀ w', PtsAt w' la nl l → Calls Tryz.prog 11 #[.slice la nl cl] w' (GivesSN rv w')) := Lib.hid (fun w' h => by rw [hrv]; exact refrootS_any _ _ _ _ _ h)
    obtain ⟨rl, re⟩ := r
    obtain ⟨j1, j2⟩ := jv
    obtain ⟨r1, r2⟩ := rv
    have t1 : (re == re) = true := by simp
    have t2 : (j1 == j1) = true := by simp
    have t3 : (j2 == j2) = true := by simp
    have t4 : (r2 == r2) = true := by simp
    have t5 : (r1.toList == r1.toList) = true := by simp
    have hrl : Hid (rl.length ≤ 1000000) := Lib.hid (by
      have : rl = (splitE secret need total q).1 := by rw [← hr]
      rw [this]; unfold splitE
      split
      · rename_i hA
        simp only
        rw [sharesL_len]
        unfold argsS at hA
        simp only [Bool.and_eq_true, decide_eq_true_eq] at hA
        omega
      · simp)
    clear hr hjv hrv
    go_enter Tryz.func3, Tryz.ntmps3
    go_wp2_with fail
    refine (head7_any _).mono ?_
    rintro e w1 ⟨rfl, hb⟩
    have D1 := Lib.hid (below_then D0.out hb)
    have X1 := Lib.hid (X0.out.bel hb)
    clear hb D0 X0
    go_wp2_with fail
    refine (cFew.out _ (HP.out.below D1.out)).mono ?_
    rintro e w' ⟨rfl, rfl⟩
    go_wp2_with fail
    refine (cS.out _ (HQ.out.bel D1.out)).mono ?_
    rintro e w2 ⟨v1, rfl, hp1, hb⟩
    have D2 := Lib.hid (below_then D1.out hb)
    have X2 := Lib.hid (X1.out.bel hb)
    have P2 := Lib.hid hp1
    clear hb D1 X1 hp1
    go_wp2_with fail
    refine (cR.out _ (HQ.out.bel D2.out)).mono ?_
    rintro e w3 ⟨v2, rfl, hp1, hb⟩
    have D3 := Lib.hid (below_then D2.out hb)
    have X3 := Lib.hid (X2.out.bel hb)
    have P3 := Lib.hid hp1
    obtain ⟨a1, k1, rfl, -, -, -, A1⟩ := P2.out.form
    obtain ⟨a2, k2, rfl, -, -, -, A2⟩ := P3.out.form
    have A13 := Lib.hid (A1.bel hb)
    have A23 := Lib.hid A2
    clear hb D2 X2 hp1 P2 P3 A1 A2
    simp only at A13 A23
    obtain ⟨nr, hnr⟩ : ∃ n, n = rl.length := ⟨_, rfl⟩
    simp only
    rw [← hnr] at A13 A23 hrl ⊢
    clear hnr
    go_wp2_with fail
    refine (cJ.out _ (HL.out.bel D3.out)).mono ?_
    rintro e w4 ⟨rfl, hb⟩
    have D4 := Lib.hid (below_then D3.out hb)
    have X4 := Lib.hid (X3.out.bel hb)
    have A14 := Lib.hid (A13.out.bel hb)
    have A24 := Lib.hid (A23.out.bel hb)
    clear hb D3 X3 A13 A23
    go_wp2_with fail
    refine (cK.out _ (HL.out.bel D4.out)).mono ?_
    rintro e w5 ⟨rfl, hb⟩
    have D5 := Lib.hid (below_then D4.out hb)
    have X5 := Lib.hid (X4.out.bel hb)
    have A15 := Lib.hid (A14.out.bel hb)
    have A25 := Lib.hid (A24.out.bel hb)
    clear hb D4 X4 A14 A24
    go_wp2_with fail
    refine (cM.out _ (HL.out.bel D5.out) (TabOk.below HT.out D5.out)).mono ?_
    rintro e w6 ⟨rfl, hb⟩
    have D6 := Lib.hid (below_then D5.out hb)
    have X6 := Lib.hid (X5.out.bel hb)
    have A16 := Lib.hid (A15.out.bel hb)
    have A26 := Lib.hid (A25.out.bel hb)
    clear hb D5 X5 A15 A25
    go_wp2_with fail
    refine (cN.out _ (HL.out.bel D6.out)).mono ?_
    rintro e w7 ⟨rfl, hb⟩
    have D7 := Lib.hid (below_then D6.out hb)
    have X7 := Lib.hid (X6.out.bel hb)
    have A17 := Lib.hid (A16.out.bel hb)
    have A27 := Lib.hid (A26.out.bel hb)
    clear hb D6 X6 A16 A26
    go_wp2_with fail
    refine (refSame_any _ _ _ _ _ _ rl rl _ A17.out A27.out hrl.out hrl.out).mono ?_
    rintro e w8 ⟨rfl, hb⟩
    rw [eqL_self]
    have D8 := Lib.hid (below_then D7.out hb)
    have X8 := Lib.hid (X7.out.bel hb)
    have P8 := Lib.hid (HP.out.below D8.out)
    have T8 := Lib.hid (TabOk.below HT.out D8.out)
    clear hb D7 X7 A17 A27
    obtain ⟨cb, hcb⟩ : ∃ b, b = checkS root total (sx, sy) p := ⟨_, rfl⟩
    have cY : Hid (∀ w', StrsOk w' (.slice pa np cp) p → TabOk w' → Calls Tryz.prog 13 #[.string root, .int .i64 total, .agg #[.int .i64 sx, .int .i64 sy], .slice pa np cp] w' fun e w'' => e = .returned (.bool cb) ∧ Below w'.heap.size w' w'') := Lib.hid (fun w' h ht => by rw [hcb]; exact pcheckS_any root total sx sy _ p w' h ht)
    have cZ : Hid (∀ w', StrsOk w' (.slice pa np cp) p → Calls Tryz.prog 14 #[.string root, .int .i64 total, .agg #[.int .i64 sx, .int .i64 sy], .slice pa np cp] w' fun e w'' => e = .returned (.bool cb) ∧ Below w'.heap.size w' w'') := Lib.hid (fun w' h => by rw [hcb]; exact refcheckS_any root total sx sy _ p w' h)
    clear hcb
    have t6 : (cb == cb) = true := by simp
    have KP : Hid (∀ w', Below w8.heap.size w8 w' → w'.cell? ⟨w.heap.size, 0, none⟩ = some (.int .i64 sx) ∧ w'.cell? ⟨w.heap.size, 1, none⟩ = some (.int .i64 sy)) := Lib.hid (fun w' hw' => ⟨(X8.out.bel hw').c0, (X8.out.bel hw').c1⟩)
    have HDR : Hid (Below w8.heap.size w8 w8.drew) := Lib.hid (below_drewN (Below.refl _ _) 1)
    go_wp2_with fail
    refine region_quiet7 (C := fun w' => Below w8.heap.size w8 w') (by kernel_rfl) (by kernel_rfl) HDR.out ?_
    repeat (first | go_big_quiet_skip | (go_big_quiet_want; go_big_quiet_op; first | go_big_quiet_on | (apply Exists.intro; refine ⟨fun w' hw' => ?_, ?_⟩; (obtain ⟨q0, q1⟩ := KP.out w' hw'; (try go_simp); first | done | with_reducible exact bool_quiet7 (cY.out w' (P8.out.below hw') (TabOk.below T8.out hw')) hw' | with_reducible exact bool_quiet7 (cZ.out w' (P8.out.below hw')) hw' | exact ⟨rfl, hw'⟩ | exact rfl); go_big_quiet_on)))
    refine wpQuiet_nil ?_
    intro w9 hw9
    go_wp2_with fail
    go_ret
    exact ⟨rfl, below_then D8.out hw9⟩
end Go.Proofs.YtcdnddjoonecdaaGreatDoor
