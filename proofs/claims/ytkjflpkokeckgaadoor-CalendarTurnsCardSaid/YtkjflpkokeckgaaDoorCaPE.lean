/-
  The program's calendar (layer 9): Text and Parse.
-/
import Derived.Test.YtkjflpkokeckgaaDoorCaPD
import Derived.Test.YtkjflpkokeckgaaDoorCaRefC
import Derived.RangeFuncBox
set_option linter.unusedVariables false
set_option maxRecDepth 100000
namespace Go.Proofs.YtkjflpkokeckgaaDoor
open Go.RowKit
open Ca
theorem pText_any (m : Int) (hm : I64 m) (w : World) (he : Env w) : Calls Tryd.prog 14 #[.int .i64 m] w (GivesS (texA m).1 (texA m).2 w) := by
  have cS := Lib.hid (pSplit_any m hm w)
  clear hm
  cases h : isM m with
  | false =>
    have e1 : splA m = (0, 0, 1) := by unfold splA; rw [h]; rfl
    rw [e1] at cS
    have HA : Hid (texA m = ([], 1)) := Lib.hid (by unfold texA; rw [h]; rfl)
    rw [HA.out]
    clear h e1 he
    go_enter Tryd.func14, Tryd.ntmps14
    go_wp2_with fail
    refine cS.out.mono ?_
    rintro e w1 ⟨rfl, hb⟩
    have HB := Lib.hid hb
    clear hb
    go_wp2_with fail
    go_ret2
    exact ⟨rfl, HB.out⟩
  | true =>
    obtain ⟨k, rfl, hk⟩ := isM_yes h
    rw [splA_ok hk] at cS
    have HA := Lib.hid (texA_ok hk)
    rw [HA.out]
    have HT : Hid (textL k = decs (k / 96) ++ 46 :: decs (k % 96)) := Lib.hid rfl
    have HE := Lib.hid he
    have q1 : k / 96 < 400 := by omega
    have q2 : k % 96 < 96 := by omega
    generalize textL k = T at HT ⊢
    generalize k / 96 = q at cS HT q1
    generalize k % 96 = r at cS HT q2
    have HI1 : Hid (∀ w', Env w' → Calls Tryd.prog 24 #[.int .i64 (q : Int)] w' fun e w'' => e = .returned (.string (ba (decs q))) ∧ Below w'.heap.size w' w'') := Lib.hid (fun w' h => by have := itoa_any (q : Int) ⟨by omega, by omega⟩ w' h; rwa [itoa_decs] at this)
    have HI2 : Hid (∀ w', Env w' → Calls Tryd.prog 24 #[.int .i64 (r : Int)] w' fun e w'' => e = .returned (.string (ba (decs r))) ∧ Below w'.heap.size w' w'') := Lib.hid (fun w' h => by have := itoa_any (r : Int) ⟨by omega, by omega⟩ w' h; rwa [itoa_decs] at this)
    have l1 := decs_len 2 q (by omega)
    have l2 := decs_len 1 r (by omega)
    have s1 : (ba (decs q)).size ≤ 3 := by rw [ba_size]; exact l1
    have s2 : (ba (decs r)).size ≤ 2 := by rw [ba_size]; exact l2
    have HX : Hid (ba T = ba (decs q) ++ ⟨#[46]⟩ ++ ba (decs r)) := Lib.hid (by
      rw [HT.out]
      apply bl_inj
      rw [bl_ba, bl_app, bl_app, bl_ba, bl_ba]
      simp [bl])
    generalize ba (decs q) = A at HI1 HX s1
    generalize ba (decs r) = C at HI2 HX s2
    have s3 : (A ++ ⟨#[46]⟩).size = A.size + 1 := by rw [ByteArray.size_append]; rfl
    clear h he l1 l2 HT hk
    go_enter Tryd.func14, Tryd.ntmps14
    go_wp2_with fail
    refine cS.out.mono ?_
    rintro e w1 ⟨rfl, hb⟩
    have HB := Lib.hid hb
    have HE1 := Lib.hid (HE.out.below hb)
    clear hb
    go_wp2_with fail
    refine (HI1.out _ HE1.out).mono ?_
    rintro e w2 ⟨rfl, hb⟩
    have HB2 := Lib.hid (HB.out.trans (hb.mono HB.out.size))
    have HE2 := Lib.hid (HE1.out.below hb)
    clear hb
    go_wp2_with fail
    refine (HI2.out _ HE2.out).mono ?_
    rintro e w3 ⟨rfl, hb⟩
    have HB3 := Lib.hid (HB2.out.trans (hb.mono HB2.out.size))
    clear hb
    go_wp2_with fail
    go_ret2
    exact ⟨by rw [HX.out]; rfl, HB3.out⟩
/-- all but block B is kept -/
structure BesC (B : Nat) (w w' : World) : Prop where
  os : w'.os = w.os
  tape : w'.tape = w.tape
  output : w'.output = w.output
  size : w.heap.size ≤ w'.heap.size
  block : ∀ k, k < w.heap.size → k ≠ B → w'.heap[k]? = w.heap[k]?
theorem BesC.low {B n : Nat} {w w' : World} (h : BesC B w w') (hB : n ≤ B) (hn : n ≤ w.heap.size) : Below n w w' := ⟨h.os, h.tape, h.output, h.size, fun k hk => h.block k (by omega) (by omega)⟩
theorem BesC.of {B : Nat} {w w' : World} (h : Below w.heap.size w w') (u : Value) : BesC B w (w'.setCell ⟨B, 0, none⟩ u) :=
  ⟨h.os, h.tape, h.output, by simpa using h.size, fun k hk hne => (Below.heap_setCell w' ⟨B, 0, none⟩ u k hne).trans (h.block k hk)⟩
theorem boxed_bel {W W' : World} {b : Nat} {t : TypeId} {v : Value} (h : Boxed W b t v) (hb : Below W.heap.size W W') : Boxed W' b t v := (hb.block _ h.lt).trans h
/-- what the closure of Parse leaves -/
structure NumP (Q : Nat) (d : ByteArray) (b : Bool) (w : World) (e : Ending) (w' : World) : Prop where
  ret : ∃ v, I64 v ∧ e = .returned (.int .i64 v) ∧ ∀ u, numO (bl d) = some u → v = u
  box : Boxed w' Q 4 (.bool (b && (numO (bl d)).isSome))
  bes : BesC Q w w'
theorem num_bad (d : ByteArray) (hd : d.size ≤ 1000000) (Q : Nat) (b : Bool) (w : World) (hq : Boxed w Q 4 (.bool b)) (he : Env w) (h : ∀ v, Lib.atoiAll (bl d) ≠ .ok v) :
    Calls Tryd.prog 26 #[.string d, .pointer (some ⟨Q, 0, none⟩)] w (NumP Q d b w) := by
  have cA := Lib.hid (atoi_no d hd h w he)
  have HN : Hid (numO (bl d) = none) := Lib.hid (by
    unfold numO
    split
    · rename_i v hv; exact absurd hv (h v)
    · rfl)
  have HQ := Lib.hid hq
  clear h he hq
  go_enter Tryd.func26, Tryd.ntmps26
  go_wp2_with fail
  refine cA.out.mono ?_
  rintro e w1 ⟨v, t, p, hv, rfl, hb⟩
  have HV := Lib.hid hv
  have HB := Lib.hid hb
  have HQ1 := Lib.hid (boxed_bel HQ.out hb)
  have k1 := HQ1.out.cell
  have f1 := HQ1.out.frozen
  clear hv hb
  cases b with
  | true =>
    go_wp2_with fail
    go_ret
    exact ⟨⟨v, HV.out, rfl, fun u hu => by rw [HN.out] at hu; cases hu⟩, by rw [HN.out]; exact HQ1.out.set _, BesC.of HB.out _⟩
  | false =>
    go_wp2_with fail
    go_ret
    exact ⟨⟨v, HV.out, rfl, fun u hu => by rw [HN.out] at hu; cases hu⟩, by rw [HN.out]; exact HQ1.out.set _, BesC.of HB.out _⟩
theorem num_good (d : ByteArray) (hd : d.size ≤ 1000000) (Q : Nat) (b : Bool) (w : World) (hq : Boxed w Q 4 (.bool b)) (he : Env w) (v : Int) (h : Lib.atoiAll (bl d) = .ok v) :
    Calls Tryd.prog 26 #[.string d, .pointer (some ⟨Q, 0, none⟩)] w (NumP Q d b w) := by
  have cA := Lib.hid (atoi_ok d hd v h w)
  have HV : Hid (I64 v) := Lib.hid (Lib.atoiAll_bounds h)
  have HI : Hid (∀ w', Env w' → Calls Tryd.prog 24 #[.int .i64 v] w' fun e w'' => e = .returned (.string (ba (Lib.itoa v))) ∧ Below w'.heap.size w' w'') := Lib.hid (fun w' h => itoa_any v HV.out w' h)
  obtain ⟨T, hT⟩ : ∃ T, T = ba (Lib.itoa v) := ⟨_, rfl⟩
  have HN : Hid (numO (bl d) = if T = d then some v else none) := Lib.hid (by
    unfold numO
    rw [h]
    simp only
    by_cases c : T = d
    · rw [if_pos c, if_pos (by rw [← c, hT, bl_ba])]
    · rw [if_neg c, if_neg (fun q => c (by rw [hT, q, ba_bl]))])
  have HVU : Hid (∀ u, numO (bl d) = some u → v = u) := Lib.hid (by
    intro u hu
    rw [HN.out] at hu
    split at hu
    · exact Option.some.inj hu
    · cases hu)
  rw [← hT] at HI
  have HQ := Lib.hid hq
  have HE := Lib.hid he
  have sb := str_beq T d
  clear h he hq hT
  go_enter Tryd.func26, Tryd.ntmps26
  go_wp2_with fail
  refine cA.out.mono ?_
  rintro e w1 ⟨rfl, hb⟩
  have HB := Lib.hid hb
  have HQ1 := Lib.hid (boxed_bel HQ.out hb)
  have HE1 := Lib.hid (HE.out.below hb)
  have k1 := HQ1.out.cell
  have f1 := HQ1.out.frozen
  clear hb
  cases b with
  | true =>
    go_wp2_with fail
    refine (HI.out _ HE1.out).mono ?_
    rintro e w2 ⟨rfl, hb⟩
    have HB2 := Lib.hid (HB.out.trans (hb.mono HB.out.size))
    have HQ2 := Lib.hid (boxed_bel HQ1.out hb)
    have k2 := HQ2.out.cell
    have f2 := HQ2.out.frozen
    clear hb k1 f1
    by_cases c : T = d
    · have dc : decide (T = d) = true := decide_eq_true c
      rw [dc] at sb
      have HNN : Hid (numO (bl d) = some v) := Lib.hid (by rw [HN.out, if_pos c])
      clear c dc
      go_wp2_with fail
      go_ret
      exact ⟨⟨v, HV.out, rfl, fun u hu => by rw [HNN.out] at hu; injection hu⟩, by rw [HNN.out]; exact HQ2.out.set _, BesC.of HB2.out _⟩
    · have dc : decide (T = d) = false := decide_eq_false c
      rw [dc] at sb
      have HNN : Hid (numO (bl d) = none) := Lib.hid (by rw [HN.out, if_neg c])
      clear c dc
      go_wp2_with fail
      go_ret
      exact ⟨⟨v, HV.out, rfl, fun u hu => by rw [HNN.out] at hu; cases hu⟩, by rw [HNN.out]; exact HQ2.out.set _, BesC.of HB2.out _⟩
  | false =>
    go_wp2_with fail
    go_ret
    exact ⟨⟨v, HV.out, rfl, HVU.out⟩, HQ1.out.set _, BesC.of HB.out _⟩
theorem num_any (d : ByteArray) (hd : d.size ≤ 1000000) (Q : Nat) (b : Bool) (w : World) (hq : Boxed w Q 4 (.bool b)) (he : Env w) :
    Calls Tryd.prog 26 #[.string d, .pointer (some ⟨Q, 0, none⟩)] w (NumP Q d b w) := by
  by_cases h : ∃ v, Lib.atoiAll (bl d) = .ok v
  · obtain ⟨v, h⟩ := h
    exact num_good d hd Q b w hq he v h
  · exact num_bad d hd Q b w hq he (fun v hv => h ⟨v, hv⟩)
end Go.Proofs.YtkjflpkokeckgaaDoor
