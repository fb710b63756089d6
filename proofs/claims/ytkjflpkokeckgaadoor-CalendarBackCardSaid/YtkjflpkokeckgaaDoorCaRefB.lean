/-
  The document's own answers of layer 9: strings of moments, the next moment.
-/
import Derived.Test.YtkjflpkokeckgaaDoorCaRefA
set_option linter.unusedVariables false
set_option maxRecDepth 100000
namespace Go.Proofs.YtkjflpkokeckgaaDoor
open Go.RowKit
open Ca
theorem cut_digit {n : Nat} (h : n < 10) (w : World) : (Instr.slice 9 (.string ⟨#[48, 49, 50, 51, 52, 53, 54, 55, 56, 57]⟩) (some (.int .i64 (n : Int))) (some (.int .i64 ((n : Int) + 1))) none).run Tryd.prog w = .ok (.string (ba (decs n))) w := by
  rw [decs_small h]
  match n, h with
  | 0, _ => rfl
  | 1, _ => rfl
  | 2, _ => rfl
  | 3, _ => rfl
  | 4, _ => rfl
  | 5, _ => rfl
  | 6, _ => rfl
  | 7, _ => rfl
  | 8, _ => rfl
  | 9, _ => rfl
  | n + 10, h => exact absurd h (by omega)
def lim : Nat → Nat
  | 0 => 100000
  | 1 => 10000
  | 2 => 1000
  | 3 => 100
  | 4 => 10
  | _ => 1
theorem lim_next {i q : Nat} (h : q < lim i) : q / 10 < lim (i + 1) := by
  match i, h with
  | 0, h => simp only [lim] at h ⊢; omega
  | 1, h => simp only [lim] at h ⊢; omega
  | 2, h => simp only [lim] at h ⊢; omega
  | 3, h => simp only [lim] at h ⊢; omega
  | 4, h => simp only [lim] at h ⊢; omega
  | n + 5, h => simp only [lim] at h ⊢; omega
theorem lim_few {i q : Nat} (h : q < lim i) (hq : 0 < q) : i < 5 := by
  rcases Nat.lt_or_ge i 5 with h5 | h5
  · exact h5
  · obtain ⟨k, rfl⟩ : ∃ k, i = k + 5 := ⟨i - 5, by omega⟩
    simp only [lim] at h; omega
theorem lim_le {i q : Nat} (h : q < lim i) : q < 100000 := by
  match i, h with
  | 0, h => simp only [lim] at h; omega
  | 1, h => simp only [lim] at h; omega
  | 2, h => simp only [lim] at h; omega
  | 3, h => simp only [lim] at h; omega
  | 4, h => simp only [lim] at h; omega
  | n + 5, h => simp only [lim] at h; omega
/-- the digits so far -/
def Digs (n q i : Nat) (T : Bs) : Prop := q < lim i ∧ T.length ≤ i ∧ i ≤ 6 ∧ ((i = 0 ∧ q = n ∧ T = []) ∨ (1 ≤ i ∧ ((q = 0 ∧ T = decs n) ∨ (0 < q ∧ decs n = decs q ++ T))))
theorem Digs.next {n q i : Nat} {T : Bs} (h : Digs n q i T) (hg : i = 0 ∨ 0 < q) : Digs n (q / 10) (i + 1) (decs (q % 10) ++ T) := by
  obtain ⟨h1, h2, h3, h4⟩ := h
  have hi : i < 6 := by
    rcases hg with h | h
    · omega
    · have := lim_few h1 h; omega
  refine ⟨lim_next h1, by rw [decs_small (Nat.mod_lt _ (by omega))]; simp; omega, by omega, .inr ⟨by omega, ?_⟩⟩
  have key : decs n = decs q ++ T := by
    rcases h4 with ⟨e1, e2, e3⟩ | ⟨e1, ⟨e2, e3⟩ | ⟨e2, e3⟩⟩
    · rw [e2, e3, List.append_nil]
    · rcases hg with h | h <;> omega
    · exact e3
  by_cases hq : q < 10
  · left
    refine ⟨by omega, ?_⟩
    rw [key, Nat.mod_eq_of_lt hq]
  · right
    refine ⟨by omega, ?_⟩
    rw [key, decs_big hq, decs_small (Nat.mod_lt _ (by omega)), List.append_assoc]
set_option maxHeartbeats 1000000 in
theorem refdigits_any (n : Nat) (w : World) (hn : n < 100000) : Calls Tryd.prog 25 #[.int .i64 (n : Int)] w fun e w' => e = .returned (.string (ba (decs n))) ∧ w = w' := by
  have h0 : Hid (Digs n n 0 []) := Lib.hid ⟨hn, by simp, by omega, .inl ⟨rfl, rfl, rfl⟩⟩
  obtain ⟨R, hR⟩ : ∃ R, R = ba (decs n) := ⟨_, rfl⟩
  have HR := Lib.hid hR
  rw [← hR]
  clear hR
  go_enter Tryd.func25, Tryd.ntmps25
  go_wp2_with fail
  go_loopw [0, 3, 4] (fun vq vo vi wr => ∃ (q i : Nat) (X : ByteArray), vq = .int .i64 (q : Int) ∧ vi = .int .i64 (i : Int) ∧ vo = .string X ∧ Hid (Digs n q i (bl X)) ∧ w = wr) (fun _ _ vi _ => 10 - (intOf vi).toNat)
  case atStart => exact ⟨n, 0, ⟨#[]⟩, rfl, rfl, rfl, h0, rfl⟩
  case round =>
    clear h0
    obtain ⟨q, i, X, rfl, rfl, rfl, hD, rfl⟩ := hrel
    have hi6 := hD.out.2.2.1
    have hql := lim_le hD.out.1
    have hXs : X.size ≤ 6 := by have := hD.out.2.1; rw [bl_len] at this; omega
    have go : (i = 0 ∨ 0 < q) → Hid (Digs n (q / 10) (i + 1) (decs (q % 10) ++ bl X)) := fun hg => Lib.hid (hD.out.next hg)
    have e3 : Int.tdiv (q : Int) 10 = ((q / 10 : Nat) : Int) := by rw [Int.tdiv_eq_ediv_of_nonneg (by omega)]; omega
    have e4 : Int.tmod (q : Int) 10 = ((q % 10 : Nat) : Int) := by rw [Int.tmod_eq_emod_of_nonneg (by omega)]; omega
    have e5 : (q : Int) / 10 = ((q / 10 : Nat) : Int) := by omega
    have e6 : (q : Int) % 10 = ((q % 10 : Nat) : Int) := by omega
    have hr10 : q % 10 < 10 := Nat.mod_lt _ (by omega)
    have cD := fun w => cut_digit hr10 w
    have hds : (ba (decs (q % 10))).size = 1 := by rw [ba_size, decs_small hr10]; rfl
    have happ : Hid (decs (q % 10) ++ bl X = bl (ba (decs (q % 10)) ++ X)) := Lib.hid (by rw [bl_app, bl_ba])
    by_cases hz : i = 0
    · have t0 : ((i : Int) == 0) = true := by rw [hz]; rfl
      have G := go (.inl hz)
      rw [happ.out] at G
      have hq2 : q / 10 < 100000 := by omega
      generalize q / 10 = q2 at e3 e5 G hq2
      generalize q % 10 = r at e4 e6 hr10 cD hds G
      generalize ba (decs r) = DS at cD hds G
      have n1 : ¬ (9223372036854775807 < DS.size + X.size) := by omega
      have n2 : ¬ (9223372036854775807 < 1 + X.size) := by omega
      have f1 : IntKind.i64.wrap ((r : Int) + 1) = (r : Int) + 1 := IntWalk.i64_in _ (by omega)
      have f2 : IntKind.i64.wrap ((i : Int) + 1) = (i : Int) + 1 := IntWalk.i64_in _ (by omega)
      have HDS := Lib.hid hds
      clear hz go hD happ hds hXs hql
      go_wp2_with fail
      go_roundw
      case rel => exact ⟨q2, i + 1, DS ++ X, by go_num, by go_num, rfl, G, trivial⟩
      case measure => simp [intOf]; omega
    · have t0 : ((i : Int) == 0) = false := by simp; omega
      by_cases hq0 : 0 < q
      · have hi5 := lim_few hD.out.1 hq0
        have t1 : decide ((0 : Int) < (q : Int)) = true := decide_eq_true (by omega)
        have t2 : decide ((i : Int) < 6) = true := decide_eq_true (by omega)
        have G := go (.inr hq0)
        rw [happ.out] at G
        have hq2 : q / 10 < 100000 := by omega
        generalize q / 10 = q2 at e3 e5 G hq2
        generalize q % 10 = r at e4 e6 hr10 cD hds G
        generalize ba (decs r) = DS at cD hds G
        have n1 : ¬ (9223372036854775807 < DS.size + X.size) := by omega
        have n2 : ¬ (9223372036854775807 < 1 + X.size) := by omega
        have f1 : IntKind.i64.wrap ((r : Int) + 1) = (r : Int) + 1 := IntWalk.i64_in _ (by omega)
        have f2 : IntKind.i64.wrap ((i : Int) + 1) = (i : Int) + 1 := IntWalk.i64_in _ (by omega)
        have HDS := Lib.hid hds
        clear hz go hD happ hds hXs hql
        go_wp2_with fail
        go_roundw
        case rel => exact ⟨q2, i + 1, DS ++ X, by go_num, by go_num, rfl, G, trivial⟩
        case measure => simp [intOf]; omega
      · have hfin : Hid (X = R) := Lib.hid (by
          rw [HR.out]
          apply bl_inj
          rw [bl_ba]
          obtain ⟨-, -, -, h4⟩ := hD.out
          rcases h4 with ⟨e1, -⟩ | ⟨-, ⟨-, e⟩ | ⟨e, -⟩⟩
          · exact absurd e1 hz
          · exact e
          · exact absurd e hq0)
        have t1 : decide ((0 : Int) < (q : Int)) = false := decide_eq_false (by omega)
        clear hz go hD happ hds hXs cD e3 e4 e5 e6 hr10
        go_wp2_with fail
        go_ret
        exact ⟨by rw [← hfin.out]; rfl, rfl⟩
theorem refText_any (m : Int) (w : World) : Calls Tryd.prog 15 #[.int .i64 m] w (GivesS (texA m).1 (texA m).2 w) := by
  have cI := Lib.hid (refIs_any m w)
  cases h : isM m with
  | false =>
    rw [h] at cI
    have HA : Hid (texA m = ([], 1)) := Lib.hid (by unfold texA; rw [h]; rfl)
    rw [HA.out]
    clear h
    go_enter Tryd.func15, Tryd.ntmps15
    go_wp2_with fail
    refine cI.out.mono ?_
    rintro e w' ⟨rfl, rfl⟩
    go_wp2_with fail
    go_ret2
    exact ⟨rfl, Below.refl _ _⟩
  | true =>
    rw [h] at cI
    obtain ⟨k, rfl, hk⟩ := isM_yes h
    have HA := Lib.hid (texA_ok hk)
    rw [HA.out]
    have e3 : Int.tdiv (k : Int) 96 = ((k / 96 : Nat) : Int) := by rw [Int.tdiv_eq_ediv_of_nonneg (by omega)]; omega
    have e4 : Int.tmod (k : Int) 96 = ((k % 96 : Nat) : Int) := by rw [Int.tmod_eq_emod_of_nonneg (by omega)]; omega
    have e5 : (k : Int) / 96 = ((k / 96 : Nat) : Int) := by omega
    have e6 : (k : Int) % 96 = ((k % 96 : Nat) : Int) := by omega
    have q1 : k / 96 < 400 := by omega
    have q2 : k % 96 < 96 := by omega
    have c1 := Lib.hid (fun w => refdigits_any (k / 96) w (by omega))
    have c2 := Lib.hid (fun w => refdigits_any (k % 96) w (by omega))
    have l1 : (ba (decs (k / 96))).size ≤ 3 := by rw [ba_size]; exact decs_len 2 _ (by omega)
    have l2 : (ba (decs (k % 96))).size ≤ 3 := by rw [ba_size]; exact decs_len 2 _ (by omega)
    have HX : Hid (ba (textL k) = (ba (decs (k / 96)) ++ ⟨#[46]⟩) ++ ba (decs (k % 96))) := Lib.hid (by
      have e46 : (⟨#[46]⟩ : ByteArray) = ba [46] := rfl
      rw [textL, e46, ← ba_app, ← ba_app, List.append_assoc]; rfl)
    unfold GivesS
    generalize ba (textL k) = X at HX
    generalize ba (decs (k / 96)) = Y at HX c1 l1
    generalize ba (decs (k % 96)) = Z at HX c2 l2
    generalize k / 96 = q at e3 e5 q1 c1
    generalize k % 96 = r at e4 e6 q2 c2
    have s1 : (⟨#[46]⟩ : ByteArray).size = 1 := rfl
    have n1 : ¬ (9223372036854775807 < Y.size + (⟨#[46]⟩ : ByteArray).size) := by rw [s1]; omega
    have n2 : ¬ (9223372036854775807 < (Y ++ (⟨#[46]⟩ : ByteArray)).size + Z.size) := by rw [ByteArray.size_append, s1]; omega
    clear h s1
    go_enter Tryd.func15, Tryd.ntmps15
    go_wp2_with fail
    refine cI.out.mono ?_
    rintro e w' ⟨rfl, rfl⟩
    go_wp2_with fail
    refine (c1.out _).mono ?_
    rintro e w' ⟨rfl, rfl⟩
    go_wp2_with fail
    refine (c2.out _).mono ?_
    rintro e w' ⟨rfl, rfl⟩
    go_wp2_with fail
    go_ret2
    exact ⟨by rw [HX.out]; rfl, Below.refl _ _⟩
set_option maxHeartbeats 1000000 in
theorem refNext_any (m a : Int) (w : World) : Calls Tryd.prog 19 #[.int .i64 m, .int .i64 a] w (GivesN (nexA m a).1 (nexA m a).2 w) := by
  have cI := Lib.hid (refIs_any m w)
  by_cases hok : okMA m a = true
  · have hok2 := hok
    simp only [okMA, Bool.and_eq_true, decide_eq_true_eq] at hok2
    obtain ⟨hm, ha1, ha2⟩ := hok2
    rw [hm] at cI
    obtain ⟨k, rfl, hk⟩ := isM_yes hm
    obtain ⟨b, rfl⟩ : ∃ b : Nat, a = (b : Int) := ⟨a.toNat, by omega⟩
    have hb : b < 5760 := by omega
    have HA := Lib.hid (nexA_ok hk hb)
    obtain ⟨R, hR⟩ : ∃ R, R = nexA (k : Int) (b : Int) := ⟨_, rfl⟩
    rw [← hR] at HA ⊢
    have t1 : decide ((b : Int) < 0) = false := decide_eq_false (by omega)
    have t2 : decide (5759 < (b : Int)) = false := decide_eq_false (by omega)
    clear hok hm ha1 ha2 hR
    go_enter Tryd.func19, Tryd.ntmps19
    go_wp2_with fail
    refine cI.out.mono ?_
    rintro e w' ⟨rfl, rfl⟩
    go_wp2_with fail
    go_loopw [6] (fun vi wr => ∃ i : Nat, k ≤ i ∧ i ≤ 38400 ∧ vi = .int .i64 (i : Int) ∧ Hid (∀ y, k ≤ y → y < i → hits y b = false) ∧ Below w.heap.size w wr) (fun vi _ => 38400 - (intOf vi).toNat)
    case atStart => exact ⟨k, by omega, by omega, rfl, Lib.hid (fun y h1 h2 => by omega), Below.refl _ _⟩
    case round =>
      obtain ⟨i, hi1, hi2, rfl, hx, hbel⟩ := hrel
      have HBL := Lib.hid hbel
      clear hbel
      by_cases hlt : i < 38400
      · have t3 : decide ((i : Int) ≤ 38399) = true := decide_eq_true (by omega)
        have cS := Lib.hid (refSid_any (i : Int) wr)
        rw [sidA_ok hlt] at cS
        obtain ⟨S, hS⟩ : ∃ S, S = sid i := ⟨_, rfl⟩
        have hSl : S < 5760 := by rw [hS]; exact sid_lt i
        rw [← hS] at cS
        have hh : hits i b = decide ((S + 5760 - b) % 5760 < 60) := by rw [hS]; rfl
        have f1 : IntKind.i64.wrap ((S : Int) - (b : Int)) = (S : Int) - (b : Int) := IntWalk.i64_in _ (by omega)
        have f2 : IntKind.i64.wrap ((S : Int) - (b : Int) + 5760) = (S : Int) - (b : Int) + 5760 := IntWalk.i64_in _ (by omega)
        obtain ⟨z, hz⟩ : ∃ z : Nat, z = (S + 5760 - b) % 5760 := ⟨_, rfl⟩
        have f3 : Int.tmod ((S : Int) - (b : Int) + 5760) 5760 = (z : Int) := by rw [Int.tmod_eq_emod_of_nonneg (by omega)]; omega
        have f4 : ((S : Int) - (b : Int) + 5760) % 5760 = (z : Int) := by omega
        rw [← hz] at hh
        by_cases h60 : z < 60
        · rw [decide_eq_true h60] at hh
          have HN : Hid (nextF k b = some i) := Lib.hid (nextF_some hi1 hlt hh hx.out)
          have HR : Hid (R = (((i : Nat) : Int), 0)) := Lib.hid (by rw [HA.out, HN.out])
          have t4 : decide ((z : Int) < 60) = true := decide_eq_true (by omega)
          clear hh hS hz hx h60
          go_wp2_with fail
          refine cS.out.mono ?_
          rintro e w1 ⟨rfl, hb1⟩
          have D1 := Lib.hid (HBL.out.trans (hb1.mono HBL.out.size))
          clear hb1
          go_wp2_with fail
          go_ret2
          rw [HR.out]
          exact ⟨rfl, D1.out⟩
        · rw [decide_eq_false h60] at hh
          have HX2 : Hid (∀ y, k ≤ y → y < i + 1 → hits y b = false) := Lib.hid (fun y h1 h2 => by
            by_cases e : y = i
            · rw [e]; exact hh
            · exact hx.out y h1 (by omega))
          have t4 : decide ((z : Int) < 60) = false := decide_eq_false (by omega)
          have f5 : IntKind.i64.wrap ((i : Int) + 1) = (i : Int) + 1 := IntWalk.i64_in _ (by omega)
          clear hh hS hz hx h60
          go_wp2_with fail
          refine cS.out.mono ?_
          rintro e w1 ⟨rfl, hb1⟩
          have D1 := Lib.hid (HBL.out.trans (hb1.mono HBL.out.size))
          clear hb1
          go_wp2_with fail
          go_roundw
          case rel => exact ⟨i + 1, by omega, by omega, by go_num, HX2, D1.out⟩
          case measure => simp [intOf]; omega
      · have t3 : decide ((i : Int) ≤ 38399) = false := decide_eq_false (by omega)
        have HN : Hid (nextF k b = none) := Lib.hid (nextF_none (fun y h1 h2 => hx.out y h1 (by omega)))
        have HR : Hid (R = (0, 9)) := Lib.hid (by rw [HA.out, HN.out])
        clear hx
        go_wp2_with fail
        go_ret2
        rw [HR.out]
        exact ⟨rfl, HBL.out⟩
  · have HA : Hid (nexA m a = (0, 1)) := Lib.hid (by unfold nexA; rw [if_neg hok])
    rw [HA.out]
    cases hm : isM m with
    | false =>
      rw [hm] at cI
      clear hok hm
      go_enter Tryd.func19, Tryd.ntmps19
      go_wp2_with fail
      refine cI.out.mono ?_
      rintro e w' ⟨rfl, rfl⟩
      go_wp2_with fail
      go_ret2
      exact ⟨rfl, Below.refl _ _⟩
    | true =>
      rw [hm] at cI
      have hno : ¬ (0 ≤ a ∧ a ≤ 5759) := fun h => hok (by unfold okMA; rw [hm]; simpa using h)
      clear hok hm
      by_cases h1 : a < 0
      · have t1 : decide (a < 0) = true := decide_eq_true h1
        clear hno
        go_enter Tryd.func19, Tryd.ntmps19
        go_wp2_with fail
        refine cI.out.mono ?_
        rintro e w' ⟨rfl, rfl⟩
        go_wp2_with fail
        go_ret2
        exact ⟨rfl, Below.refl _ _⟩
      · have t1 : decide (a < 0) = false := decide_eq_false h1
        have t2 : decide (5759 < a) = true := decide_eq_true (by omega)
        clear hno
        go_enter Tryd.func19, Tryd.ntmps19
        go_wp2_with fail
        refine cI.out.mono ?_
        rintro e w' ⟨rfl, rfl⟩
        go_wp2_with fail
        go_ret2
        exact ⟨rfl, Below.refl _ _⟩
end Go.Proofs.YtkjflpkokeckgaaDoor
