/-
  The law AirmassWindows (layer 11): its walk.
-/
import Derived.Test.YtebkifhdbpeeoaaAmHead
set_option linter.unusedVariables false
set_option maxRecDepth 100000
namespace Go.Proofs.Ytebkifhdbpeeoaa
open Go.RowKit
open Ca (sid sid_lt sid_slot sid_night)
open Am
theorem spn_len {w : World} {ad : Option Addr} {l : List (Nat × Nat)} {n : Nat} (h : SpnAt w ad n (intsS l)) : n = l.length := by have := h.len; rwa [intsS_len] at this
theorem spn_at {w : World} {b off n k : Nat} {l : List (Nat × Nat)} (h : SpnAt w (some ⟨b, off, none⟩) n (intsS l)) (hk : k < l.length) : w.cell? ⟨b, off + k * 2, none⟩ = some (.int .i64 ((l[k].1 : Nat) : Int)) ∧ w.cell? ⟨b, off + k * 2 + 1, none⟩ = some (.int .i64 ((l[k].2 : Nat) : Int)) := by
  have := h.cell (j := k) (by rwa [intsS_len])
  rwa [intsS_get] at this
theorem inW_hit {l : List (Nat × Nat)} {s k : Nat} (hk : k < l.length) (h1 : l[k].1 ≤ s) (h2 : s ≤ l[k].2) : inW l s = true := by
  unfold inW
  exact List.any_eq_true.2 ⟨l[k], List.getElem_mem hk, by simp [h1, h2]⟩
theorem inW_none {l : List (Nat × Nat)} {s : Nat} (h : ∀ j (hj : j < l.length), ¬ (l[j].1 ≤ s ∧ s ≤ l[j].2)) : inW l s = false := by
  unfold inW
  rw [List.any_eq_false]
  intro x hx
  obtain ⟨j, hj, e⟩ := List.getElem_of_mem hx
  have := h j hj
  rw [e] at this
  simpa using this
set_option maxHeartbeats 2000000 in
theorem in_any (ad : Option Addr) (n cap : Nat) (l : List (Nat × Nat)) (s : Nat) (hs : s ≤ 1000000) (hn : n ≤ 1000000) (w : World) (h : SpnAt w ad n (intsS l)) : Calls Try.prog 22 #[.slice ad n cap, .int .i64 (s : Int)] w fun e w' => e = .returned (.bool (inW l s)) ∧ Below w.heap.size w w' := by
  have HN := Lib.hid (spn_len h)
  have A0 := Lib.hid h
  have D0 : Hid (Below w.heap.size w w) := Lib.hid (Below.refl _ _)
  clear h
  go_enter Try.func22, Try.ntmps22
  go_wp2_with fail
  go_loopw [5] (fun ii wr => ∃ k : Nat, k ≤ n ∧ ii = .int .i64 (k : Int) ∧ Hid (∀ j (hj : j < l.length), j < k → ¬ (l[j].1 ≤ s ∧ s ≤ l[j].2)) ∧ Hid (Below w.heap.size w wr)) (fun ii _ => n - (intOf ii).toNat)
  case atStart => exact ⟨0, by omega, rfl, Lib.hid (fun j hj h => by omega), D0⟩
  case round =>
    obtain ⟨k, hk, rfl, hJ, hD⟩ := hrel
    by_cases hlt : k < n
    · have hkl : k < l.length := by have := HN.out; omega
      obtain ⟨b, off, rfl⟩ := A0.out.at0 (k := k) (by rw [intsS_len]; exact hkl)
      obtain ⟨hc1, hc2⟩ := spn_at (A0.out.bel hD.out) hkl
      obtain ⟨f, hf⟩ : ∃ f, f = l[k].1 := ⟨_, rfl⟩
      obtain ⟨u, hu⟩ : ∃ f, f = l[k].2 := ⟨_, rfl⟩
      rw [← hf] at hc1
      rw [← hu] at hc2
      have HF := Lib.hid hf
      have HU := Lib.hid hu
      have q1 : (0 : Int) ≤ (k : Int) := by omega
      have q2 : (k : Int) < (n : Int) := by omega
      have f1 : IntKind.i64.wrap ((k : Int) + 1) = (k : Int) + 1 := IntWalk.i64_in _ (by omega)
      clear hf hu
      by_cases h1 : f ≤ s
      · have t1 : decide ((f : Int) ≤ (s : Int)) = true := decide_eq_true (by omega)
        have t2 : decide (f ≤ s) = true := decide_eq_true h1
        by_cases h2 : s ≤ u
        · have t3 : decide ((s : Int) ≤ (u : Int)) = true := decide_eq_true (by omega)
          have t4 : decide (s ≤ u) = true := decide_eq_true h2
          have HR : Hid (inW l s = true) := Lib.hid (inW_hit hkl (by rw [← HF.out]; exact h1) (by rw [← HU.out]; exact h2))
          clear h1 h2
          go_wp2_with fail
          go_ret
          exact ⟨by rw [HR.out]; rfl, hD.out⟩
        · have t3 : decide ((s : Int) ≤ (u : Int)) = false := decide_eq_false (by omega)
          have t4 : decide (s ≤ u) = false := decide_eq_false h2
          have HJ2 : Hid (∀ j (hj : j < l.length), j < k + 1 → ¬ (l[j].1 ≤ s ∧ s ≤ l[j].2)) := Lib.hid (fun j hj h => by
            by_cases e : j = k
            · subst e; rw [← HU.out]; exact fun q => h2 q.2
            · exact hJ.out j hj (by omega))
          clear h1 h2
          go_wp2_with fail
          go_roundw
          case rel => exact ⟨k + 1, by omega, by go_num, HJ2, hD⟩
          case measure => simp [intOf]; omega
      · have t1 : decide ((f : Int) ≤ (s : Int)) = false := decide_eq_false (by omega)
        have t2 : decide (f ≤ s) = false := decide_eq_false h1
        have HJ2 : Hid (∀ j (hj : j < l.length), j < k + 1 → ¬ (l[j].1 ≤ s ∧ s ≤ l[j].2)) := Lib.hid (fun j hj h => by
          by_cases e : j = k
          · subst e; rw [← HF.out]; exact fun q => h1 q.1
          · exact hJ.out j hj (by omega))
        clear h1
        go_wp2_with fail
        go_roundw
        case rel => exact ⟨k + 1, by omega, by go_num, HJ2, hD⟩
        case measure => simp [intOf]; omega
    · have HR : Hid (inW l s = false) := Lib.hid (inW_none (fun j hj => hJ.out j hj (by have := HN.out; omega)))
      go_wp2_with fail
      go_ret
      exact ⟨by rw [HR.out]; rfl, hD.out⟩
def cov (l : List (Nat × Nat)) (x : Nat × Nat) (j : Nat) : Bool := (l.take j).any fun v => decide (v.1 ≤ x.1) && decide (x.2 ≤ v.2)
theorem cov_zero (l : List (Nat × Nat)) (x : Nat × Nat) : cov l x 0 = false := by unfold cov; rw [List.take_zero]; rfl
theorem cov_succ {l : List (Nat × Nat)} {j : Nat} (x : Nat × Nat) (h : j < l.length) : cov l x (j + 1) = (cov l x j || (decide (l[j].1 ≤ x.1) && decide (x.2 ≤ l[j].2))) := by
  unfold cov
  rw [List.take_succ_eq_append_getElem h, List.any_append]
  simp
theorem cov_all {l : List (Nat × Nat)} {x : Nat × Nat} (h : ∃ v ∈ l, v.1 ≤ x.1 ∧ x.2 ≤ v.2) : cov l x l.length = true := by
  unfold cov
  rw [List.take_length]
  obtain ⟨v, hv, h1, h2⟩ := h
  exact List.any_eq_true.2 ⟨v, hv, by simp [h1, h2]⟩
theorem below_dN {w w' : World} {B : Nat} (h : Below B w w') (k : Nat) : Below B w (w'.drewN k) := ⟨h.os, h.tape, h.output, by simpa using h.size, fun j hj => by simpa using h.block j hj⟩
set_option maxHeartbeats 8000000 in
theorem windows_ok (s t n : Nat) (a b : Int) (hs : s < 16) (ht' : t < 512) (hn : n < 400) (ha : -9223372036854775808 ≤ a ∧ a ≤ 9223372036854775807) (hb : -9223372036854775808 ≤ b ∧ b ≤ 9223372036854775807) (w : World) :
    Calls Try.prog 8 #[.int .i64 (s : Int), .int .i64 (t : Int), .int .i64 (n : Int), .int .i64 a, .int .i64 b] w fun e w' => e = .returned (.bool true) ∧ Below w.heap.size w w' := by
  obtain ⟨lo, hlo⟩ : ∃ x, x = min a b := ⟨_, rfl⟩
  obtain ⟨up, hup⟩ : ∃ x, x = max a b := ⟨_, rfl⟩
  have m1 : min a b = lo := hlo.symm
  have m2 : max a b = up := hup.symm
  have hle : lo ≤ up := by omega
  have c1 := Lib.hid (fun w => pWindows_any (s : Int) (t : Int) (n : Int) lo (i64_nat (by omega)) (i64_nat (by omega)) (i64_nat (by omega)) (by unfold I64; omega) w)
  have c2 := Lib.hid (fun w => pWindows_any (s : Int) (t : Int) (n : Int) up (i64_nat (by omega)) (i64_nat (by omega)) (i64_nat (by omega)) (by unfold I64; omega) w)
  rw [winA_ok lo hs ht' hn] at c1
  rw [winA_ok up hs ht' hn] at c2
  have HH : Hid (∀ k : Nat, k < 96 → ∀ w, Calls Try.prog 13 #[.int .i64 (s : Int), .int .i64 (t : Int), .int .i64 (96 * (n : Int) + (k : Int))] w (GivesN (ht t s (96 * n + k)) 0 w)) := Lib.hid (fun k hk w => by
    have := pHeight_any (s : Int) (t : Int) ((96 * n + k : Nat) : Int) (i64_nat (by omega)) (i64_nat (by omega)) (i64_nat (by omega)) w
    rw [heiA_ok hs ht' (by omega)] at this
    rwa [show ((96 * n + k : Nat) : Int) = 96 * (n : Int) + (k : Int) by omega] at this)
  obtain ⟨p, hp⟩ : ∃ p, p = Am.hi s t n lo := ⟨_, rfl⟩
  obtain ⟨q, hq⟩ : ∃ p, p = Am.hi s t n up := ⟨_, rfl⟩
  rw [← hp] at c1
  rw [← hq] at c2
  have HP : Hid (∀ k, p k = decide (lo ≤ ht t s (96 * n + k))) := Lib.hid (fun k => by rw [hp]; rfl)
  have HQ : Hid (∀ k, q k = true → p k = true) := Lib.hid (fun k h => by
    rw [hq] at h
    rw [hp]
    unfold Am.hi at h ⊢
    rw [decide_eq_true_eq] at h ⊢
    omega)
  obtain ⟨PL, hPL⟩ : ∃ l, l = win p 96 := ⟨_, rfl⟩
  obtain ⟨PK, hPK⟩ : ∃ l, l = win q 96 := ⟨_, rfl⟩
  rw [← hPL] at c1
  rw [← hPK] at c2
  have HI1 : Hid (∀ k, k < 96 → inW PL k = p k) := Lib.hid (fun k hk => by rw [hPL]; exact inW_win p hk)
  have HI2 : Hid (∀ k, k < 96 → inW PK k = q k) := Lib.hid (fun k hk => by rw [hPK]; exact inW_win q hk)
  have HE : Hid (∀ k (hk : k < PL.length), PL[k].1 ≤ PL[k].2 ∧ PL[k].2 < 96) := Lib.hid (fun k hk => by subst hPL; exact win_each (List.getElem_mem hk))
  have HA : Hid (∀ i j (hij : i < j) (hj : j < PL.length), (PL[i]'(by omega)).2 + 1 < PL[j].1) := Lib.hid (fun i j hij hj => by subst hPL; exact List.pairwise_iff_getElem.1 (win_apart p 96) i j (by omega) hj hij)
  have HW : Hid (∀ k (hk : k < PK.length), cov PL PK[k] PL.length = true) := Lib.hid (fun k hk => by subst hPL hPK; exact cov_all (win_within (fun s _ h => HQ.out s h) (List.getElem_mem hk)))
  have lPL : PL.length ≤ 96 := by rw [hPL]; exact win_len p 96
  have lPK : PK.length ≤ 96 := by rw [hPK]; exact win_len q 96
  have f1 : IntKind.i64.wrap (96 * (n : Int)) = 96 * (n : Int) := IntWalk.i64_in _ (by omega)
  clear hlo hup hp hq hPL hPK hle ha hb
  have D0 := Lib.hid (Below.refl w.heap.size w)
  go_enter Try.func8, Try.ntmps8
  go_wp2_with fail
  refine (head_any _).mono ?_
  rintro e w1 ⟨rfl, hb⟩
  have D1 := Lib.hid (D0.out.trans (hb.mono D0.out.size))
  clear hb D0
  go_wp2_with fail
  refine (c1.out _).mono ?_
  rintro e w2 ⟨x, rfl, hl, hb⟩
  have D2 := Lib.hid (D1.out.trans (hb.mono D1.out.size))
  obtain ⟨ad1, cap1, rfl, k1, s1⟩ := hl.out
  rw [intsS_len] at k1 s1 ⊢
  obtain ⟨N, hN⟩ : ∃ N, N = PL.length := ⟨_, rfl⟩
  rw [← hN] at k1 s1 lPL HW ⊢
  have A2 := Lib.hid s1
  have HN := Lib.hid hN
  clear hb hl s1 hN D1
  go_wp2_with fail
  refine (c2.out _).mono ?_
  rintro e w3 ⟨y, rfl, hl, hb⟩
  have D3 := Lib.hid (D2.out.trans (hb.mono D2.out.size))
  have A3 := Lib.hid (A2.out.bel hb)
  obtain ⟨ad2, cap2, rfl, k2, s2⟩ := hl.out
  rw [intsS_len] at k2 s2 ⊢
  obtain ⟨M, hM⟩ : ∃ N, N = PK.length := ⟨_, rfl⟩
  rw [← hM] at k2 s2 lPK ⊢
  have K3 := Lib.hid s2
  have HM := Lib.hid hM
  clear hb hl s2 hM D2 A2
  go_wp2_with fail
  go_loopw [16] (fun ii wr => ∃ k : Nat, k ≤ 96 ∧ ii = .int .i64 (k : Int) ∧ Hid (Below w3.heap.size w3 wr)) (fun ii _ => 96 - (intOf ii).toNat)
  case atStart => exact ⟨0, by omega, rfl, Lib.hid (Below.refl _ _)⟩
  case round =>
    obtain ⟨k, hk, rfl, hB⟩ := hrel
    by_cases hlt : k < 96
    · have j1 : decide ((k : Int) < 96) = true := decide_eq_true (by omega)
      have f5 : IntKind.i64.wrap (96 * (n : Int) + (k : Int)) = 96 * (n : Int) + (k : Int) := IntWalk.i64_in _ (by omega)
      have f6 : IntKind.i64.wrap ((k : Int) + 1) = (k : Int) + 1 := IntWalk.i64_in _ (by omega)
      have cG := Lib.hid (HH.out k hlt)
      have hpk := HP.out k
      have i1 := HI1.out k hlt
      have i2 := HI2.out k hlt
      generalize ht t s (96 * n + k) = h at cG hpk
      obtain ⟨p1, hp1⟩ : ∃ x, x = p k := ⟨_, rfl⟩
      rw [← hp1] at hpk i1
      have HP1 := Lib.hid hp1
      have v1 : decide (lo ≤ h) = p1 := hpk.symm
      have CI1 : Hid (∀ w, SpnAt w ad1 N (intsS PL) → Calls Try.prog 22 #[.slice ad1 N cap1, .int .i64 (k : Int)] w fun e w' => e = .returned (.bool p1) ∧ Below w.heap.size w w') := Lib.hid (fun w h => by have := in_any ad1 N cap1 PL k (by omega) (by omega) w h; rwa [i1] at this)
      have CI2 : Hid (∀ w, SpnAt w ad2 M (intsS PK) → Calls Try.prog 22 #[.slice ad2 M cap2, .int .i64 (k : Int)] w fun e w' => e = .returned (.bool (q k)) ∧ Below w.heap.size w w') := Lib.hid (fun w h => by have := in_any ad2 M cap2 PK k (by omega) (by omega) w h; rwa [i2] at this)
      clear hpk i1 i2 hp1
      go_wp2_with fail
      refine (cG.out _).mono ?_
      rintro e w4 ⟨rfl, hb⟩
      have E4 := Lib.hid (hB.out.trans (hb.mono hB.out.size))
      clear hb
      go_wp2_with fail
      refine (CI1.out _ (A3.out.bel E4.out)).mono ?_
      rintro e w5 ⟨rfl, hb⟩
      have E5 := Lib.hid (E4.out.trans (hb.mono E4.out.size))
      clear hb E4
      go_wp2_with fail
      refine (CI2.out _ (K3.out.bel E5.out)).mono ?_
      rintro e w6 ⟨rfl, hb⟩
      have E6 := Lib.hid (E5.out.trans (hb.mono E5.out.size))
      clear hb E5
      cases hqk : q k with
      | true =>
        have hp2 : p1 = true := by rw [HP1.out]; exact HQ.out k hqk
        subst hp2
        clear hqk
        go_wp2_with fail
        refine (CI1.out _ (A3.out.bel E6.out)).mono ?_
        rintro e w7 ⟨rfl, hb⟩
        have E7 := Lib.hid (E6.out.trans (hb.mono E6.out.size))
        clear hb E6
        go_wp2_with fail
        go_roundw
        case rel => exact ⟨k + 1, by omega, by go_num, E7⟩
        case measure => simp [intOf]; omega
      | false =>
        clear hqk
        go_wp2_with fail
        go_roundw
        case rel => exact ⟨k + 1, by omega, by go_num, E6⟩
        case measure => simp [intOf]; omega
    · have j1 : decide ((k : Int) < 96) = false := decide_eq_false (by omega)
      clear hlt
      go_wp2_with fail
      clear j1 HH HP HI1 HI2 HQ
      obtain ⟨wo, rfl⟩ : ∃ wo : World, wo = wr := ⟨_, rfl⟩
      go_loopw [19] (fun ii wr => ∃ k : Nat, k ≤ N ∧ ii = .int .i64 (k : Int) ∧ Hid (Below w3.heap.size w3 wr)) (fun ii _ => N - (intOf ii).toNat)
      case atStart => exact ⟨0, by omega, rfl, hB⟩
      case round =>
        clear hB hk
        obtain ⟨k, hk, rfl, hB⟩ := hrel
        by_cases hlt : k < N
        · have hkl : k < PL.length := by have := HN.out; omega
          obtain ⟨bl, off, rfl⟩ := A3.out.at0 (k := k) (by rw [intsS_len]; exact hkl)
          obtain ⟨hc1, hc2⟩ := spn_at (A3.out.bel hB.out) hkl
          obtain ⟨r1, r2⟩ := HE.out k hkl
          obtain ⟨f, hf⟩ : ∃ f, f = PL[k].1 := ⟨_, rfl⟩
          obtain ⟨u, hu⟩ : ∃ f, f = PL[k].2 := ⟨_, rfl⟩
          rw [← hf] at hc1 r1
          rw [← hu] at hc2 r1 r2
          have g1 : IntKind.i64.wrap ((k : Int) + 1) = (k : Int) + 1 := IntWalk.i64_in _ (by omega)
          have g2 : (0 : Int) ≤ (k : Int) := by omega
          have g3 : (k : Int) < (N : Int) := by omega
          have v1 : decide ((f : Int) < 0) = false := decide_eq_false (by omega)
          have v2 : decide ((u : Int) < (f : Int)) = false := decide_eq_false (by omega)
          have v3 : decide (u < f) = false := decide_eq_false (by omega)
          have v4 : decide (95 < (u : Int)) = false := decide_eq_false (by omega)
          have v5 : decide (95 < u) = false := decide_eq_false (by omega)
          by_cases hk0 : k = 0
          · have v6 : decide (0 < (k : Int)) = false := decide_eq_false (by omega)
            have v7 : decide (0 < k) = false := decide_eq_false (by omega)
            clear hf hu hk0
            go_wp2_with fail
            go_quiet (fail)
            go_wp2_with fail
            go_roundw
            case rel => exact ⟨k + 1, by omega, by go_num, Lib.hid (below_dN hB.out _)⟩
            case measure => simp [intOf]; omega
          · obtain ⟨j, hj⟩ : ∃ j, j = k - 1 := ⟨_, rfl⟩
            have hjl : j < PL.length := by omega
            obtain ⟨hc3, hc4⟩ := spn_at (A3.out.bel hB.out) hjl
            have hap := HA.out j k (by omega) hkl
            obtain ⟨u0, hu0⟩ : ∃ f, f = PL[j].2 := ⟨_, rfl⟩
            rw [← hu0] at hc4 hap
            rw [← hf] at hap
            have v6 : decide (0 < (k : Int)) = true := decide_eq_true (by omega)
            have v7 : decide (0 < k) = true := decide_eq_true (by omega)
            have v8 : IntKind.i64.wrap ((k : Int) - 1) = (j : Int) := by rw [IntWalk.i64_in _ (by omega)]; omega
            have v9 : (0 : Int) ≤ (j : Int) := by omega
            have v10 : (j : Int) < (N : Int) := by omega
            have v11 : IntKind.i64.wrap ((u0 : Int) + 1) = (u0 : Int) + 1 := IntWalk.i64_in _ (by omega)
            have v12 : decide ((f : Int) ≤ (u0 : Int) + 1) = false := decide_eq_false (by omega)
            have v13 : decide (f ≤ u0 + 1) = false := decide_eq_false (by omega)
            clear hf hu hk0 hu0 hj hc3 hap
            go_wp2_with fail
            go_quiet (fail)
            go_wp2_with fail
            go_roundw
            case rel => exact ⟨k + 1, by omega, by go_num, Lib.hid (below_dN hB.out _)⟩
            case measure => simp [intOf]; omega
        · have j1 : decide ((k : Int) < (N : Int)) = false := decide_eq_false (by omega)
          go_wp2_with fail
          clear j1 hlt HE HA
          obtain ⟨wo2, rfl⟩ : ∃ wo : World, wo = wr := ⟨_, rfl⟩
          go_loopw [20] (fun ii wr => ∃ i : Nat, i ≤ M ∧ ii = .int .i64 (i : Int) ∧ Hid (Below w3.heap.size w3 wr)) (fun ii _ => M - (intOf ii).toNat)
          case atStart => exact ⟨0, by omega, rfl, hB⟩
          case round =>
            clear hB hk
            obtain ⟨i, hi, rfl, hB⟩ := hrel
            by_cases hlt : i < M
            · have hil : i < PK.length := by have := HM.out; omega
              obtain ⟨bk, ok, rfl⟩ := K3.out.at0 (k := i) (by rw [intsS_len]; exact hil)
              have hw := HW.out i hil
              obtain ⟨x, hx⟩ : ∃ x, x = PK[i] := ⟨_, rfl⟩
              have CK : Hid (∀ w', Below w3.heap.size w3 w' → w'.cell? ⟨bk, ok + i * 2, none⟩ = some (.int .i64 ((x.1 : Nat) : Int)) ∧ w'.cell? ⟨bk, ok + i * 2 + 1, none⟩ = some (.int .i64 ((x.2 : Nat) : Int))) := Lib.hid (fun w' h => by rw [hx]; exact spn_at (K3.out.bel h) hil)
              rw [← hx] at hw
              have HWX := Lib.hid hw
              obtain ⟨x1, x2⟩ := x
              have g1 : IntKind.i64.wrap ((i : Int) + 1) = (i : Int) + 1 := IntWalk.i64_in _ (by omega)
              have g2 : (0 : Int) ≤ (i : Int) := by omega
              have g3 : (i : Int) < (M : Int) := by omega
              clear hx hw hil
              go_wp2_with fail
              obtain ⟨wo3, rfl⟩ : ∃ wo : World, wo = wr := ⟨_, rfl⟩
              go_loopw [21, 22] (fun vv jj wr => ∃ j : Nat, j ≤ N ∧ jj = .int .i64 (j : Int) ∧ vv = .bool (cov PL (x1, x2) j) ∧ Hid (Below w3.heap.size w3 wr)) (fun _ jj _ => N - (intOf jj).toNat)
              case atStart => exact ⟨0, by omega, rfl, by rw [cov_zero], hB⟩
              case round =>
                clear hB
                obtain ⟨j, hj, rfl, rfl, hB⟩ := hrel
                by_cases hlt2 : j < N
                · have hjl : j < PL.length := by have := HN.out; omega
                  obtain ⟨bl, off, rfl⟩ := A3.out.at0 (k := j) (by rw [intsS_len]; exact hjl)
                  obtain ⟨hc1, hc2⟩ := spn_at (A3.out.bel hB.out) hjl
                  obtain ⟨hd1, hd2⟩ := CK.out _ hB.out
                  have hsucc := cov_succ (x1, x2) hjl
                  obtain ⟨f, hf⟩ : ∃ f, f = PL[j].1 := ⟨_, rfl⟩
                  obtain ⟨u, hu⟩ : ∃ f, f = PL[j].2 := ⟨_, rfl⟩
                  rw [← hf] at hc1 hsucc
                  rw [← hu] at hc2 hsucc
                  simp only at hd1 hd2 hsucc
                  have g4 : IntKind.i64.wrap ((j : Int) + 1) = (j : Int) + 1 := IntWalk.i64_in _ (by omega)
                  have g5 : (0 : Int) ≤ (j : Int) := by omega
                  have g6 : (j : Int) < (N : Int) := by omega
                  clear hf hu hjl
                  cases hcv : cov PL (x1, x2) j with
                  | true =>
                    rw [hcv, Bool.true_or] at hsucc
                    have HS := Lib.hid hsucc
                    clear hsucc hcv
                    go_wp2_with fail
                    go_quiet (fail)
                    go_wp2_with fail
                    go_roundw
                    case rel => exact ⟨j + 1, by omega, by go_num, by rw [HS.out], Lib.hid (below_dN hB.out _)⟩
                    case measure => simp [intOf]; omega
                  | false =>
                    rw [hcv, Bool.false_or] at hsucc
                    by_cases h1 : f ≤ x1
                    · have e1 : decide ((f : Int) ≤ (x1 : Int)) = true := decide_eq_true (by omega)
                      have e2 : decide (f ≤ x1) = true := decide_eq_true h1
                      rw [e2, Bool.true_and] at hsucc
                      obtain ⟨y, hy⟩ : ∃ y, y = decide (x2 ≤ u) := ⟨_, rfl⟩
                      rw [← hy] at hsucc
                      have e3 : decide (x2 ≤ u) = y := hy.symm
                      have e4 : decide ((x2 : Int) ≤ (u : Int)) = y := by rw [hy]; exact decide_eq_decide.2 (by omega)
                      have HS := Lib.hid hsucc
                      clear hsucc hcv hy h1
                      go_wp2_with fail
                      go_quiet (fail)
                      go_wp2_with fail
                      go_roundw
                      case rel => exact ⟨j + 1, by omega, by go_num, by rw [HS.out], Lib.hid (below_dN hB.out _)⟩
                      case measure => simp [intOf]; omega
                    · have e1 : decide ((f : Int) ≤ (x1 : Int)) = false := decide_eq_false (by omega)
                      have e2 : decide (f ≤ x1) = false := decide_eq_false h1
                      rw [e2, Bool.false_and] at hsucc
                      have HS := Lib.hid hsucc
                      clear hsucc hcv h1
                      go_wp2_with fail
                      go_quiet (fail)
                      go_wp2_with fail
                      go_roundw
                      case rel => exact ⟨j + 1, by omega, by go_num, by rw [HS.out], Lib.hid (below_dN hB.out _)⟩
                      case measure => simp [intOf]; omega
                · have hjN : j = N := by omega
                  have j2 : decide ((j : Int) < (N : Int)) = false := decide_eq_false (by omega)
                  rw [show cov PL (x1, x2) j = true by rw [hjN]; exact HWX.out]
                  clear hjN
                  go_wp2_with fail
                  go_roundw
                  case rel => exact ⟨i + 1, by omega, by go_num, hB⟩
                  case measure => simp [intOf]; omega
            · have j1 : decide ((i : Int) < (M : Int)) = false := decide_eq_false (by omega)
              have DE := Lib.hid (D3.out.trans (hB.out.mono D3.out.size))
              go_wp2_with fail
              go_ret
              exact ⟨rfl, DE.out⟩
theorem winA_bad {s t n l : Int} (h : (okS s && okT t && okN n) = false) : winA s t n l = ([], 1) := by unfold winA; rw [h]; rfl
set_option maxHeartbeats 4000000 in
theorem walkAirmassWindows (s t n a b : Int) (w : World) (hs : -9223372036854775808 ≤ s ∧ s ≤ 9223372036854775807) (ht : -9223372036854775808 ≤ t ∧ t ≤ 9223372036854775807) (hn : -9223372036854775808 ≤ n ∧ n ≤ 9223372036854775807) (ha : -9223372036854775808 ≤ a ∧ a ≤ 9223372036854775807) (hb : -9223372036854775808 ≤ b ∧ b ≤ 9223372036854775807) :
    Calls Try.prog 8 #[.int .i64 s, .int .i64 t, .int .i64 n, .int .i64 a, .int .i64 b] w fun e w' => e = .returned (.bool true) ∧ Below w.heap.size w w' := by
  cases hA : (okS s && okT t && okN n) with
  | true =>
    simp only [Bool.and_eq_true] at hA
    obtain ⟨x, rfl, hx⟩ := okS_yes hA.1.1
    obtain ⟨y, rfl, hy⟩ := okT_yes hA.1.2
    obtain ⟨z, rfl, hz⟩ := okN_yes hA.2
    exact windows_ok x y z a b hx hy hz ha hb w
  | false =>
    obtain ⟨lo, hlo⟩ : ∃ x, x = min a b := ⟨_, rfl⟩
    obtain ⟨up, hup⟩ : ∃ x, x = max a b := ⟨_, rfl⟩
    have m1 : min a b = lo := hlo.symm
    have m2 : max a b = up := hup.symm
    have c1 := Lib.hid (fun w => pWindows_any s t n lo (i64_of hs) (i64_of ht) (i64_of hn) (by unfold I64; omega) w)
    have c2 := Lib.hid (fun w => pWindows_any s t n up (i64_of hs) (i64_of ht) (i64_of hn) (by unfold I64; omega) w)
    rw [winA_bad hA] at c1 c2
    clear hA hlo hup hs ht hn ha hb
    have D0 := Lib.hid (Below.refl w.heap.size w)
    go_enter Try.func8, Try.ntmps8
    go_wp2_with fail
    refine (head_any _).mono ?_
    rintro e w1 ⟨rfl, hb⟩
    have D1 := Lib.hid (D0.out.trans (hb.mono D0.out.size))
    clear hb D0
    go_wp2_with fail
    refine (c1.out _).mono ?_
    rintro e w2 ⟨x, rfl, hl, hb⟩
    have D2 := Lib.hid (D1.out.trans (hb.mono D1.out.size))
    obtain ⟨ad1, cap1, rfl, k1, s1⟩ := hl.out
    clear hb hl s1 k1 D1
    go_wp2_with fail
    refine (c2.out _).mono ?_
    rintro e w3 ⟨y, rfl, hl, hb⟩
    have D3 := Lib.hid (D2.out.trans (hb.mono D2.out.size))
    obtain ⟨ad2, cap2, rfl, k2, s2⟩ := hl.out
    clear hb hl s2 k2 D2
    go_wp2_with fail
    go_ret
    exact ⟨rfl, D3.out⟩
end Go.Proofs.Ytebkifhdbpeeoaa
