/-
  The law SkyNear (layer 10): its walk.
-/
import Derived.Test.YtaebejhncjadhaaSkWDist
set_option linter.unusedVariables false
set_option maxRecDepth 100000
namespace Go.Proofs.Ytaebejhncjadhaa
open Go.RowKit
open Sk
theorem near_any (a r : Nat) (ha : a < 512) (hr : r ≤ 31) (w : World) : Calls Try.prog 17 #[.int .i64 (a : Int), .int .i64 (r : Int)] w (GivesL (intsN (nea a r)) 0 w) := by
  have := pNear_any (a : Int) (r : Int) (i64_nat (by omega)) (i64_nat (by omega)) w
  rwa [neaA_ok ha hr] at this
/-- a number of the list, in memory -/
theorem list_cell {w : World} {ad : Option Addr} {l : List Nat} {n k : Nat} (h : IntsAt w ad n (intsN l)) (hk : k < l.length) : ∃ b off, ad = some ⟨b, off, none⟩ := by
  obtain ⟨b, off, e, _⟩ := h.cells (by have := h.len; rw [intsN_len] at this; omega)
  exact ⟨b, off, e⟩
theorem list_at {w : World} {b off : Nat} {l : List Nat} {n k : Nat} (h : IntsAt w (some ⟨b, off, none⟩) n (intsN l)) (hk : k < l.length) : w.cell? ⟨b, off + k, none⟩ = some (.int .i64 ((l[k] : Nat) : Int)) := by
  obtain ⟨b', off', e, hc⟩ := h.cells (by have := h.len; rw [intsN_len] at this; omega)
  cases e
  rw [hc k (by rwa [intsN_len]), intsN_get]
def fndF (l : List Nat) (b k : Nat) : Bool := (l.take k).contains b
theorem fndF_zero (l : List Nat) (b : Nat) : fndF l b 0 = false := by simp [fndF]
theorem fndF_succ {l : List Nat} {k : Nat} (b : Nat) (h : k < l.length) : fndF l b (k + 1) = (fndF l b k || decide (l[k] = b)) := by
  unfold fndF
  rw [List.take_succ_eq_append_getElem h, Bool.eq_iff_iff, List.contains_iff_mem, List.mem_append, List.mem_singleton, Bool.or_eq_true, List.contains_iff_mem, decide_eq_true_eq, eq_comm (a := b)]
theorem fndF_all (a r b : Nat) (hb : b < 512) : fndF (nea a r) b (nea a r).length = decide (dis a b ≤ r) := by
  unfold fndF
  rw [List.take_length]
  have := nea_mem (t := a) (r := r) (i := b)
  by_cases h : dis a b ≤ r
  · rw [decide_eq_true h, List.contains_iff_mem]; exact this.2 ⟨hb, h⟩
  · rw [decide_eq_false h, ← Bool.not_eq_true, List.contains_iff_mem]; exact fun q => h (this.1 q).2
set_option maxHeartbeats 4000000 in
theorem walkSkyNear (i j s : Int) (w : World) (hi : 0 ≤ i ∧ i ≤ 65535) (hj : 0 ≤ j ∧ j ≤ 65535) (hs : 0 ≤ s ∧ s ≤ 255) :
    Calls Try.prog 6 #[.int .u16 i, .int .u16 j, .int .u8 s] w fun e w' => e = .returned (.bool true) ∧ Below w.heap.size w w' := by
  obtain ⟨I0, rfl⟩ : ∃ X : Nat, i = (X : Int) := ⟨i.toNat, by omega⟩
  obtain ⟨J0, rfl⟩ : ∃ X : Nat, j = (X : Int) := ⟨j.toNat, by omega⟩
  obtain ⟨S, rfl⟩ : ∃ X : Nat, s = (X : Int) := ⟨s.toNat, by omega⟩
  obtain ⟨a, ha⟩ : ∃ a, a = I0 % 512 := ⟨_, rfl⟩
  obtain ⟨b, hb⟩ : ∃ a, a = J0 % 512 := ⟨_, rfl⟩
  obtain ⟨r, hr⟩ : ∃ a, a = S % 32 := ⟨_, rfl⟩
  have la : a < 512 := by omega
  have lb : b < 512 := by omega
  have lr : r ≤ 31 := by omega
  have g1 : IntKind.i64.wrap (I0 : Int) = (I0 : Int) := IntWalk.i64_in _ (by omega)
  have g2 : IntKind.i64.wrap (J0 : Int) = (J0 : Int) := IntWalk.i64_in _ (by omega)
  have g3 : IntKind.i64.wrap (S : Int) = (S : Int) := IntWalk.i64_in _ (by omega)
  have e1 : Int.tmod (I0 : Int) 512 = (a : Int) := by rw [Int.tmod_eq_emod_of_nonneg (by omega)]; omega
  have e2 : Int.tmod (J0 : Int) 512 = (b : Int) := by rw [Int.tmod_eq_emod_of_nonneg (by omega)]; omega
  have e3 : Int.tmod (S : Int) 32 = (r : Int) := by rw [Int.tmod_eq_emod_of_nonneg (by omega)]; omega
  have e4 : (I0 : Int) % 512 = (a : Int) := by omega
  have e5 : (J0 : Int) % 512 = (b : Int) := by omega
  have e6 : (S : Int) % 32 = (r : Int) := by omega
  obtain ⟨d, hd⟩ : ∃ d, d = dis a b := ⟨_, rfl⟩
  have hdl := dis_le la lb
  rw [← hd] at hdl
  have cD := Lib.hid (fun w => dist_any a b d la lb hd w)
  have cN := Lib.hid (fun w => near_any a r la lr w)
  obtain ⟨nl, hnl⟩ : ∃ l, l = nea a r := ⟨_, rfl⟩
  have HFA : Hid (fndF nl b nl.length = decide (d ≤ r)) := Lib.hid (by rw [hnl, hd]; exact fndF_all a r b lb)
  have hlen := nea_len la (show r < 32 by omega)
  have HUP : Hid (∀ i j (hij : i < j) (hj : j < nl.length), nl[i]'(by omega) < nl[j]) := Lib.hid (by subst hnl; exact fun i j hij hj => nea_lt hij hj)
  have HLT : Hid (∀ k (hk : k < nl.length), nl[k] < 512) := Lib.hid (by subst hnl; exact fun k hk => (nea_mem.1 (List.getElem_mem hk)).1)
  have hn5 := nea_le a r
  rw [← hnl] at cN hlen hn5
  have D0 := Lib.hid (Below.refl w.heap.size w)
  obtain ⟨q, hq⟩ : ∃ q, q = a / 32 := ⟨_, rfl⟩
  have hq16 : q < 16 := by omega
  have e7 : Int.tdiv (a : Int) 32 = (q : Int) := by rw [Int.tdiv_eq_ediv_of_nonneg (by omega)]; omega
  have e8 : (a : Int) / 32 = (q : Int) := by omega
  rw [← hq] at hlen
  clear ha hb hr hd hnl hq hi hj hs
  go_enter Try.func6, Try.ntmps6
  go_wp2_with fail
  refine (head_any _).mono ?_
  rintro e w1 ⟨rfl, hb⟩
  have D1 := Lib.hid (D0.out.trans (hb.mono D0.out.size))
  clear hb D0
  go_wp2_with fail
  refine (cN.out _).mono ?_
  rintro e w2 ⟨v, rfl, hl, hb⟩
  obtain ⟨ad, cap, rfl, hcap, hat⟩ := hl.out
  rw [intsN_len] at hcap hat ⊢
  have D2 := Lib.hid (D1.out.trans (hb.mono D1.out.size))
  have A2 := Lib.hid hat
  clear hb D1 hl hat
  obtain ⟨n, hn⟩ : ∃ n, n = nl.length := ⟨_, rfl⟩
  rw [← hn] at A2 hcap hlen hn5 HFA ⊢
  have HN := Lib.hid hn
  have HLEN := Lib.hid hlen
  clear hn hlen
  go_wp2_with fail
  refine (cD.out _).mono ?_
  rintro e w3 ⟨rfl, hb⟩
  have D3 := Lib.hid (D2.out.trans (hb.mono D2.out.size))
  have A3 := Lib.hid (A2.out.bel hb)
  clear hb D2 A2
  go_wp2_with fail
  go_loopw [15, 16] (fun vf ii wr => ∃ k : Nat, k ≤ n ∧ ii = .int .i64 (k : Int) ∧ vf = .bool (fndF nl b k) ∧ Hid (Below w3.heap.size w3 wr)) (fun _ ii _ => n - (intOf ii).toNat)
  case atStart => exact ⟨0, by omega, rfl, by rw [fndF_zero], Lib.hid (Below.refl _ _)⟩
  case round =>
    obtain ⟨k, hk, rfl, rfl, hB⟩ := hrel
    by_cases hlt : k < n
    · have hkl : k < nl.length := by have := HN.out; omega
      obtain ⟨bl, off, rfl⟩ := list_cell A3.out hkl
      have hAt := Lib.hid (A3.out.bel hB.out)
      have hc := list_at hAt.out hkl
      have hsucc := fndF_succ b hkl
      have hX5 := HLT.out k hkl
      obtain ⟨X, hX⟩ : ∃ X, X = nl[k] := ⟨_, rfl⟩
      rw [← hX] at hc hsucc hX5
      have HX := Lib.hid hX
      clear hX
      have q1 : (0 : Int) ≤ (k : Int) := by omega
      have q2 : (k : Int) < (n : Int) := by omega
      have f1 : IntKind.i64.wrap ((k : Int) + 1) = (k : Int) + 1 := IntWalk.i64_in _ (by omega)
      obtain ⟨y, hy⟩ : ∃ y, y = ((X : Int) == (b : Int)) := ⟨_, rfl⟩
      have r1 : ((X : Int) == (b : Int)) = y := hy.symm
      have hyd : decide (X = b) = y := by
        rw [hy]
        by_cases h : X = b
        · subst h; simp
        · rw [decide_eq_false h, eq_comm, beq_eq_false_iff_ne]; omega
      rw [hyd] at hsucc
      clear hy hyd
      by_cases hk0 : k = 0
      · have hF : fndF nl b k = false := by rw [hk0, fndF_zero]
        rw [hF, Bool.false_or] at hsucc
        rw [hF]
        have HS := Lib.hid hsucc
        have t0 : decide (0 < (k : Int)) = false := decide_eq_false (by omega)
        have t1 : decide (0 < k) = false := decide_eq_false (by omega)
        clear hF hsucc hk0
        go_wp2_with fail
        go_quiet (fail)
        go_wp2_with fail
        go_roundw
        case rel => exact ⟨k + 1, by omega, by go_num, by rw [HS.out], Lib.hid (below_drewN hB.out _)⟩
        case measure => simp [intOf]; omega
      · obtain ⟨j, hj⟩ : ∃ j, j = k - 1 := ⟨_, rfl⟩
        have hjl : j < nl.length := by omega
        have hc0 := list_at hAt.out hjl
        have hup := HUP.out j k (by omega) hkl
        obtain ⟨Y, hY⟩ : ∃ Y, Y = nl[j] := ⟨_, rfl⟩
        rw [← hY, ← HX.out] at hup
        rw [← hY] at hc0
        have t0 : decide (0 < (k : Int)) = true := decide_eq_true (by omega)
        have t1 : decide (0 < k) = true := decide_eq_true (by omega)
        have t2 : IntKind.i64.wrap ((k : Int) - 1) = (j : Int) := by rw [IntWalk.i64_in _ (by omega)]; omega
        have t3 : decide ((X : Int) ≤ (Y : Int)) = false := decide_eq_false (by omega)
        have t4 : decide (X ≤ Y) = false := decide_eq_false (by omega)
        have t5 : ¬ X ≤ Y := by omega
        have q3 : (0 : Int) ≤ (j : Int) := by omega
        have q4 : (j : Int) < (n : Int) := by omega
        have HY := Lib.hid hY
        clear hY hup hj
        cases hF : fndF nl b k with
        | true =>
          rw [hF, Bool.true_or] at hsucc
          have HS := Lib.hid hsucc
          clear hF hsucc hk0
          go_wp2_with fail
          go_quiet (fail)
          go_wp2_with fail
          go_roundw
          case rel => exact ⟨k + 1, by omega, by go_num, by rw [HS.out], Lib.hid (below_drewN hB.out _)⟩
          case measure => simp [intOf]; omega
        | false =>
          rw [hF, Bool.false_or] at hsucc
          have HS := Lib.hid hsucc
          clear hF hsucc hk0
          go_wp2_with fail
          go_quiet (fail)
          go_wp2_with fail
          go_roundw
          case rel => exact ⟨k + 1, by omega, by go_num, by rw [HS.out], Lib.hid (below_drewN hB.out _)⟩
          case measure => simp [intOf]; omega
    · have hkn : k = n := by omega
      rw [hkn, HFA.out]
      have D4 := Lib.hid (D3.out.trans (hB.out.mono D3.out.size))
      obtain ⟨u, hu⟩ : ∃ u, u = min (q + r) 15 := ⟨_, rfl⟩
      obtain ⟨v, hv⟩ : ∃ v, v = q - r := ⟨_, rfl⟩
      obtain ⟨m, hm⟩ : ∃ m, m = min (2 * r + 1) 32 := ⟨_, rfl⟩
      have hL := HLEN.out
      rw [← hu, ← hv, ← hm] at hL
      obtain ⟨Bn, hBn⟩ : ∃ x, x = u - v + 1 := ⟨_, rfl⟩
      rw [← hBn] at hL
      have huv : v ≤ u := by omega
      have s1 : IntKind.i64.wrap ((q : Int) + (r : Int)) = (q : Int) + (r : Int) := IntWalk.i64_in _ (by omega)
      have s2 : IntKind.i64.wrap ((q : Int) - (r : Int)) = (q : Int) - (r : Int) := IntWalk.i64_in _ (by omega)
      have s3 : min ((q : Int) + (r : Int)) 15 = (u : Int) := by omega
      have s4 : max ((q : Int) - (r : Int)) 0 = (v : Int) := by omega
      have s5 : IntKind.i64.wrap ((u : Int) - (v : Int)) = (u : Int) - (v : Int) := IntWalk.i64_in _ (by omega)
      have s6 : IntKind.i64.wrap ((u : Int) - (v : Int) + 1) = (Bn : Int) := by rw [IntWalk.i64_in _ (by omega)]; omega
      have s7 : IntKind.i64.wrap (2 * (r : Int)) = 2 * (r : Int) := IntWalk.i64_in _ (by omega)
      have s8 : IntKind.i64.wrap (2 * (r : Int) + 1) = 2 * (r : Int) + 1 := IntWalk.i64_in _ (by omega)
      have s9 : min (2 * (r : Int) + 1) 32 = (m : Int) := by omega
      have hL2 : (m : Int) * (Bn : Int) = (n : Int) := by rw [hL]; simp
      have s10 : IntKind.i64.wrap ((m : Int) * (Bn : Int)) = (n : Int) := by rw [hL2]; exact IntWalk.i64_in _ (by omega)
      obtain ⟨y, hy⟩ : ∃ y, y = decide (d ≤ r) := ⟨_, rfl⟩
      have s11 : decide (d ≤ r) = y := hy.symm
      have s12 : decide ((d : Int) ≤ (r : Int)) = y := by rw [hy]; exact decide_eq_decide.2 (by omega)
      rw [s11]
      clear hu hv hm hL hBn hy hL2 huv
      go_wp2_with fail
      go_ret
      exact ⟨rfl, D4.out⟩
end Go.Proofs.Ytaebejhncjadhaa
