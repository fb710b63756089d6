/-
  The law AirmassTransits (layer 11): its walk.
-/
import Derived.Test.YtebkifhdbpeeoaaAmWHeights
set_option linter.unusedVariables false
set_option maxRecDepth 100000
namespace Go.Proofs.Ytebkifhdbpeeoaa
open Go.RowKit
open Ca (sid sid_lt sid_slot sid_night)
open Am
set_option maxHeartbeats 4000000 in
theorem transits_ok (s t n : Nat) (hs : s < 16) (ht' : t < 512) (hn : n < 400) (w : World) :
    Calls Try.prog 9 #[.int .i64 (s : Int), .int .i64 (t : Int), .int .i64 (n : Int)] w fun e w' => e = .returned (.bool true) ∧ Below w.heap.size w w' := by
  have t1 : decide ((s : Int) < 0) = false := decide_eq_false (by omega)
  have t2 : decide (15 < (s : Int)) = false := decide_eq_false (by omega)
  have t3 : decide ((t : Int) < 0) = false := decide_eq_false (by omega)
  have t4 : decide (511 < (t : Int)) = false := decide_eq_false (by omega)
  have t5 : decide ((n : Int) < 0) = false := decide_eq_false (by omega)
  have t6 : decide (399 < (n : Int)) = false := decide_eq_false (by omega)
  have HT := Lib.hid (transit (n := n) (c := t % 32) hn (by omega))
  have e1 : Int.tmod (t : Int) 32 = ((t % 32 : Nat) : Int) := by rw [Int.tmod_eq_emod_of_nonneg (by omega)]; omega
  have e3 : (t : Int) % 32 = ((t % 32 : Nat) : Int) := by omega
  have e5 : Int.tdiv (t : Int) 32 = ((t / 32 : Nat) : Int) := by rw [Int.tdiv_eq_ediv_of_nonneg (by omega)]; omega
  have e7 : (t : Int) / 32 = ((t / 32 : Nat) : Int) := by omega
  have f1 : IntKind.i64.wrap (96 * (n : Int)) = 96 * (n : Int) := IntWalk.i64_in _ (by omega)
  have HQ : Hid (∀ k : Nat, k < 96 → ht t s (96 * n + k) = htA (Sk.bnd (t / 32) s) (hr (sid (96 * n + k)) (t % 32))) := Lib.hid (fun k hk => rfl)
  have HC : Hid (∀ k : Nat, k < 96 → ∀ w, Calls Try.prog 11 #[.int .i64 ((t % 32 : Nat) : Int), .int .i64 (96 * (n : Int) + (k : Int))] w (GivesN (hr (sid (96 * n + k)) (t % 32)) 0 w)) := Lib.hid (fun k hk w => by
    have := pHour_any ((t % 32 : Nat) : Int) ((96 * n + k : Nat) : Int) (i64_nat (by omega)) (i64_nat (by omega)) w
    rw [horA_ok (by omega) (by omega)] at this
    rwa [show ((96 * n + k : Nat) : Int) = 96 * (n : Int) + (k : Int) by omega] at this)
  have HH : Hid (∀ k : Nat, k < 96 → ∀ w, Calls Try.prog 13 #[.int .i64 (s : Int), .int .i64 (t : Int), .int .i64 (96 * (n : Int) + (k : Int))] w (GivesN (ht t s (96 * n + k)) 0 w)) := Lib.hid (fun k hk w => by
    have := pHeight_any (s : Int) (t : Int) ((96 * n + k : Nat) : Int) (i64_nat (by omega)) (i64_nat (by omega)) (i64_nat (by omega)) w
    rw [heiA_ok hs ht' (by omega)] at this
    rwa [show ((96 * n + k : Nat) : Int) = 96 * (n : Int) + (k : Int) by omega] at this)
  have HR : Hid (∀ k : Nat, -2880 ≤ hr (sid k) (t % 32) ∧ hr (sid k) (t % 32) ≤ 2879) := Lib.hid (fun k => hr_range (sid_lt k) (by omega))
  have l1 : t / 32 < 16 := by omega
  have l3 : t % 32 < 32 := by omega
  generalize t / 32 = q at e5 e7 l1 HQ
  generalize t % 32 = p at e1 e3 l3 HC HR HQ HT
  have a1 := Lib.hid (fun w => labs_any ((q : Int) - (s : Int)) (by omega) w)
  rw [bnd_abs] at a1
  have lb : Sk.bnd q s ≤ 15 := by unfold Sk.bnd; omega
  generalize Sk.bnd q s = b at a1 lb HQ
  have f2 : IntKind.i64.wrap ((q : Int) - (s : Int)) = (q : Int) - (s : Int) := IntWalk.i64_in _ (by omega)
  have f3 : IntKind.i64.wrap (50 * (b : Int)) = 50 * (b : Int) := IntWalk.i64_in _ (by omega)
  have f4 : IntKind.i64.wrap (891 - 50 * (b : Int)) = 891 - 50 * (b : Int) := IntWalk.i64_in _ (by omega)
  have D0 := Lib.hid (Below.refl w.heap.size w)
  go_enter Try.func9, Try.ntmps9
  go_wp2_with fail
  refine (head_any _).mono ?_
  rintro e w1 ⟨rfl, hb⟩
  have D1 := Lib.hid (D0.out.trans (hb.mono D0.out.size))
  clear hb D0
  go_wp2_with fail
  go_loopw [8] (fun ii wr => ∃ k : Nat, k ≤ 96 ∧ ii = .int .i64 (k : Int) ∧ Hid (∀ j, j < k → 30 < (hr (sid (96 * n + j)) p).natAbs) ∧ Hid (Below w.heap.size w wr)) (fun ii _ => 96 - (intOf ii).toNat)
  case atStart => exact ⟨0, by omega, rfl, Lib.hid (fun j hj => by omega), D1⟩
  case round =>
    obtain ⟨k, hk, rfl, hJ, hB⟩ := hrel
    by_cases hlt : k < 96
    · have s1 : decide ((k : Int) < 96) = true := decide_eq_true (by omega)
      have f5 : IntKind.i64.wrap (96 * (n : Int) + (k : Int)) = 96 * (n : Int) + (k : Int) := IntWalk.i64_in _ (by omega)
      have f6 : IntKind.i64.wrap ((k : Int) + 1) = (k : Int) + 1 := IntWalk.i64_in _ (by omega)
      have cH := Lib.hid (HC.out k hlt)
      have cG := Lib.hid (HH.out k hlt)
      rw [HQ.out k hlt] at cG
      obtain ⟨r1, r2⟩ := HR.out (96 * n + k)
      obtain ⟨h, hh⟩ : ∃ h, h = hr (sid (96 * n + k)) p := ⟨_, rfl⟩
      rw [← hh] at cH cG r1 r2
      have HHH := Lib.hid hh
      have aH := Lib.hid (fun w => labs_any h (by omega) w)
      obtain ⟨z, hz⟩ : ∃ z, z = h.natAbs := ⟨_, rfl⟩
      rw [← hz] at aH
      have HZ := Lib.hid hz
      clear hh hz
      by_cases hz30 : z ≤ 30
      · have s2 : decide ((z : Int) ≤ 30) = true := decide_eq_true (by omega)
        have s3 : decide (z ≤ 30) = true := decide_eq_true hz30
        have hle := transit_height (t := 0) (s := 0) (h := h) (by rw [← HZ.out]; exact hz30) b
        generalize htA b h = x at cG hle
        have s4 : decide (891 - 50 * (b : Int) ≤ x) = true := decide_eq_true hle
        clear hz30
        go_wp2_with fail
        refine (cH.out _).mono ?_
        rintro e v1 ⟨rfl, hb⟩
        have E1 := Lib.hid (hB.out.trans (hb.mono hB.out.size))
        clear hb
        go_wp2_with fail
        refine (aH.out _).mono ?_
        rintro e wk ⟨rfl, rfl⟩
        go_wp2_with fail
        refine (cG.out _).mono ?_
        rintro e v2 ⟨rfl, hb⟩
        have E2 := Lib.hid (E1.out.trans (hb.mono E1.out.size))
        clear hb
        go_wp2_with fail
        refine (a1.out _).mono ?_
        rintro e wk ⟨rfl, rfl⟩
        go_wp2_with fail
        go_ret
        exact ⟨rfl, E2.out⟩
      · have s2 : decide ((z : Int) ≤ 30) = false := decide_eq_false (by omega)
        have s3 : decide (z ≤ 30) = false := decide_eq_false hz30
        have HJ2 : Hid (∀ j, j < k + 1 → 30 < (hr (sid (96 * n + j)) p).natAbs) := Lib.hid (fun j hj => by
          by_cases e : j = k
          · subst e; rw [← HHH.out, ← HZ.out]; omega
          · exact hJ.out j (by omega))
        clear hz30
        go_wp2_with fail
        refine (cH.out _).mono ?_
        rintro e v1 ⟨rfl, hb⟩
        have E1 := Lib.hid (hB.out.trans (hb.mono hB.out.size))
        clear hb
        go_wp2_with fail
        refine (aH.out _).mono ?_
        rintro e wk ⟨rfl, rfl⟩
        go_wp2_with fail
        go_roundw
        case rel => exact ⟨k + 1, by omega, by go_num, HJ2, E1⟩
        case measure => simp [intOf]; omega
    · exfalso
      obtain ⟨j, hj1, hj2⟩ := HT.out
      have := hJ.out j (by omega)
      omega
set_option maxHeartbeats 4000000 in
theorem walkAirmassTransits (s t n : Int) (w : World) (hs : -9223372036854775808 ≤ s ∧ s ≤ 9223372036854775807) (ht : -9223372036854775808 ≤ t ∧ t ≤ 9223372036854775807) (hn : -9223372036854775808 ≤ n ∧ n ≤ 9223372036854775807) :
    Calls Try.prog 9 #[.int .i64 s, .int .i64 t, .int .i64 n] w fun e w' => e = .returned (.bool true) ∧ Below w.heap.size w w' := by
  by_cases h0 : s < 0
  · have t0 : decide (s < 0) = true := decide_eq_true h0
    have D0 := Lib.hid (Below.refl w.heap.size w)
    go_enter Try.func9, Try.ntmps9
    go_wp2_with fail
    refine (head_any _).mono ?_
    rintro e w1 ⟨rfl, hb⟩
    have D1 := Lib.hid (D0.out.trans (hb.mono D0.out.size))
    clear hb D0
    go_wp2_with fail
    go_ret
    exact ⟨rfl, D1.out⟩
  · have t0 : decide (s < 0) = false := decide_eq_false h0
    by_cases h1 : 15 < s
    · have t1 : decide (15 < s) = true := decide_eq_true h1
      have D0 := Lib.hid (Below.refl w.heap.size w)
      go_enter Try.func9, Try.ntmps9
      go_wp2_with fail
      refine (head_any _).mono ?_
      rintro e w1 ⟨rfl, hb⟩
      have D1 := Lib.hid (D0.out.trans (hb.mono D0.out.size))
      clear hb D0
      go_wp2_with fail
      go_ret
      exact ⟨rfl, D1.out⟩
    · have t1 : decide (15 < s) = false := decide_eq_false h1
      by_cases h2 : t < 0
      · have t2 : decide (t < 0) = true := decide_eq_true h2
        have D0 := Lib.hid (Below.refl w.heap.size w)
        go_enter Try.func9, Try.ntmps9
        go_wp2_with fail
        refine (head_any _).mono ?_
        rintro e w1 ⟨rfl, hb⟩
        have D1 := Lib.hid (D0.out.trans (hb.mono D0.out.size))
        clear hb D0
        go_wp2_with fail
        go_ret
        exact ⟨rfl, D1.out⟩
      · have t2 : decide (t < 0) = false := decide_eq_false h2
        by_cases h3 : 511 < t
        · have t3 : decide (511 < t) = true := decide_eq_true h3
          have D0 := Lib.hid (Below.refl w.heap.size w)
          go_enter Try.func9, Try.ntmps9
          go_wp2_with fail
          refine (head_any _).mono ?_
          rintro e w1 ⟨rfl, hb⟩
          have D1 := Lib.hid (D0.out.trans (hb.mono D0.out.size))
          clear hb D0
          go_wp2_with fail
          go_ret
          exact ⟨rfl, D1.out⟩
        · have t3 : decide (511 < t) = false := decide_eq_false h3
          by_cases h4 : n < 0
          · have t4 : decide (n < 0) = true := decide_eq_true h4
            have D0 := Lib.hid (Below.refl w.heap.size w)
            go_enter Try.func9, Try.ntmps9
            go_wp2_with fail
            refine (head_any _).mono ?_
            rintro e w1 ⟨rfl, hb⟩
            have D1 := Lib.hid (D0.out.trans (hb.mono D0.out.size))
            clear hb D0
            go_wp2_with fail
            go_ret
            exact ⟨rfl, D1.out⟩
          · have t4 : decide (n < 0) = false := decide_eq_false h4
            by_cases h5 : 399 < n
            · have t5 : decide (399 < n) = true := decide_eq_true h5
              have D0 := Lib.hid (Below.refl w.heap.size w)
              go_enter Try.func9, Try.ntmps9
              go_wp2_with fail
              refine (head_any _).mono ?_
              rintro e w1 ⟨rfl, hb⟩
              have D1 := Lib.hid (D0.out.trans (hb.mono D0.out.size))
              clear hb D0
              go_wp2_with fail
              go_ret
              exact ⟨rfl, D1.out⟩
            · have t5 : decide (399 < n) = false := decide_eq_false h5
              obtain ⟨a, rfl⟩ : ∃ a : Nat, s = (a : Int) := ⟨s.toNat, by omega⟩
              obtain ⟨b, rfl⟩ : ∃ a : Nat, t = (a : Int) := ⟨t.toNat, by omega⟩
              obtain ⟨c, rfl⟩ : ∃ a : Nat, n = (a : Int) := ⟨n.toNat, by omega⟩
              exact transits_ok a b c (by omega) (by omega) (by omega) w
end Go.Proofs.Ytebkifhdbpeeoaa
