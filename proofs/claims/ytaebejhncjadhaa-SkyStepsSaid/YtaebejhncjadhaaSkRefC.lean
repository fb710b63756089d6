/-
  The document's own answers of layer 10: near tiles; are two lists equal?
-/
import Derived.Test.YtaebejhncjadhaaSkRefB
set_option linter.unusedVariables false
set_option maxRecDepth 100000
namespace Go.Proofs.Ytaebejhncjadhaa.Sk
open Go.RowKit
theorem below_drewN {w w' : World} {B : Nat} (h : Below B w w') (k : Nat) : Below B w (w'.drewN k) := ⟨h.os, h.tape, h.output, by simpa using h.size, fun j hj => by simpa using h.block j hj⟩
theorem take_more {l m : List Int} {k : Nat} (h : l.take k = m.take k) (h1 : k < l.length) (h2 : k < m.length) (he : l[k] = m[k]) : l.take (k + 1) = m.take (k + 1) := by
  rw [List.take_succ_eq_append_getElem h1, List.take_succ_eq_append_getElem h2, h, he]
theorem take_not {l m : List Int} {k : Nat} (h1 : k < l.length) (h2 : k < m.length) (he : l[k] ≠ m[k]) : l ≠ m := by
  intro e; subst e; exact he rfl
set_option maxHeartbeats 1000000 in
theorem refInts_any (v1 v2 : Value) (l m : List Int) (w : World) (h1 : ListAt w v1 l) (h2 : ListAt w v2 m) (hmax : l.length ≤ 1000000) :
    Calls Try.prog 19 #[v1, v2] w fun e w' => e = .returned (.bool (decide (l = m))) ∧ Below w.heap.size w w' := by
  obtain ⟨a1, c1, rfl, k1, i1⟩ := h1.out
  obtain ⟨a2, c2, rfl, k2, i2⟩ := h2.out
  have D0 : Hid (Below w.heap.size w w) := Lib.hid (Below.refl _ _)
  clear h1 h2
  by_cases hl : l.length = m.length
  · have I1 := Lib.hid i1
    have I2 := Lib.hid i2
    have t0 : ((l.length : Int) != (m.length : Int)) = false := by rw [hl]; simp
    have HLM := Lib.hid hl
    clear i1 i2
    obtain ⟨n, hn⟩ : ∃ n, n = l.length := ⟨_, rfl⟩
    rw [← hl, ← hn] at t0
    rw [← hl, ← hn]
    have HN := Lib.hid hn
    clear hl k1 k2 hn
    go_enter Try.func19, Try.ntmps19
    go_wp2_with fail
    go_loopw [5] (fun i wr => ∃ k : Nat, k ≤ n ∧ i = .int .i64 k ∧ Hid (l.take k = m.take k) ∧ Hid (Below w.heap.size w wr)) (fun i _ => n - (intOf i).toNat)
    case atStart => exact ⟨0, by omega, rfl, Lib.hid (by simp), D0⟩
    case round =>
      obtain ⟨k, hk, rfl, hx, hD⟩ := hrel
      by_cases hlt : k < n
      · have hkl : k < l.length := by have := HN.out; omega
        have hkm : k < m.length := by have := HLM.out; have := HN.out; omega
        obtain ⟨b1, o1, rfl, -⟩ := I1.out.cells (by have := HN.out; omega)
        obtain ⟨b2, o2, rfl, -⟩ := I2.out.cells (by have := HN.out; have := HLM.out; omega)
        have hc1 : wr.cell? ⟨b1, o1 + k, none⟩ = some (.int .i64 l[k]) := by
          obtain ⟨b', o', e, hc⟩ := (I1.out.bel hD.out).cells (by have := HN.out; omega)
          cases e; exact hc k hkl
        have hc2 : wr.cell? ⟨b2, o2 + k, none⟩ = some (.int .i64 m[k]) := by
          obtain ⟨b', o', e, hc⟩ := (I2.out.bel hD.out).cells (by have := HN.out; have := HLM.out; omega)
          cases e; exact hc k hkm
        obtain ⟨x, hxk⟩ : ∃ x, x = l[k] := ⟨_, rfl⟩
        rw [← hxk] at hc1
        obtain ⟨u, huk⟩ : ∃ u, u = m[k] := ⟨_, rfl⟩
        rw [← huk] at hc2
        have HX := Lib.hid hxk
        have HU := Lib.hid huk
        clear hxk huk
        have f1 : IntKind.i64.wrap ((k : Int) + 1) = (k : Int) + 1 := IntWalk.i64_in _ (by omega)
        have q1 : (0 : Int) ≤ (k : Int) := by omega
        have q2 : (k : Int) < (n : Int) := by omega
        by_cases hxu : x = u
        · have hx2 : Hid (l.take (k + 1) = m.take (k + 1)) := Lib.hid (take_more hx.out hkl hkm (by rw [← HX.out, ← HU.out]; exact hxu))
          have e1 : (x != u) = false := by rw [hxu]; simp
          clear hxu
          go_wp2_with fail
          go_quiet (fail)
          go_wp2_with fail
          go_roundw
          case rel => exact ⟨k + 1, by omega, by go_num, hx2, Lib.hid (below_drewN hD.out _)⟩
          case measure => simp [intOf]; omega
        · have hb : Hid (l ≠ m) := Lib.hid (take_not hkl hkm (by rw [← HX.out, ← HU.out]; exact hxu))
          have e1 : (x != u) = true := by simpa using hxu
          clear hxu
          go_wp2_with fail
          go_quiet (fail)
          go_wp2_with fail
          go_ret
          exact ⟨by rw [decide_eq_false hb.out]; rfl, below_drewN hD.out _⟩
      · have hb : Hid (l = m) := Lib.hid (by
          have h := hx.out
          rwa [List.take_of_length_le (by have := HN.out; omega), List.take_of_length_le (by have := HN.out; have := HLM.out; omega)] at h)
        go_wp2_with fail
        go_ret
        exact ⟨by rw [decide_eq_true hb.out]; rfl, hD.out⟩
  · have t0 : ((l.length : Int) != (m.length : Int)) = true := by simp; omega
    have hb : Hid (l ≠ m) := Lib.hid (fun e => hl (by rw [e]))
    clear hl i1 i2 k1 k2
    generalize l.length = n1 at t0
    generalize m.length = n2 at t0
    go_enter Try.func19, Try.ntmps19
    go_wp2_with fail
    go_ret
    exact ⟨by rw [decide_eq_false hb.out]; rfl, D0.out⟩
set_option maxHeartbeats 1000000 in
theorem refNear_ok (t r : Nat) (ht : t < 512) (hr : r ≤ 31) (w : World) : Calls Try.prog 18 #[.int .i64 (t : Int), .int .i64 (r : Int)] w (GivesL (intsN (nea t r)) 0 w) := by
  have cI : Hid (∀ w, Calls Try.prog 30 #[.int .i64 (t : Int)] w fun e w' => e = .returned (.bool true) ∧ w = w') := Lib.hid (fun w => by have := refIs_any (t : Int) w; rwa [isT_nat ht] at this)
  have t1 : decide ((r : Int) < 0) = false := decide_eq_false (by omega)
  have t2 : decide (31 < (r : Int)) = false := decide_eq_false (by omega)
  have D0 : Hid (Below w.heap.size w w) := Lib.hid (Below.refl _ _)
  have O0 : Hid (OwnI w.heap.size w (.slice none 0 0) (intsN (neaK t r 0))) := Lib.hid (OwnI.nil _ _)
  go_enter Try.func18, Try.ntmps18
  go_wp2_with fail
  refine (cI.out _).mono ?_
  rintro e w1 ⟨rfl, rfl⟩
  go_wp2_with fail
  go_loopw [6, 7] (fun v ii wr => ∃ i : Nat, i ≤ 512 ∧ ii = .int .i64 (i : Int) ∧ Hid (OwnI w.heap.size wr v (intsN (neaK t r i))) ∧ Hid (Below w.heap.size w wr)) (fun _ ii _ => 512 - (intOf ii).toNat)
  case atStart => exact ⟨0, by omega, rfl, O0, D0⟩
  case round =>
    obtain ⟨i, hi, rfl, hO, hD⟩ := hrel
    clear O0 D0
    by_cases hlt : i < 512
    · have s1 : decide ((i : Int) < 512) = true := decide_eq_true (by omega)
      have cD := Lib.hid (fun w => refDistance_ok t i ht hlt w)
      have f1 : IntKind.i64.wrap ((i : Int) + 1) = (i : Int) + 1 := IntWalk.i64_in _ (by omega)
      have hs := neaK_succ t r i
      have hlen := neaK_len t r i
      obtain ⟨d, hd⟩ : ∃ d, d = dis t i := ⟨_, rfl⟩
      rw [← hd] at cD hs
      clear hd
      by_cases hdr : d ≤ r
      · have s2 : decide ((d : Int) ≤ (r : Int)) = true := decide_eq_true (by omega)
        have HS : Hid (intsN (neaK t r (i + 1)) = intsN (neaK t r i) ++ [(i : Int)]) := Lib.hid (by rw [hs, if_pos hdr]; simp [intsN])
        have hDl : Hid ((intsN (neaK t r i)).length + 1 ≤ 1099511627) := Lib.hid (by rw [intsN_len]; omega)
        clear hs hlen
        go_wp2_with fail
        refine (cD.out _).mono ?_
        rintro e w1 ⟨rfl, rfl⟩
        go_wp2_with (at_builtin; refine wpList_snocI _ (by rfl) _ _ (by rfl) w.heap.size _ (intsN (neaK t r i)) (i : Int) (by rfl) (by rfl) hO.out hDl.out hD.out.size ?_)
        intro v7 w7 hown7 hgrow7
        have hB7 := Lib.hid (below_snocI hD.out hO.out hgrow7)
        rw [← HS.out] at hown7
        have hO7 := Lib.hid hown7
        clear hown7 hgrow7
        go_wp2_with fail
        go_roundw
        case rel => exact ⟨i + 1, by omega, by go_num, hO7, hB7⟩
        case measure => simp [intOf]; omega
      · have s2 : decide ((d : Int) ≤ (r : Int)) = false := decide_eq_false (by omega)
        have HS : Hid (neaK t r (i + 1) = neaK t r i) := Lib.hid (by rw [hs, if_neg hdr])
        clear hs hlen
        go_wp2_with fail
        refine (cD.out _).mono ?_
        rintro e w1 ⟨rfl, rfl⟩
        go_wp2_with fail
        go_roundw
        case rel => exact ⟨i + 1, by omega, by go_num, by rw [HS.out]; exact hO, hD⟩
        case measure => simp [intOf]; omega
    · have s1 : decide ((i : Int) < 512) = false := decide_eq_false (by omega)
      have hi5 : i = 512 := by omega
      rw [hi5, neaK_full] at hO
      go_wp2_with fail
      go_ret2
      exact ⟨_, rfl, hO.out.list, hD.out⟩
theorem refNear_any (t r : Int) (w : World) : Calls Try.prog 18 #[.int .i64 t, .int .i64 r] w (GivesL (neaA t r).1 (neaA t r).2 w) := by
  have cI := Lib.hid (fun w => refIs_any t w)
  cases ht : isT t with
  | false =>
    have HA : Hid (neaA t r = ([], 1)) := Lib.hid (by unfold neaA; rw [ht]; rfl)
    rw [HA.out]
    rw [ht] at cI
    clear ht
    go_enter Try.func18, Try.ntmps18
    go_wp2_with fail
    refine (cI.out _).mono ?_
    rintro e w1 ⟨rfl, rfl⟩
    go_wp2_with fail
    go_ret2
    exact ⟨_, rfl, list_nil _, Below.refl _ _⟩
  | true =>
    by_cases h0 : r < 0
    · have HA : Hid (neaA t r = ([], 1)) := Lib.hid (by unfold neaA okR; rw [ht, if_neg (by simp; omega)])
      rw [HA.out]
      rw [ht] at cI
      have t1 : decide (r < 0) = true := decide_eq_true h0
      clear ht
      go_enter Try.func18, Try.ntmps18
      go_wp2_with fail
      refine (cI.out _).mono ?_
      rintro e w1 ⟨rfl, rfl⟩
      go_wp2_with fail
      go_ret2
      exact ⟨_, rfl, list_nil _, Below.refl _ _⟩
    · by_cases h1 : 31 < r
      · have HA : Hid (neaA t r = ([], 1)) := Lib.hid (by unfold neaA okR; rw [ht, if_neg (by simp; omega)])
        rw [HA.out]
        rw [ht] at cI
        have t1 : decide (r < 0) = false := decide_eq_false h0
        have t2 : decide (31 < r) = true := decide_eq_true h1
        clear ht
        go_enter Try.func18, Try.ntmps18
        go_wp2_with fail
        refine (cI.out _).mono ?_
        rintro e w1 ⟨rfl, rfl⟩
        go_wp2_with fail
        go_ret2
        exact ⟨_, rfl, list_nil _, Below.refl _ _⟩
      · obtain ⟨k, rfl, hk⟩ := isT_yes ht
        obtain ⟨q, rfl⟩ : ∃ q : Nat, r = (q : Int) := ⟨r.toNat, by omega⟩
        rw [neaA_ok hk (by omega)]
        exact refNear_ok k q hk (by omega) w
end Go.Proofs.Ytaebejhncjadhaa.Sk
