/-
  The helpers of the statements of layer 6: in, add, mul, different, points.
-/
import Derived.Test.YtalhcfffnggpjaaFdOwn
set_option linter.unusedVariables false
set_option maxRecDepth 100000
namespace Go.Proofs.Ytalhcfffnggpjaa
open Go.RowKit
open Fdp
set_option maxHeartbeats 400000 in
theorem lin_any (a : Option Addr) (n cap : Nat) (l : List Int) (w : World) (h : IntsAt w a n l) (hn : n ≤ maxLen) :
    Calls Try.prog 21 #[.slice a n cap] w fun e w' => e = .returned (.bool (allE l)) ∧ w = w' := by
  unfold maxLen at hn
  have HH := Lib.hid h
  clear h
  go_enter Try.func21, Try.ntmps21
  go_wp2_with fail
  go_loop [3] (fun i => ∃ k : Nat, k ≤ n ∧ i = .int .i64 k ∧ Hid (∀ j (hj : j < l.length), j < k → okE l[j] = true)) (fun i => n - (intOf i).toNat)
  case atStart => exact ⟨0, by omega, rfl, (show _ from fun j _ h => absurd h (by omega))⟩
  case round =>
    obtain ⟨k, hk, rfl, hx⟩ := hrel
    by_cases hlt : k < n
    · obtain ⟨b, off, rfl, hc⟩ := HH.out.cells (by omega)
      have hkl : k < l.length := by rw [← HH.out.len]; exact hlt
      have hcell := hc k hkl
      clear hc
      obtain ⟨x, hxk⟩ : ∃ x, x = l[k] := ⟨_, rfl⟩
      rw [← hxk] at hcell
      have HX := Lib.hid hxk
      clear hxk
      by_cases h1 : x < 0
      · have hb : allE l = false := allE_no hkl (by rw [← HX.out]; exact okE_no.2 (.inl h1))
        have HB := Lib.hid hb
        clear hb
        go_wp2_with fail
        go_ret
        exact ⟨by rw [HB.out]; rfl, rfl⟩
      · by_cases h2 : 2147483647 ≤ x
        · have hb : allE l = false := allE_no hkl (by rw [← HX.out]; exact okE_no.2 (.inr h2))
          have HB := Lib.hid hb
          clear hb
          go_wp2_with fail
          go_ret
          exact ⟨by rw [HB.out]; rfl, rfl⟩
        · have h1' : 0 ≤ x := by omega
          have h2' : x < 2147483647 := by omega
          go_wp2_with fail
          go_round
          case rel =>
            refine ⟨k + 1, by omega, by go_num, (show _ from fun j hj h => ?_)⟩
            by_cases e : j = k
            · subst e; rw [← HX.out]; exact okE_iff.2 ⟨h1', h2'⟩
            · exact hx.out j hj (by omega)
          case measure => simp [intOf]; omega
    · obtain rfl : k = n := by omega
      have hb : allE l = true := allE_upto fun j hj => hx.out j hj (by rw [HH.out.len]; exact hj)
      have HB := Lib.hid hb
      clear hb
      go_wp2_with fail
      go_ret
      exact ⟨by rw [HB.out]; rfl, rfl⟩
theorem lin_yes (a : Option Addr) (n cap : Nat) (l : List Int) (w : World) (h : IntsAt w a n l) (hn : n ≤ maxLen) (hb : allE l = true) :
    Calls Try.prog 21 #[.slice a n cap] w fun e w' => e = .returned (.bool true) ∧ w = w' := by
  rw [← hb]; exact lin_any a n cap l w h hn
theorem lin_no (a : Option Addr) (n cap : Nat) (l : List Int) (w : World) (h : IntsAt w a n l) (hn : n ≤ maxLen) (hb : allE l = false) :
    Calls Try.prog 21 #[.slice a n cap] w fun e w' => e = .returned (.bool false) ∧ w = w' := by
  rw [← hb]; exact lin_any a n cap l w h hn
theorem addE_ok {a b : Int} (ha : 0 ≤ a ∧ a < 2147483647) (hb : 0 ≤ b ∧ b < 2147483647) : addE a b = (sumF a b, 0) := by
  unfold addE; rw [okE_iff.2 ha, okE_iff.2 hb]; rfl
theorem mulE_ok {a b : Int} (ha : 0 ≤ a ∧ a < 2147483647) (hb : 0 ≤ b ∧ b < 2147483647) : mulE a b = (mulF a b, 0) := by
  unfold mulE; rw [okE_iff.2 ha, okE_iff.2 hb]; rfl
theorem ladd_ok (a b : Int) (w : World) (ha : 0 ≤ a ∧ a < 2147483647) (hb : 0 ≤ b ∧ b < 2147483647) :
    Calls Try.prog 22 #[.int .i64 a, .int .i64 b] w fun e w' => e = .returned (.int .i64 (sumF a b)) ∧ Below w.heap.size w w' := by
  have h := fAdd_any a b w
  rw [addE_ok ha hb] at h
  clear ha hb
  go_enter Try.func22, Try.ntmps22
  go_wp2_with fail
  refine h.mono ?_
  rintro e w1 ⟨rfl, hb⟩
  go_wp2_with fail
  go_ret
  exact ⟨rfl, hb⟩
theorem lmul_ok (a b : Int) (w : World) (ha : 0 ≤ a ∧ a < 2147483647) (hb : 0 ≤ b ∧ b < 2147483647) :
    Calls Try.prog 23 #[.int .i64 a, .int .i64 b] w fun e w' => e = .returned (.int .i64 (mulF a b)) ∧ Below w.heap.size w w' := by
  have h := fMul_any a b w
  rw [mulE_ok ha hb] at h
  clear ha hb
  go_enter Try.func23, Try.ntmps23
  go_wp2_with fail
  refine h.mono ?_
  rintro e w1 ⟨rfl, hb⟩
  go_wp2_with fail
  go_ret
  exact ⟨rfl, hb⟩
set_option maxHeartbeats 1000000 in
theorem ldiff_any (a : Option Addr) (n cap : Nat) (l : List Int) (w : World) (h : IntsAt w a n l) (hn : n ≤ 1000000) :
    Calls Try.prog 24 #[.slice a n cap] w fun e w' => e = .returned (.bool (diffX l)) ∧ Below w.heap.size w w' := by
  have HH := Lib.hid h
  have HL := Lib.hid h.len
  clear h
  have D0 : Hid (Below w.heap.size w w) := Lib.hid (Below.refl _ _)
  go_enter Try.func24, Try.ntmps24
  go_wp2_with fail
  go_loopw [3] (fun i wr => ∃ k : Nat, k ≤ n ∧ i = .int .i64 k ∧ Hid (Dif l k 0) ∧ Hid (Below w.heap.size w wr)) (fun i _ => n - (intOf i).toNat)
  case atStart => exact ⟨0, by omega, rfl, Lib.hid (Dif.start _), D0⟩
  case round =>
    obtain ⟨k, hk, rfl, hx, hD⟩ := hrel
    by_cases hlt : k < n
    · have hkl : k < l.length := by rw [← HL.out]; exact hlt
      go_wp2_with fail
      obtain ⟨wo, rfl⟩ : ∃ wo : World, wo = wr := ⟨_, rfl⟩
      go_loopw [4] (fun i wr => ∃ m : Nat, m ≤ k ∧ i = .int .i64 m ∧ Hid (Dif l k m) ∧ Hid (Below w.heap.size w wr)) (fun i _ => k - (intOf i).toNat)
      case atStart => exact ⟨0, by omega, rfl, hx, hD⟩
      case round =>
        clear hx hD
        obtain ⟨m, hm, rfl, hx, hD⟩ := hrel
        by_cases hml : m < k
        · have hml' : m < l.length := by omega
          obtain ⟨b, off, rfl, -⟩ := HH.out.cells (by omega)
          have hc1 := (HH.out.bel hD.out).cell hkl
          have hc2 := (HH.out.bel hD.out).cell hml'
          obtain ⟨x, hxk⟩ : ∃ x, x = l[k] := ⟨_, rfl⟩
          rw [← hxk] at hc1
          obtain ⟨u, huk⟩ : ∃ u, u = l[m] := ⟨_, rfl⟩
          rw [← huk] at hc2
          have HX := Lib.hid hxk
          have HU := Lib.hid huk
          clear hxk huk
          have b1 : (0 : Int) ≤ (k : Int) := by omega
          have b2 : (k : Int) < (n : Int) := by omega
          have b3 : (0 : Int) ≤ (m : Int) := by omega
          have b4 : (m : Int) < (n : Int) := by omega
          by_cases hxu : x = u
          · have hb' : Hid (diffX l = false) := Lib.hid (Dif.no hkl hml' hml (by rw [← HX.out, ← HU.out]; exact hxu))
            have e1 : (x == u) = true := by rw [hxu]; simp
            clear hxu
            go_wp2_with fail
            go_quiet (fail)
            go_wp2_with fail
            go_ret
            exact ⟨by rw [hb'.out]; rfl, below_drewN hD.out _⟩
          · have hx2 : Hid (Dif l k (m + 1)) := Lib.hid (hx.out.next hkl hml' (by rw [← HX.out, ← HU.out]; exact hxu))
            have e1 : (x == u) = false := by simpa using hxu
            clear hxu
            go_wp2_with fail
            go_quiet (fail)
            go_wp2_with fail
            go_roundw
            case rel => exact ⟨m + 1, by omega, by go_num, hx2, Lib.hid (below_drewN hD.out _)⟩
            case measure => simp [intOf]; omega
        · obtain rfl : m = k := by omega
          go_wp2_with fail
          go_roundw
          case rel => exact ⟨m + 1, by omega, by go_num, Lib.hid hx.out.done, hD⟩
          case measure => simp [intOf]; omega
    · obtain rfl : k = n := by omega
      have hb : diffX l = true := Dif.all (by rw [← HL.out]; exact hx.out)
      have HB := Lib.hid hb
      clear hb
      go_wp2_with fail
      go_ret
      exact ⟨by rw [HB.out]; rfl, hD.out⟩
theorem ldiff_yes (a : Option Addr) (n cap : Nat) (l : List Int) (w : World) (h : IntsAt w a n l) (hn : n ≤ 1000000) (hb : diffX l = true) :
    Calls Try.prog 24 #[.slice a n cap] w fun e w' => e = .returned (.bool true) ∧ Below w.heap.size w w' := by
  rw [← hb]; exact ldiff_any a n cap l w h hn
theorem ldiff_no (a : Option Addr) (n cap : Nat) (l : List Int) (w : World) (h : IntsAt w a n l) (hn : n ≤ 1000000) (hb : diffX l = false) :
    Calls Try.prog 24 #[.slice a n cap] w fun e w' => e = .returned (.bool false) ∧ Below w.heap.size w w' := by
  rw [← hb]; exact ldiff_any a n cap l w h hn
theorem evalE_ok {l : List Int} {x : Int} (hl : l.length ≤ 16) (hp : allE l = true) (hx : 0 ≤ x ∧ x < 2147483647) : evalE l x = (evF x l, 0) := by
  unfold evalE; rw [hp, okE_iff.2 hx, if_pos (by simpa using hl)]
theorem fEval_ok (a : Option Addr) (n cap : Nat) (l : List Int) (x : Int) (w : World) (h : IntsAt w a n l) (hn : n ≤ 16) (hp : allE l = true) (hx : 0 ≤ x ∧ x < 2147483647) :
    Calls Try.prog 17 #[.slice a n cap, .int .i64 x] w fun e w' => e = .returned (.tuple #[.int .i64 (evF x l), .int .i64 0]) ∧ Below w.heap.size w w' := by
  have := fEval_any a n cap l x w h (max_small (by omega))
  rw [evalE_ok (by rw [← h.len]; exact hn) hp hx] at this
  exact this
set_option maxHeartbeats 2000000 in
theorem lpoints_any (a b : Option Addr) (n cn m cm : Nat) (l xs : List Int) (w : World) (h : IntsAt w a n l) (hm : IntsAt w b m xs) (hn16 : n ≤ 16) (hm16 : m ≤ 16) (hp : allE l = true) (hx : allE xs = true) :
    Calls Try.prog 25 #[.slice a n cn, .slice b m cm] w fun e w' => ∃ v, e = .returned (.tuple #[v, .bool true]) ∧ OwnP w.heap.size w' v (xs.map fun x => (x, evF x l)) ∧ Below w.heap.size w w' := by
  have HA := Lib.hid h
  have HB := Lib.hid hm
  have HL := Lib.hid hm.len
  have HP := Lib.hid hp
  have HX := Lib.hid hx
  clear h hm hp hx
  have D0 : Hid (Below w.heap.size w w) := Lib.hid (Below.refl _ _)
  have hO : Hid (OwnP w.heap.size w (.slice none 0 0) ((xs.take 0).map fun x => (x, evF x l))) := Lib.hid (World.ownsRow_nil _ _ _ _)
  go_enter Try.func25, Try.ntmps25
  go_wp2_with fail
  go_loopw [6, 7] (fun v i wr => ∃ k : Nat, k ≤ m ∧ i = .int .i64 (k : Int) ∧ Hid (OwnP w.heap.size wr v ((xs.take k).map fun x => (x, evF x l))) ∧ Hid (Below w.heap.size w wr)) (fun _ i _ => m - (intOf i).toNat)
  case atStart => exact ⟨0, by omega, rfl, hO, D0⟩
  case round =>
    clear hO D0
    obtain ⟨k, hk, rfl, hO, hD⟩ := hrel
    by_cases hlt : k < m
    · have hkl : k < xs.length := by rw [← HL.out]; exact hlt
      obtain ⟨b', off, rfl, -⟩ := HB.out.cells (by omega)
      have hc := (HB.out.bel hD.out).cell hkl
      obtain ⟨x, hxk⟩ : ∃ x, x = xs[k] := ⟨_, rfl⟩
      rw [← hxk] at hc
      have hxr : Hid (0 ≤ x ∧ x < 2147483647) := Lib.hid (by rw [hxk]; exact allE_iff.1 HX.out _ (List.getElem_mem _))
      have HXK := Lib.hid hxk
      clear hxk
      go_wp2_with fail
      refine (fEval_ok _ _ _ l x _ (HA.out.bel hD.out) hn16 HP.out hxr.out).mono ?_
      rintro e w2 ⟨rfl, hb⟩
      have hD2 := Lib.hid (hD.out.trans (hb.mono hD.out.size))
      have hO2 := Lib.hid (own_bel hO.out hb)
      have hc2 := (HB.out.bel hD2.out).cell hkl
      rw [← HXK.out] at hc2
      have hPl : ((xs.take k).map fun x => (x, evF x l)).length + 1 ≤ 1000000 := by simp; omega
      have HPl := Lib.hid hPl
      have hD3 := Lib.hid (hD2.out.alloc hD2.out.size (Obj.cells #[Value.int .i64 x, Value.int .i64 (evF x l)] 41))
      have hO3 := Lib.hid (own_bel hO2.out ((Below.refl _ w2).alloc (Nat.le_refl _) (Obj.cells #[Value.int .i64 x, Value.int .i64 (evF x l)] 41)))
      clear hb hc hO hD hO2 hPl
      go_wp2_with (at_builtin; refine wpList_catP _ rfl _ _ rfl w.heap.size _ _ [(x, evF x l)] _ 1 1 rfl rfl hO3.out (pts_one _ _ _ (by simp)) (fun h => by cases h) HPl.out hD3.out.size ?_)
      intro v' w4 hO4 hg4
      have hD4 := Lib.hid (below_app hD3.out hD3.out.size hO3.out hg4)
      have hO5 : Hid (OwnP w.heap.size w4 v' ((xs.take (k + 1)).map fun x => (x, evF x l))) := Lib.hid (by
        rw [List.take_succ_eq_append_getElem hkl, List.map_append, List.map_take, ← HXK.out]; exact hO4)
      clear hO4 hg4 hO3
      go_wp2_with fail
      go_roundw
      case rel => exact ⟨k + 1, by omega, by go_num, hO5, hD4⟩
      case measure => simp [intOf]; omega
    · obtain rfl : k = m := by omega
      go_wp2_with fail
      go_ret2
      exact ⟨_, rfl, by have := hO.out; rwa [HL.out, List.take_length] at this, hD.out⟩
end Go.Proofs.Ytalhcfffnggpjaa
