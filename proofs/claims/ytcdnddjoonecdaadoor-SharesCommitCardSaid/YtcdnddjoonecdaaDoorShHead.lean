/-
  The examples of chapter 7, and the head of the statements.
-/
import Derived.Test.YtcdnddjoonecdaaDoorShProgT
set_option linter.unusedVariables false
set_option maxRecDepth 100000
namespace Go.Proofs.YtcdnddjoonecdaaDoor
open Go.RowKit
open Fdp
theorem ex7_split : splitE 7 2 3 [5] = ([(1, 12), (2, 17), (3, 22)], 0) := by decide
theorem ex7_j1 : joinE [(3, 22), (1, 12)] 2 = (7, 0) :=
  join_on (l := [(3, 22), (1, 12)]) (c := [7, 5]) (n := 2) (by decide) (by decide) (by decide) (by decide) (by decide) (by decide) (fun q hq => by simp at hq; rcases hq with rfl | rfl <;> decide)
theorem ex7_j2 : joinE [(3, 22)] 2 = (0, 25) := join_few (l := [(3, 22)]) (n := 2) (by decide) (by decide) (by decide) (by decide) (by decide)
theorem ex7_j3 : joinE [(1, 12), (1, 12)] 2 = (0, 8) := joinE_twice (by decide) (by decide) (by decide)
theorem ex7_j4 : joinE [(1, 12), (2, 17), (3, 23)] 2 = (0, 24) :=
  join_wrong (l := [(1, 12), (2, 17), (3, 23)]) (c := [7, 5]) (n := 2) (k := 2) (by decide) (by decide) (by decide) (by decide) (by decide) (by decide) (by decide)
    (fun i hi hne => by match i, hi with
      | 0, _ => exact (by decide : (12 : Int) = evF 1 [7, 5])
      | 1, _ => exact (by decide : (17 : Int) = evF 2 [7, 5])
      | 2, _ => exact absurd rfl hne) (by decide)
/-- Split's answer, opened -/
theorem pSplit_open (secret need total : Int) (a : Option Addr) (n cap : Nat) (l : List Int) (w : World) (h : IntsAt w a n l) (hn : n ≤ maxLen) (hb1 : -9223372036854775808 ≤ need ∧ need ≤ 9223372036854775807) {m : Nat} {er : Int} {r : List (Int × Int)} (hr : splitE secret need total l = (r, er)) (hm : m = r.length) :
    Calls Tryd.prog 6 #[.int .i64 secret, .int .i64 need, .int .i64 total, .slice a n cap] w fun e w' => ∃ b c, (e = .returned (.tuple #[.slice b m c, .int .i64 er]) ∧ m ≤ c ∧ c ≤ maxLen ∧ PtsAt w' b m r) ∧ Below w.heap.size w w' := by
  refine (pSplit_any secret need total a n cap l w h hn hb1).mono ?_
  rintro e w' ⟨v, rfl, hp, hb⟩
  rw [hr] at hp ⊢
  obtain ⟨b, c, rfl, h1, h2, _, h3⟩ := hp.form
  subst hm
  exact ⟨b, c, ⟨rfl, h1, h2, h3⟩, hb⟩
theorem pJoin_is (a : Option Addr) (n cap : Nat) (l : List (Int × Int)) (need : Int) (w : World) (h : PtsAt w a n l) (hn : n ≤ 1000) (hcap : n ≤ cap) (hcm : cap ≤ maxLen) {s er : Int} (hr : joinE l need = (s, er)) :
    Calls Tryd.prog 19 #[.slice a n cap, .int .i64 need] w fun e w' => e = .returned (.tuple #[.int .i64 s, .int .i64 er]) ∧ Below w.heap.size w w' := by
  have := pJoin_any a n cap l need w h hn hcap hcm
  rw [hr] at this; exact this
set_option maxHeartbeats 2000000 in
theorem head7_any (w : World) : Calls Tryd.prog 4 #[] w fun e w' => e = .returned (.bool true) ∧ Below w.heap.size w w' := by
  have D0 := Lib.hid (Below.refl w.heap.size w)
  go_enter Tryd.func4, Tryd.ntmps4
  go_wp2_with fail
  have D1 := Lib.hid (D0.out.alloc D0.out.size (Obj.cells #[Value.int .i64 5] 3))
  clear D0
  refine (pSplit_open 7 2 3 _ 1 _ [5] _ (ints_one _ _ (by simp)) (max_small (by decide)) (by decide) ex7_split (m := 3) rfl).mono ?_
  rintro e w2 ⟨b1, c1, ⟨rfl, hq1, hq2, hq3⟩, hb⟩
  have D2 := Lib.hid (D1.out.trans (hb.mono D1.out.size))
  have Q1 := Lib.hid hq1
  have Q2 := Lib.hid hq2
  have Q3 := Lib.hid hq3
  clear hq1 hq2 hq3
  have Z0 := Lib.hid (Below.refl w2.heap.size w2)
  clear hb D1
  go_wp2_with fail
  have Z2 := Lib.hid (Z0.out.alloc Z0.out.size (Obj.cells #[Value.int .i64 3, Value.int .i64 22, Value.int .i64 1, Value.int .i64 12] 24))
  clear Z0
  refine (pJoin_is _ 2 _ [(3, 22), (1, 12)] 2 _ (sh_two _ _ _ _ _ (by simp)) (by decide) (by decide) (max_small (by decide)) ex7_j1).mono ?_
  rintro e w3 ⟨rfl, hb⟩
  have Z3 := Lib.hid (Z2.out.trans (hb.mono Z2.out.size))
  clear hb Z2
  go_wp2_with fail
  have Z4 := Lib.hid (Z3.out.alloc Z3.out.size (Obj.cells #[Value.int .i64 3, Value.int .i64 22] 24))
  clear Z3
  refine (pJoin_is _ 1 _ [(3, 22)] 2 _ (sh_one _ _ _ (by simp)) (by decide) (by decide) (max_small (by decide)) ex7_j2).mono ?_
  rintro e w5 ⟨rfl, hb⟩
  have Z5 := Lib.hid (Z4.out.trans (hb.mono Z4.out.size))
  clear hb Z4
  go_wp2_with fail
  have Z6 := Lib.hid (Z5.out.alloc Z5.out.size (Obj.cells #[Value.int .i64 1, Value.int .i64 12, Value.int .i64 1, Value.int .i64 12] 24))
  clear Z5
  refine (pJoin_is _ 2 _ [(1, 12), (1, 12)] 2 _ (sh_two _ _ _ _ _ (by simp)) (by decide) (by decide) (max_small (by decide)) ex7_j3).mono ?_
  rintro e w7 ⟨rfl, hb⟩
  have Z7 := Lib.hid (Z6.out.trans (hb.mono Z6.out.size))
  clear hb Z6
  go_wp2_with fail
  have Z8 := Lib.hid (Z7.out.alloc Z7.out.size (Obj.cells #[Value.int .i64 1, Value.int .i64 12, Value.int .i64 2, Value.int .i64 17, Value.int .i64 3, Value.int .i64 23] 24))
  clear Z7
  refine (pJoin_is _ 3 _ [(1, 12), (2, 17), (3, 23)] 2 _ (sh_three _ _ _ _ _ _ _ (by simp)) (by decide) (by decide) (max_small (by decide)) ex7_j4).mono ?_
  rintro e w9 ⟨rfl, hb⟩
  have Z9 := Lib.hid (Z8.out.trans (hb.mono Z8.out.size))
  clear hb Z8
  go_wp2_with fail
  have Y0 := Lib.hid (Z9.out.alloc Z9.out.size (Obj.cells #[Value.int .i64 1, Value.int .i64 12, Value.int .i64 2, Value.int .i64 17, Value.int .i64 3, Value.int .i64 22] 24))
  clear Z9
  refine (refSame_any _ _ 3 3 _ _ [(1, 12), (2, 17), (3, 22)] [(1, 12), (2, 17), (3, 22)] _ (Q3.out.bel Y0.out) (sh_three _ _ _ _ _ _ _ (by simp)) (by decide) (by decide)).mono ?_
  rintro e w99 ⟨rfl, hb⟩
  have Y1 := Lib.hid (Y0.out.trans (hb.mono Y0.out.size))
  clear hb Y0
  have hq : eqL [((1 : Int), (12 : Int)), (2, 17), (3, 22)] [(1, 12), (2, 17), (3, 22)] = true := by decide
  rw [hq]
  clear hq
  go_wp2_with fail
  go_ret
  exact ⟨rfl, D2.out.trans (Y1.out.mono D2.out.size)⟩
end Go.Proofs.YtcdnddjoonecdaaDoor
