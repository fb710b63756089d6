/-
  A further point (FieldFurther, P6.7).
-/
import Derived.Test.YtalhcfffnggpjaaFdHead
import Derived.Deep.DeepCutAuto
set_option linter.unusedVariables false
set_option maxRecDepth 100000
namespace Go.Proofs.Ytalhcfffnggpjaa
open Go.RowKit
open Fdp
theorem heap_last2F (w : World) (o1 o2 : Obj) : ((w.alloc o1).alloc o2).drew.heap[w.heap.size + 1]? = some o2 := by
  have := heap_lastF (w.alloc o1) o2
  rw [show (w.alloc o1).heap.size = w.heap.size + 1 by simp] at this
  exact this
theorem own_empty {B g : Nat} {w : World} (h : w.heap[g]? = some (.cells #[] 41 (0, 0))) (hB : B ≤ g) : OwnP B w (.slice (some ⟨g, 0, none⟩) 0 0) [] :=
  ⟨rfl, .inr ⟨g, 0, #[], rfl, hB, h, Nat.le_refl _, Nat.zero_le _, rfl, rfl⟩⟩
theorem pts_block {g : Nat} {w : World} {a b : Int} (h : w.heap[g]? = some (.cells #[.int .i64 a, .int .i64 b] 41 (0, 0))) : PtsAt w (some ⟨g, 0, none⟩) 1 [(a, b)] :=
  ⟨rfl, fun _ => ⟨_, _, rfl, fun j hj => by
    match j, hj with
    | 0, _ => exact ⟨by rw [Lib.cell_of_heap h]; rfl, by rw [Lib.cell_of_heap h]; rfl⟩⟩⟩
theorem pts_kept {g : Nat} {w w' : World} {a b : Int} {row : Option Nat} (h : w.heap[g]? = some (.cells #[.int .i64 a, .int .i64 b] 41 (0, 0))) (hg : w.grownBy w' row) (hne : some g ≠ row) : PtsAt w' (some ⟨g, 0, none⟩) 1 [(a, b)] :=
  pts_block ((hg.block g (blk_ltF h) hne).trans h)
theorem below_app2 {B B2 sz : Nat} {e : TypeId} {w0 w w' : World} {g n cap : Nat} {xs : List Value} (hb : Below B w0 w) (h : w.ownsRow B2 e sz (.slice (some ⟨g, 0, none⟩) n cap) n xs) (hg : w.grownBy w' (Value.ownBlock (.slice (some ⟨g, 0, none⟩) n cap))) (hB : B ≤ g) : Below B w0 w' := by
  have hlt := World.ownsRow.lt h g rfl
  exact hb.trans ⟨hg.os, hg.tape, hg.output, hg.size, fun k hk => hg.block k (by omega) (fun e => by simp [Value.ownBlock] at e; omega)⟩
set_option maxHeartbeats 4000000 in
theorem walkFieldFurther (vq : Value) (q : List (Int × Int)) (u v x : Int) (w : World) (hq : PtsOk w vq q) (hu64 : -9223372036854775808 ≤ u ∧ u ≤ 9223372036854775807) (hv64 : -9223372036854775808 ≤ v ∧ v ≤ 9223372036854775807) (hx64 : -9223372036854775808 ≤ x ∧ x ≤ 9223372036854775807) :
    Calls Try.prog 9 #[vq, .agg #[.int .i64 u, .int .i64 v], .int .i64 x] w fun e w' => e = .returned (.bool true) ∧ Below w.heap.size w w' := by
  clear hu64 hv64 hx64
  obtain ⟨qa, cq, rfl, hqa1, hqa2, hqa3, hqa4⟩ := hq.form
  obtain ⟨m, hnqa⟩ : ∃ n, n = q.length := ⟨_, rfl⟩
  rw [← hnqa] at hqa1 hqa4 ⊢
  have HB := Lib.hid hqa4
  have HBc := Lib.hid hqa1
  have HBm := Lib.hid hqa2
  have HB0 := Lib.hid hqa3
  have HBn := Lib.hid hnqa
  have hqa5 : m ≤ 9223372036854775807 := by unfold maxLen at hqa2; omega
  clear hqa1 hqa2 hqa3 hqa4 hnqa
  clear hq
  have hb0 := heap_lastF w (Obj.cells #[Value.int .i64 u, Value.int .i64 v] 41)
  have HB0 := Lib.hid hb0
  clear hb0
  have HP := Lib.hid (HB.out.bel ((Below.refl _ w).alloc (Nat.le_refl _) (Obj.cells #[Value.int .i64 u, Value.int .i64 v] 41)))
  by_cases g1 : m < 1
  · have g1b : m ≤ 15 := by omega
    have D0 := Lib.hid (Below.refl w.heap.size w)
    go_enter Try.func9, Try.ntmps9
    go_wp2_with fail
    have D1 := Lib.hid (D0.out.alloc (Nat.le_refl _) (Obj.cells #[Value.int .i64 u, Value.int .i64 v] 41))
    clear D0
    refine (head_any _).mono ?_
    rintro e w2 ⟨rfl, hb⟩
    have D2 := Lib.hid (D1.out.trans (hb.mono D1.out.size))
    clear hb D1
    go_wp2_with fail
    go_ret
    exact ⟨rfl, D2.out⟩
  · have g1' : 1 ≤ m := by omega
    by_cases g2 : 15 < m
    · skip
      have D0 := Lib.hid (Below.refl w.heap.size w)
      go_enter Try.func9, Try.ntmps9
      go_wp2_with fail
      have D1 := Lib.hid (D0.out.alloc (Nat.le_refl _) (Obj.cells #[Value.int .i64 u, Value.int .i64 v] 41))
      clear D0
      refine (head_any _).mono ?_
      rintro e w2 ⟨rfl, hb⟩
      have D2 := Lib.hid (D1.out.trans (hb.mono D1.out.size))
      clear hb D1
      go_wp2_with fail
      go_ret
      exact ⟨rfl, D2.out⟩
    · have g2' : m ≤ 15 := by omega
      have D0 := Lib.hid (Below.refl w.heap.size w)
      go_enter Try.func9, Try.ntmps9
      go_wp2_with fail
      have D1 := Lib.hid (D0.out.alloc (Nat.le_refl _) (Obj.cells #[Value.int .i64 u, Value.int .i64 v] 41))
      clear D0
      refine (head_any _).mono ?_
      rintro e w2 ⟨rfl, hb⟩
      have D2 := Lib.hid (D1.out.trans (hb.mono D1.out.size))
      have HP2 := Lib.hid (HP.out.bel hb)
      have hbx : w2.heap[w.heap.size]? = some (.cells #[Value.int .i64 u, Value.int .i64 v] 41 (0, 0)) := (hb.block _ (by simp)).trans HB0.out
      have HBX := Lib.hid hbx
      clear hbx hb D1
      go_upto_region 4 with fail
      go_cut [8] (fun s8 wx => Hid (OwnP w2.heap.size wx s8 (q ++ [(u, v)])) ∧ Hid (Below w2.heap.size w2 wx))
      case first =>
        have hc0 : w2.cell? ⟨w.heap.size, 0, none⟩ = some (.int .i64 u) := by rw [Lib.cell_of_heap HBX.out]; rfl
        have hc1 : w2.cell? ⟨w.heap.size, 1, none⟩ = some (.int .i64 v) := by rw [Lib.cell_of_heap HBX.out]; rfl
        have b1 : Below w2.heap.size w2 (w2.alloc (Obj.cells #[] 41)).drew := ((Below.refl _ _).alloc (Nat.le_refl _) _).drew
        have b2 : Below w2.heap.size w2 ((w2.alloc (Obj.cells #[] 41)).alloc (Obj.cells #[Value.int .i64 u, Value.int .i64 v] 41)).drew := (((Below.refl _ _).alloc (Nat.le_refl _) _).alloc (by simp) _).drew
        have b3 : Below w2.heap.size w2 ((w2.alloc (Obj.cells #[Value.int .i64 u, Value.int .i64 v] 41)).alloc (Obj.cells #[] 41)).drew := (((Below.refl _ _).alloc (Nat.le_refl _) _).alloc (by simp) _).drew
        have o1 : OwnP w2.heap.size (w2.alloc (Obj.cells #[] 41)).drew (.slice (some ⟨w2.heap.size, 0, none⟩) 0 0) [] := own_empty (B := w2.heap.size) (heap_lastF w2 _) (Nat.le_refl _)
        have o2 : OwnP w2.heap.size ((w2.alloc (Obj.cells #[] 41)).alloc (Obj.cells #[Value.int .i64 u, Value.int .i64 v] 41)).drew (.slice (some ⟨w2.heap.size, 0, none⟩) 0 0) [] := own_empty (B := w2.heap.size) ((Below.heap_alloc _ _ _ (by simp)).trans (heap_lastF w2 _)) (Nat.le_refl _)
        have o3 : OwnP w2.heap.size ((w2.alloc (Obj.cells #[Value.int .i64 u, Value.int .i64 v] 41)).alloc (Obj.cells #[] 41)).drew (.slice (some ⟨w2.heap.size + 1, 0, none⟩) 0 0) [] := own_empty (B := w2.heap.size) (heap_last2F w2 _ _) (Nat.le_succ _)
        have n2 : ((w2.alloc (Obj.cells #[] 41)).alloc (Obj.cells #[Value.int .i64 u, Value.int .i64 v] 41)).drew.heap[w2.heap.size + 1]? = some (Obj.cells #[Value.int .i64 u, Value.int .i64 v] 41) := heap_last2F w2 _ _
        have ha0 : (w2.alloc (Obj.cells #[] 41)).cell? ⟨w.heap.size, 0, none⟩ = some (.int .i64 u) := (((Below.refl w2.heap.size w2).alloc (Nat.le_refl _) _).cell (p := ⟨w.heap.size, 0, none⟩) (cell_ltF hc0)).trans hc0
        have ha1 : (w2.alloc (Obj.cells #[] 41)).cell? ⟨w.heap.size, 1, none⟩ = some (.int .i64 v) := (((Below.refl w2.heap.size w2).alloc (Nat.le_refl _) _).cell (p := ⟨w.heap.size, 1, none⟩) (cell_ltF hc1)).trans hc1
        have n3 : ((w2.alloc (Obj.cells #[Value.int .i64 u, Value.int .i64 v] 41)).alloc (Obj.cells #[] 41)).drew.heap[w2.heap.size]? = some (Obj.cells #[Value.int .i64 u, Value.int .i64 v] 41) := (Below.heap_alloc _ _ _ (by simp)).trans (heap_lastF w2 _)
        have hq1 : Hid (q.length + 1 ≤ 1000000) := Lib.hid (by have := HBn.out; omega)
        have hq0 : Hid (([] : List (Int × Int)).length + m ≤ 1000000) := Lib.hid (by simp; omega)
        have HQ0 : Hid (qa = none → m = 0 ∧ cq = 0) := Lib.hid (fun e => by obtain ⟨b, off, e2, -⟩ := HB.out.cells g1'; rw [e] at e2; cases e2)
        have Hb1 := Lib.hid b1
        have Hb2 := Lib.hid b2
        have Hb3 := Lib.hid b3
        have Ho1 := Lib.hid o1
        have Ho2 := Lib.hid o2
        have Ho3 := Lib.hid o3
        have Hn2 := Lib.hid n2
        have Hn3 := Lib.hid n3
        clear b1 b2 b3 o1 o2 o3 n2 n3
        go_region_law (first | (refine step_catP _ (by rfl) _ _ (by rfl) w2.heap.size _ [] q qa m cq (by rfl) (by rfl) Ho1.out (HP2.out.bel Hb1.out) HQ0.out hq0.out Hb1.out.size ?_; intro v4 w4 hO4 hg4; have HO4 : Hid (OwnP w2.heap.size w4 v4 q) := Lib.hid hO4; have HB4 : Hid (Below w2.heap.size w2 w4) := Lib.hid (below_app2 Hb1.out Ho1.out hg4 (Nat.le_refl _)); have hx0 : w4.cell? ⟨w.heap.size, 0, none⟩ = some (.int .i64 u) := (HB4.out.cell (p := ⟨w.heap.size, 0, none⟩) (cell_ltF hc0)).trans hc0; have hx1 : w4.cell? ⟨w.heap.size, 1, none⟩ = some (.int .i64 v) := (HB4.out.cell (p := ⟨w.heap.size, 1, none⟩) (cell_ltF hc1)).trans hc1; clear hO4 hg4) | (refine step_catP _ (by rfl) _ _ (by rfl) w2.heap.size _ [] q qa m cq (by rfl) (by rfl) Ho2.out (HP2.out.bel Hb2.out) HQ0.out hq0.out Hb2.out.size ?_; intro v4 w4 hO4 hg4; have HO4 : Hid (OwnP w2.heap.size w4 v4 q) := Lib.hid hO4; have HB4 : Hid (Below w2.heap.size w2 w4) := Lib.hid (below_app2 Hb2.out Ho2.out hg4 (Nat.le_refl _)); have hx0 : w4.cell? ⟨w.heap.size, 0, none⟩ = some (.int .i64 u) := (HB4.out.cell (p := ⟨w.heap.size, 0, none⟩) (cell_ltF hc0)).trans hc0; have hx1 : w4.cell? ⟨w.heap.size, 1, none⟩ = some (.int .i64 v) := (HB4.out.cell (p := ⟨w.heap.size, 1, none⟩) (cell_ltF hc1)).trans hc1; have HN4 := Lib.hid (pts_kept Hn2.out hg4 (by simp [Value.ownBlock])); clear hO4 hg4) | (refine step_catP _ (by rfl) _ _ (by rfl) w2.heap.size _ [] q qa m cq (by rfl) (by rfl) Ho3.out (HP2.out.bel Hb3.out) HQ0.out hq0.out Hb3.out.size ?_; intro v4 w4 hO4 hg4; have HO4 : Hid (OwnP w2.heap.size w4 v4 q) := Lib.hid hO4; have HB4 : Hid (Below w2.heap.size w2 w4) := Lib.hid (below_app2 Hb3.out Ho3.out hg4 (Nat.le_succ _)); have hx0 : w4.cell? ⟨w.heap.size, 0, none⟩ = some (.int .i64 u) := (HB4.out.cell (p := ⟨w.heap.size, 0, none⟩) (cell_ltF hc0)).trans hc0; have hx1 : w4.cell? ⟨w.heap.size, 1, none⟩ = some (.int .i64 v) := (HB4.out.cell (p := ⟨w.heap.size, 1, none⟩) (cell_ltF hc1)).trans hc1; have HN4 := Lib.hid (pts_kept Hn3.out hg4 (by simp [Value.ownBlock])); clear hO4 hg4) | (refine step_catP _ (by rfl) _ _ (by rfl) w2.heap.size _ q [(u, v)] _ 1 1 (by rfl) (by rfl) HO4.out HN4.out (fun h => by cases h) hq1.out HB4.out.size ?_; intro v5 w5 hO5 hg5; have HY : Hid (OwnP w2.heap.size w5 v5 (q ++ [(u, v)])) := Lib.hid hO5; have HZ : Hid (Below w2.heap.size w2 w5) := Lib.hid (below_app HB4.out HB4.out.size HO4.out hg5); clear hO5 hg5) | (refine step_catP _ (by rfl) _ _ (by rfl) w2.heap.size _ q [(u, v)] _ 1 1 (by rfl) (by rfl) (own_bel HO4.out ((Below.refl _ _).alloc (Nat.le_refl _) _)) (pts_one _ _ _ (by simp)) (fun h => by cases h) hq1.out (HB4.out.alloc HB4.out.size _).size ?_; intro v5 w5 hO5 hg5; have HY : Hid (OwnP w2.heap.size w5 v5 (q ++ [(u, v)])) := Lib.hid hO5; have HZ : Hid (Below w2.heap.size w2 w5) := Lib.hid (below_app (HB4.out.alloc HB4.out.size _) (HB4.out.alloc HB4.out.size _).size (own_bel HO4.out ((Below.refl _ _).alloc (Nat.le_refl _) _)) hg5); clear hO5 hg5) | fail "no arm")
        all_goals (go_wp2_with fail; go_meet; exact ⟨HY, HZ⟩)
      case rest =>
        obtain ⟨hO, hZ⟩ := hcut
        obtain ⟨a3, cc, rfl, j1, j2, j3⟩ := hO.out.at2 (n := m + 1) (by simp; exact HBn.out)
        obtain ⟨m1, hm1⟩ : ∃ m1, m1 = m + 1 := ⟨_, rfl⟩
        rw [← hm1] at j1 j3 ⊢
        have J1 := Lib.hid j1
        have J2 := Lib.hid j2
        have J3 := Lib.hid j3
        have HM1 := Lib.hid hm1
        clear hO j1 j2 j3 hm1
        obtain ⟨w3, hnm⟩ : ∃ x, x = wc := ⟨_, rfl⟩
        subst hnm
        obtain ⟨r1s, r1e, r1h⟩ : ∃ s e, interE q x = (s, e) := ⟨_, _, rfl⟩
        obtain ⟨r2s, r2e, r2h⟩ : ∃ s e, interE (q ++ [(u, v)]) x = (s, e) := ⟨_, _, rfl⟩
        obtain ⟨r3s, r3e, r3h⟩ : ∃ s e, interE q u = (s, e) := ⟨_, _, rfl⟩
        have c1 : Hid (∀ w, PtsAt w qa m q → Calls Try.prog 19 #[.slice qa m cq, .int .i64 x] w fun e w' => e = .returned (.tuple #[.int .i64 r1s, .int .i64 r1e]) ∧ Below w.heap.size w w') := Lib.hid (fun w h => by
          have := fInter_any qa m cq q x w h HBc.out HBm.out
          rw [r1h] at this
          exact this)
        have c3 : Hid (∀ w, PtsAt w qa m q → Calls Try.prog 19 #[.slice qa m cq, .int .i64 u] w fun e w' => e = .returned (.tuple #[.int .i64 r3s, .int .i64 r3e]) ∧ Below w.heap.size w w') := Lib.hid (fun w h => by
          have := fInter_any qa m cq q u w h HBc.out HBm.out
          rw [r3h] at this
          exact this)
        have c2 : Hid (∀ w, PtsAt w a3 m1 (q ++ [(u, v)]) → Calls Try.prog 19 #[.slice a3 m1 cc, .int .i64 x] w fun e w' => e = .returned (.tuple #[.int .i64 r2s, .int .i64 r2e]) ∧ Below w.heap.size w w') := Lib.hid (fun w h => by
          have := fInter_any a3 m1 cc _ x w h J1.out J2.out
          rw [r2h] at this
          exact this)
        have R1 := Lib.hid r1h
        have R2 := Lib.hid r2h
        have R3 := Lib.hid r3h
        clear r1h r2h r3h
        rcases inter_cases (q ++ [(u, v)]) x with ⟨e2, he2, hi2⟩ | ⟨hi2, hi3, hi4, hi5, hi6⟩
        · obtain ⟨rfl, rfl⟩ : r2s = 0 ∧ r2e = e2 := by rw [R2.out] at hi2; cases hi2; exact ⟨rfl, rfl⟩
          have f1 : (r2e == 0) = false := by simpa using he2
          have f2 : (r2e != 0) = true := by simpa using he2
          clear he2 hi2
          by_cases h1 : r1e = 0
          · have f3 : (r1e == 0) = true := by simpa using h1
            have f4 : (r1e != 0) = false := by simpa using h1
            clear h1
            go_wp2_with fail
            refine (c1.out _ (HP2.out.bel hZ.out)).mono ?_
            rintro e w4 ⟨rfl, hb⟩
            have Z4 := Lib.hid (hZ.out.trans (hb.mono hZ.out.size))
            have J4 := Lib.hid (J3.out.bel hb)
            clear hb hZ J3
            go_wp2_with fail
            refine (c2.out _ J4.out).mono ?_
            rintro e w5 ⟨rfl, hb⟩
            have Z5 := Lib.hid (Z4.out.trans (hb.mono Z4.out.size))
            clear hb Z4 J4
            have hx0 : w5.cell? ⟨w.heap.size, 0, none⟩ = some (.int .i64 u) := by
              rw [Lib.cell_of_heap ((Z5.out.block _ (blk_ltF HBX.out)).trans HBX.out)]; rfl
            go_wp2_with fail
            refine (c3.out _ (HP2.out.bel Z5.out)).mono ?_
            rintro e w6 ⟨rfl, hb⟩
            have Z6 := Lib.hid (Z5.out.trans (hb.mono Z5.out.size))
            clear hb Z5 hx0
            have hx1 : w6.cell? ⟨w.heap.size, 1, none⟩ = some (.int .i64 v) := by
              rw [Lib.cell_of_heap ((Z6.out.block _ (blk_ltF HBX.out)).trans HBX.out)]; rfl
            go_wp2_with fail
            go_ret
            exact ⟨rfl, D2.out.trans (Z6.out.mono D2.out.size)⟩
          · have f3 : (r1e == 0) = false := by simpa using h1
            have f4 : (r1e != 0) = true := by simpa using h1
            clear h1
            go_wp2_with fail
            refine (c1.out _ (HP2.out.bel hZ.out)).mono ?_
            rintro e w4 ⟨rfl, hb⟩
            have Z4 := Lib.hid (hZ.out.trans (hb.mono hZ.out.size))
            have J4 := Lib.hid (J3.out.bel hb)
            clear hb hZ J3
            go_wp2_with fail
            refine (c2.out _ J4.out).mono ?_
            rintro e w5 ⟨rfl, hb⟩
            have Z5 := Lib.hid (Z4.out.trans (hb.mono Z4.out.size))
            clear hb Z4 J4
            have hx0 : w5.cell? ⟨w.heap.size, 0, none⟩ = some (.int .i64 u) := by
              rw [Lib.cell_of_heap ((Z5.out.block _ (blk_ltF HBX.out)).trans HBX.out)]; rfl
            go_wp2_with fail
            refine (c3.out _ (HP2.out.bel Z5.out)).mono ?_
            rintro e w6 ⟨rfl, hb⟩
            have Z6 := Lib.hid (Z5.out.trans (hb.mono Z5.out.size))
            clear hb Z5 hx0
            have hx1 : w6.cell? ⟨w.heap.size, 1, none⟩ = some (.int .i64 v) := by
              rw [Lib.cell_of_heap ((Z6.out.block _ (blk_ltF HBX.out)).trans HBX.out)]; rfl
            go_wp2_with fail
            go_ret
            exact ⟨rfl, D2.out.trans (Z6.out.mono D2.out.size)⟩
        · obtain ⟨hB, rfl⟩ : r2s = interF (q ++ [(u, v)]) x ∧ r2e = 0 := by rw [R2.out] at hi2; cases hi2; exact ⟨rfl, rfl⟩
          have hp1 := hi4
          rw [pairs_snoc, Bool.and_eq_true, Bool.and_eq_true] at hp1
          obtain ⟨hp1, hp2, hp3⟩ := hp1
          have hlen : 1 ≤ q.length ∧ q.length ≤ 16 := by rw [← HBn.out]; omega
          have hdq := (diff_snoc hi6).1
          have e1 := interE_ok hlen hp1 hi5 hdq
          have e3 := interE_ok (x := u) hlen hp1 hp2 hdq
          obtain ⟨hA, rfl⟩ : r1s = interF q x ∧ r1e = 0 := by rw [R1.out] at e1; cases e1; exact ⟨rfl, rfl⟩
          obtain ⟨hC, rfl⟩ : r3s = interF q u ∧ r3e = 0 := by rw [R3.out] at e3; cases e3; exact ⟨rfl, rfl⟩
          have key := inter_further hi4 hi6 (okE_iff.1 hi5)
          rw [← hA, ← hB] at key
          have key2 : r1s = r2s ↔ ofX q x = true ∨ r3s = v := by rw [hC]; exact key
          have KEY := Lib.hid key2
          clear hB hp1 hp2 hp3 hlen hdq e1 e3 hA hC key key2 hi2 hi3 hi4 hi5 hi6
          go_wp2_with fail
          refine (c1.out _ (HP2.out.bel hZ.out)).mono ?_
          rintro e w4 ⟨rfl, hb⟩
          have Z4 := Lib.hid (hZ.out.trans (hb.mono hZ.out.size))
          have J4 := Lib.hid (J3.out.bel hb)
          clear hb hZ J3
          go_wp2_with fail
          refine (c2.out _ J4.out).mono ?_
          rintro e w5 ⟨rfl, hb⟩
          have Z5 := Lib.hid (Z4.out.trans (hb.mono Z4.out.size))
          clear hb Z4 J4
          have hx0 : w5.cell? ⟨w.heap.size, 0, none⟩ = some (.int .i64 u) := by
            rw [Lib.cell_of_heap ((Z5.out.block _ (blk_ltF HBX.out)).trans HBX.out)]; rfl
          go_wp2_with fail
          refine (c3.out _ (HP2.out.bel Z5.out)).mono ?_
          rintro e w6 ⟨rfl, hb⟩
          have Z6 := Lib.hid (Z5.out.trans (hb.mono Z5.out.size))
          clear hb Z5 hx0
          have hx1 : w6.cell? ⟨w.heap.size, 1, none⟩ = some (.int .i64 v) := by
            rw [Lib.cell_of_heap ((Z6.out.block _ (blk_ltF HBX.out)).trans HBX.out)]; rfl
          go_wp2_with fail
          go_loop [15, 16] (fun ff ii => ∃ k : Nat, k ≤ m ∧ ii = .int .i64 (k : Int) ∧ ff = .bool (ofX (q.take k) x)) (fun _ ii => m - (intOf ii).toNat)
          case atStart => exact ⟨0, by omega, rfl, rfl⟩
          case round =>
            obtain ⟨k, hk, rfl, rfl⟩ := hrel
            by_cases hlt : k < m
            · have hkl : k < q.length := by rw [← HBn.out]; exact hlt
              obtain ⟨b, off, rfl, -⟩ := HB.out.cells g1'
              have hc := ((HP2.out.bel Z6.out).cell hkl).1
              have HS : Hid (ofX (q.take (k + 1)) x = (ofX (q.take k) x || (q[k].1 == x))) := Lib.hid (by unfold ofX; rw [List.take_succ_eq_append_getElem hkl, List.any_append]; simp)
              obtain ⟨z, hz⟩ : ∃ z, z = q[k].1 := ⟨_, rfl⟩
              rw [← hz] at hc HS
              generalize ofX (q.take k) x = o1 at HS ⊢
              clear hz hx1
              cases o1
              ·
                rw [Bool.false_or] at HS
                by_cases hzx : z = x
                · have f1 : (z == x) = true := by simpa using hzx
                  rw [f1] at HS
                  clear hzx
                  go_wp2_with fail
                  go_round
                  case rel => exact ⟨k + 1, by omega, by go_num, by rw [HS.out]⟩
                  case measure => simp [intOf]; omega
                · have f1 : (z == x) = false := by simpa using hzx
                  rw [f1] at HS
                  clear hzx
                  go_wp2_with fail
                  go_round
                  case rel => exact ⟨k + 1, by omega, by go_num, by rw [HS.out]⟩
                  case measure => simp [intOf]; omega
              ·
                rw [Bool.true_or] at HS
                go_wp2_with fail
                go_round
                case rel => exact ⟨k + 1, by omega, by go_num, by rw [HS.out]⟩
                case measure => simp [intOf]; omega
            · obtain rfl : k = m := by omega
              have eT : ofX (q.take k) x = ofX q x := by rw [List.take_of_length_le (by have := HBn.out; omega)]
              rw [eT]
              clear eT
              cases hof : ofX q x with
              | true =>
                obtain rfl : r1s = r2s := KEY.out.2 (.inl hof)
                clear hof
                go_wp2_with fail
                go_ret
                exact ⟨rfl, D2.out.trans (Z6.out.mono D2.out.size)⟩
              | false =>
                by_cases hv : r3s = v
                · obtain rfl : r1s = r2s := KEY.out.2 (.inr hv)
                  have f1 : (r3s == v) = true := by simpa using hv
                  clear hof hv
                  go_wp2_with fail
                  go_ret
                  exact ⟨rfl, D2.out.trans (Z6.out.mono D2.out.size)⟩
                · have f1 : (r3s == v) = false := by simpa using hv
                  have f2 : (r1s == r2s) = false := by
                    rw [beq_eq_false_iff_ne]
                    intro e
                    rcases KEY.out.1 e with h | h
                    · rw [hof] at h; cases h
                    · exact hv h
                  clear hof hv
                  go_wp2_with fail
                  go_ret
                  exact ⟨rfl, D2.out.trans (Z6.out.mono D2.out.size)⟩
end Go.Proofs.Ytalhcfffnggpjaa
