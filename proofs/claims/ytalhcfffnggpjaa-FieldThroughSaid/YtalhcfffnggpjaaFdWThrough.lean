/-
  Through the points, in both orders (FieldThrough, P6.6).
-/
import Derived.Test.YtalhcfffnggpjaaFdHead
set_option linter.unusedVariables false
set_option maxRecDepth 100000
namespace Go.Proofs.Ytalhcfffnggpjaa
open Go.RowKit
open Fdp
theorem rev_step {l : List (Int × Int)} {k : Nat} (hk : k < l.length) : (l.drop k).reverse = (l.drop (k + 1)).reverse ++ [l[k]] := by
  rw [List.drop_eq_getElem_cons hk, List.reverse_cons]
set_option maxHeartbeats 4000000 in
theorem walkFieldThrough (vq : Value) (q : List (Int × Int)) (x raw : Int) (w : World) (hq : PtsOk w vq q) (hx64 : -9223372036854775808 ≤ x ∧ x ≤ 9223372036854775807) (hr : 0 ≤ raw ∧ raw ≤ 255) :
    Calls Try.prog 8 #[vq, .int .i64 x, .int .u8 raw] w fun e w' => e = .returned (.bool true) ∧ Below w.heap.size w w' := by
  clear hx64
  obtain ⟨qa, cq, rfl, hqa1, hqa2, hqa3, hqa4⟩ := hq.form
  obtain ⟨m, hnqa⟩ : ∃ n, n = q.length := ⟨_, rfl⟩
  rw [← hnqa] at hqa1 hqa4 ⊢
  have HB := Lib.hid hqa4
  have HBc := Lib.hid hqa1
  have HBm := Lib.hid hqa2
  have HB0 := Lib.hid hqa3
  have HBn := Lib.hid hnqa
  have hqa5 : m ≤ 9223372036854775807 := by unfold maxLen at hqa2; omega
  clear hqa1 hqa2 hqa3 hqa4 hnqa
  clear hq
  by_cases g1 : m < 1
  · have g1b : m ≤ 16 := by omega
    have D0 := Lib.hid (Below.refl w.heap.size w)
    go_enter Try.func8, Try.ntmps8
    go_wp2_with fail
    refine (head_any _).mono ?_
    rintro e w1 ⟨rfl, hb⟩
    have D1 := Lib.hid (D0.out.trans (hb.mono D0.out.size))
    clear hb D0
    go_wp2_with fail
    go_ret
    exact ⟨rfl, D1.out⟩
  · have g1' : 1 ≤ m := by omega
    by_cases g2 : 16 < m
    · skip
      have D0 := Lib.hid (Below.refl w.heap.size w)
      go_enter Try.func8, Try.ntmps8
      go_wp2_with fail
      refine (head_any _).mono ?_
      rintro e w1 ⟨rfl, hb⟩
      have D1 := Lib.hid (D0.out.trans (hb.mono D0.out.size))
      clear hb D0
      go_wp2_with fail
      go_ret
      exact ⟨rfl, D1.out⟩
    · have g2' : m ≤ 16 := by omega
      obtain ⟨A, er, hie⟩ : ∃ s e, interE q x = (s, e) := ⟨_, _, rfl⟩
      have HIE := Lib.hid hie
      have cI : Hid (∀ w, PtsAt w qa m q → Calls Try.prog 19 #[.slice qa m cq, .int .i64 x] w fun e w' => e = .returned (.tuple #[.int .i64 A, .int .i64 er]) ∧ Below w.heap.size w w') := Lib.hid (fun w h => by
        have := fInter_any qa m cq q x w h HBc.out HBm.out
        rw [hie] at this
        exact this)
      have cR : Hid (∀ w a c, PtsAt w a m q.reverse → m ≤ c → c ≤ maxLen → Calls Try.prog 19 #[.slice a m c, .int .i64 x] w fun e w' => e = .returned (.tuple #[.int .i64 A, .int .i64 er]) ∧ Below w.heap.size w w') := Lib.hid (fun w a c h h1 h2 => by
        have := fInter_any a m c _ x w h h1 h2
        rw [inter_rev, hie] at this
        exact this)
      have hmm : Hid (m = q.reverse.length) := Lib.hid (by rw [List.length_reverse]; exact HBn.out)
      clear hie
      have D0 := Lib.hid (Below.refl w.heap.size w)
      go_enter Try.func8, Try.ntmps8
      go_wp2_with fail
      refine (head_any _).mono ?_
      rintro e w1 ⟨rfl, hb⟩
      have D1 := Lib.hid (D0.out.trans (hb.mono D0.out.size))
      clear hb D0
      go_wp2_with fail
      refine (cI.out _ (HB.out.bel D1.out)).mono ?_
      rintro e w2 ⟨rfl, hb⟩
      have D2 := Lib.hid (D1.out.trans (hb.mono D1.out.size))
      clear hb D1
      go_wp2_with fail
      have hO0 : Hid (OwnP w.heap.size w2 (.slice none 0 0) ((q.drop m).reverse)) := Lib.hid (by rw [HBn.out, List.drop_length]; exact World.ownsRow_nil _ _ _ _)
      go_loopw [10, 11] (fun v ii wr => ∃ (z : Int) (k : Nat), k ≤ m ∧ ii = .int .i64 z ∧ Hid (z = (k : Int) - 1) ∧ Hid (OwnP w.heap.size wr v ((q.drop k).reverse)) ∧ Hid (Below w.heap.size w wr)) (fun _ ii _ => (intOf ii + 1).toNat)
      case atStart => exact ⟨_, m, by omega, rfl, Lib.hid rfl, hO0, D2⟩
      case round =>
        clear hO0 D2
        obtain ⟨z, k, hk, rfl, hz, hO, hD⟩ := hrel
        have hzz := hz.out
        by_cases hk0 : k = 0
        · subst hk0
          have hz0 : z < 0 := by omega
          clear hzz hk
          have hO1 : OwnP w.heap.size wr u10 q.reverse := by have := hO.out; rwa [List.drop_zero] at this
          obtain ⟨a2, c2, rfl, j1, j2, j3⟩ := hO1.at2 hmm.out
          have J1 := Lib.hid j1
          have J2 := Lib.hid j2
          have J3 := Lib.hid j3
          clear hO hO1 j1 j2 j3
          have D10 := hD
          clear hD
          rcases inter_cases q x with ⟨e2, he2, hi2⟩ | ⟨hi2, hi3, hi4, hi5, hi6⟩
          · obtain ⟨rfl, rfl⟩ : A = 0 ∧ er = e2 := by rw [HIE.out] at hi2; cases hi2; exact ⟨rfl, rfl⟩
            have f1 : (er == 0) = false := by simpa using he2
            clear he2 hi2
            go_wp2_with fail
            refine (cR.out _ _ _ J3.out J1.out J2.out).mono ?_
            rintro e w11 ⟨rfl, hb⟩
            have D11 := Lib.hid (D10.out.trans (hb.mono D10.out.size))
            clear hb D10
            go_wp2_with fail
            go_ret
            exact ⟨rfl, D11.out⟩
          · obtain ⟨hA, rfl⟩ : A = interF q x ∧ er = 0 := by rw [HIE.out] at hi2; cases hi2; exact ⟨rfl, rfl⟩
            clear hi2 hA
            obtain ⟨j, hj⟩ : ∃ j : Nat, j = raw.toNat % m := ⟨_, rfl⟩
            have hjm : j < m := by rw [hj]; exact Nat.mod_lt _ g1'
            have f1 : raw.tmod (m : Int) = (j : Int) := by
              obtain ⟨r, hr2⟩ : ∃ r : Nat, raw = r := ⟨raw.toNat, by omega⟩
              rw [Int.tmod_eq_emod_of_nonneg hr.1, hj, hr2, Int.toNat_natCast]
              exact (Int.natCast_emod r m).symm
            have f2 : IntKind.i64.wrap raw = raw := IntWalk.i64_in _ (by omega)
            have f3 : IntKind.i64.wrap (j : Int) = (j : Int) := IntWalk.i64_in _ (by omega)
            have f4 : (0 : Int) ≤ (j : Int) := by omega
            have f5 : (j : Int) < (m : Int) := by omega
            have f6 : ((m : Int) == 0) = false := beq_eq_false_iff_ne.2 (by omega)
            have hjl : j < q.length := by rw [← HBn.out]; exact hjm
            obtain ⟨u, hu⟩ : ∃ u, u = q[j].1 := ⟨_, rfl⟩
            obtain ⟨v, hv⟩ : ∃ v, v = q[j].2 := ⟨_, rfl⟩
            have hmem : (u, v) ∈ q := by rw [hu, hv]; exact List.getElem_mem hjl
            have huE : okE u = true := okE_iff.2 (pairsE_iff.1 hi4 _ hmem).1
            have cP : Hid (∀ w, PtsAt w qa m q → Calls Try.prog 19 #[.slice qa m cq, .int .i64 u] w fun e w' => e = .returned (.tuple #[.int .i64 v, .int .i64 0]) ∧ Below w.heap.size w w') := Lib.hid (fun w h => by
              have := fInter_any qa m cq q u w h HBc.out HBm.out
              rw [interE_ok hi3 hi4 huE hi6, inter_through hi4 hi6 hmem] at this
              exact this)
            have HJ := Lib.hid hj
            have HU := Lib.hid hu
            have HV := Lib.hid hv
            obtain ⟨b, off, rfl, -⟩ := HB.out.cells g1'
            clear hj hu hv hmem huE hi3 hi4 hi5 hi6
            go_wp2_with fail
            refine (cR.out _ _ _ J3.out J1.out J2.out).mono ?_
            rintro e w11 ⟨rfl, hb⟩
            have D11 := Lib.hid (D10.out.trans (hb.mono D10.out.size))
            obtain ⟨hc1, hc2⟩ := (HB.out.bel D11.out).cell hjl
            rw [← HU.out] at hc1
            rw [← HV.out] at hc2
            clear hb D10 J3
            go_wp2_with fail
            have D12 := Lib.hid (D11.out.alloc D11.out.size (Obj.cells #[Value.int .i64 u, Value.int .i64 v] 41))
            clear D11
            have hlast := heap_lastF w11 (Obj.cells #[Value.int .i64 u, Value.int .i64 v] 41)
            have hcv : (w11.alloc (Obj.cells #[Value.int .i64 u, Value.int .i64 v] 41)).cell? ⟨w11.heap.size, 1, none⟩ = some (.int .i64 v) := by rw [Lib.cell_of_heap hlast]; rfl
            have HCV := Lib.hid hcv
            have Z := Lib.hid (cell_ltF hcv)
            clear hlast hcv hc1 hc2
            refine (cP.out _ (HB.out.bel D12.out)).mono ?_
            rintro e w13 ⟨rfl, hb⟩
            have D13 := Lib.hid (D12.out.trans (hb.mono D12.out.size))
            have hcw : w13.cell? ⟨w11.heap.size, 1, none⟩ = some (.int .i64 v) := (hb.cell (p := ⟨w11.heap.size, 1, none⟩) Z.out).trans HCV.out
            clear hb D12
            go_wp2_with fail
            go_ret
            exact ⟨rfl, D13.out⟩
        · obtain ⟨j, hj⟩ : ∃ j, j = k - 1 := ⟨_, rfl⟩
          obtain rfl : z = (j : Int) := by omega
          have hjm : j < m := by omega
          have hjl : j < q.length := by rw [← HBn.out]; exact hjm
          have hjk : j ≤ m := by omega
          have hkj : Hid (k = j + 1) := Lib.hid (by omega)
          have b1 : (0 : Int) ≤ (j : Int) := by omega
          have b2 : (j : Int) < (m : Int) := by omega
          have hOl : Hid ((q.drop k).reverse.length + 1 ≤ 1000000) := Lib.hid (by simp; have := HBn.out; omega)
          clear hk0 hj hzz hz hk
          obtain ⟨b, off, rfl, -⟩ := HB.out.cells g1'
          obtain ⟨u, hu⟩ : ∃ u, u = q[j].1 := ⟨_, rfl⟩
          obtain ⟨v, hv⟩ : ∃ v, v = q[j].2 := ⟨_, rfl⟩
          obtain ⟨hc1, hc2⟩ := (HB.out.bel hD.out).cell hjl
          rw [← hu] at hc1
          rw [← hv] at hc2
          have HUV : Hid (q[j] = (u, v)) := Lib.hid (by rw [hu, hv])
          clear hu hv
          have hD3 := Lib.hid (hD.out.alloc hD.out.size (Obj.cells #[Value.int .i64 u, Value.int .i64 v] 41))
          have hO3 := Lib.hid (own_bel hO.out ((Below.refl _ wr).alloc (Nat.le_refl _) (Obj.cells #[Value.int .i64 u, Value.int .i64 v] 41)))
          clear hD hO
          go_wp2_with (at_builtin; refine wpList_catP _ rfl _ _ rfl w.heap.size _ _ [(u, v)] _ 1 1 rfl rfl hO3.out (pts_one _ _ _ (by simp)) (fun h => by cases h) hOl.out hD3.out.size ?_)
          intro v' w4 hO4 hg4
          have hD4 := Lib.hid (below_app hD3.out hD3.out.size hO3.out hg4)
          have hO5 : Hid (OwnP w.heap.size w4 v' ((q.drop j).reverse)) := Lib.hid (by rw [rev_step hjl, ← hkj.out, HUV.out]; exact hO4)
          clear hO4 hg4 hO3 hc1 hc2
          go_wp2_with fail
          go_roundw
          case rel => exact ⟨(j : Int) - 1, j, hjk, rfl, Lib.hid rfl, hO5, hD4⟩
          case measure => simp [intOf]
end Go.Proofs.Ytalhcfffnggpjaa
