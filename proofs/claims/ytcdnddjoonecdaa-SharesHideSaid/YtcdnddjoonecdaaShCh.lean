/-
  The helpers of the statements of layer 7: chosen.
-/
import Derived.Test.YtcdnddjoonecdaaShEl
set_option linter.unusedVariables false
set_option maxRecDepth 100000
namespace Go.Proofs.Ytcdnddjoonecdaa
open Go.RowKit
open Fdp
set_option maxHeartbeats 1000000 in
theorem chosen_any (a : Option Addr) (n cap : Nat) (l : List (Int × Int)) (bits : Int) (w : World) (h : PtsAt w a n l) (hn : n ≤ 1000) (h1 : 0 ≤ bits ∧ bits ≤ 255) :
    Calls Try.prog 12 #[.slice a n cap, .int .u8 bits] w fun e w' => ∃ v S, e = .returned v ∧ OwnSh w.heap.size w' v S ∧ S.Sublist l.reverse ∧ Below w.heap.size w w' := by
  have HH := Lib.hid h
  have HL := Lib.hid h.len
  clear h
  have D0 : Hid (Below w.heap.size w w) := Lib.hid (Below.refl _ _)
  have hO : Hid (OwnSh w.heap.size w (.slice none 0 0) []) := Lib.hid (World.ownsRow_nil _ _ _ _)
  have hS0 : Hid (([] : List (Int × Int)).Sublist ((l.drop n).reverse)) := Lib.hid (List.nil_sublist _)
  go_enter Try.func12, Try.ntmps12
  go_wp2_with fail
  go_loopw [5, 6] (fun v ii wr => ∃ (z : Int) (k : Nat) (S : List (Int × Int)), k ≤ n ∧ ii = .int .i64 z ∧ Hid (z = (k : Int) - 1) ∧ Hid (S.Sublist ((l.drop k).reverse)) ∧ Hid (OwnSh w.heap.size wr v S) ∧ Hid (Below w.heap.size w wr)) (fun _ ii _ => (intOf ii + 1).toNat)
  case atStart => exact ⟨_, n, [], by omega, rfl, Lib.hid rfl, hS0, hO, D0⟩
  case round =>
    clear hO D0 hS0
    obtain ⟨z, k, S, hk, rfl, hz, hS, hO, hD⟩ := hrel
    have hzz := hz.out
    by_cases hk0 : k = 0
    · subst hk0
      have hz0 : z < 0 := by omega
      clear hzz hk
      go_wp2_with fail
      go_ret
      exact ⟨_, S, rfl, hO.out, by have := hS.out; rwa [List.drop_zero] at this, hD.out⟩
    · obtain ⟨j, hj⟩ : ∃ j, j = k - 1 := ⟨_, rfl⟩
      obtain rfl : z = (j : Int) := by omega
      have hjn : j < n := by omega
      have hjl : j < l.length := by rw [← HL.out]; exact hjn
      have hjk : j ≤ n := by omega
      have hkj : Hid (k = j + 1) := Lib.hid (by omega)
      have b1 : (0 : Int) ≤ (j : Int) := by omega
      have b2 : (j : Int) < (n : Int) := by omega
      obtain ⟨r, hr⟩ : ∃ r : Nat, r = j % 8 := ⟨_, rfl⟩
      have f1 : (j : Int).tmod 8 = (r : Int) := by rw [Int.tmod_eq_emod_of_nonneg (by omega), hr]; exact (Int.natCast_emod j 8).symm
      have f2 : IntKind.i64.wrap (r : Int) = (r : Int) := IntWalk.i64_in _ (by omega)
      have f3 : (0 : Int) ≤ (r : Int) := by omega
      have f4 : r < 8 := by omega
      have hrev : Hid ((l.drop j).reverse = (l.drop k).reverse ++ [l[j]]) := Lib.hid (by
        rw [hkj.out, List.drop_eq_getElem_cons hjl, List.reverse_cons])
      clear hk0 hj hzz hz hk hr
      obtain ⟨b, off, rfl, -⟩ := HH.out.cells (by omega)
      obtain ⟨u, hu⟩ : ∃ u, u = l[j].1 := ⟨_, rfl⟩
      obtain ⟨v, hv⟩ : ∃ v, v = l[j].2 := ⟨_, rfl⟩
      obtain ⟨hc1, hc2⟩ := (HH.out.bel hD.out).cell hjl
      rw [← hu] at hc1
      rw [← hv] at hc2
      have HUV : Hid (l[j] = (u, v)) := Lib.hid (by rw [hu, hv])
      clear hu hv
      have hSl : Hid (S.length + 1 ≤ 1000000) := Lib.hid (by
        have h1 := hS.out.length_le
        have h2 := HL.out
        simp at h1
        omega)
      have hD3 := Lib.hid (hD.out.alloc hD.out.size (Obj.cells #[Value.int .i64 u, Value.int .i64 v] 38))
      have hO3 := Lib.hid (own_bel hO.out ((Below.refl _ wr).alloc (Nat.le_refl _) (Obj.cells #[Value.int .i64 u, Value.int .i64 v] 38)))
      have hS1 : Hid ((S ++ [(u, v)]).Sublist ((l.drop j).reverse)) := Lib.hid (by rw [hrev.out, HUV.out]; exact hS.out.append (List.Sublist.refl _))
      have hS2 : Hid (S.Sublist ((l.drop j).reverse)) := Lib.hid (by rw [hrev.out]; exact hS.out.trans (List.sublist_append_left _ _))
      go_wp2_with (at_builtin; refine wpList_catSh _ rfl _ _ rfl w.heap.size _ S [(u, v)] _ 1 1 rfl rfl hO3.out (sh_one _ _ _ (by simp)) (fun h => by cases h) hSl.out hD3.out.size ?_)
      · intro v6 w6 hO6 hg6
        have hO7 : Hid (OwnSh w.heap.size w6 v6 (S ++ [(u, v)])) := Lib.hid hO6
        have hD7 := Lib.hid (below_app hD3.out hD3.out.size hO3.out hg6)
        clear hO6 hg6 hO3 hD3 hO hD
        go_wp2_with fail
        go_roundw
        case rel => exact ⟨(j : Int) - 1, j, _, hjk, rfl, Lib.hid rfl, hS1, hO7, hD7⟩
        case measure => simp [intOf]
      · go_roundw
        case rel => exact ⟨(j : Int) - 1, j, S, hjk, rfl, Lib.hid rfl, hS2, hO, hD⟩
        case measure => simp [intOf]
end Go.Proofs.Ytcdnddjoonecdaa
