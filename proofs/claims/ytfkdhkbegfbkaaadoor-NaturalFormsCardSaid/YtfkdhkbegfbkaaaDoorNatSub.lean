/-
  The reference's differences of layer 3.
-/
import Derived.Test.YtfkdhkbegfbkaaaDoorNatAdd
set_option linter.unusedVariables false
namespace Go.Proofs.YtfkdhkbegfbkaaaDoor
open Go.RowKit
set_option maxHeartbeats 2000000 in
theorem refsub_any (s t : ByteArray) (w : World) (h0 : 0 < s.size) (hl : s.size ≤ 549755813888) (hlt : t.size ≤ 549755813888) (hds : Dec.AllD (tl s)) (hdt : Dec.AllD (tl t)) (hle : Dec.val (tl t) ≤ Dec.val (tl s)) :
    Calls Tryd.prog 38 #[.string s, .string t] w fun e w' => e = .returned (.string (bx (Dec.digs (Dec.val (tl s) - Dec.val (tl t))))) ∧ Below w.heap.size w w' := by
  have HDS := Lib.hid hds
  have HDT := Lib.hid hdt
  have HLE := Lib.hid hle
  clear hds hdt hle
  go_enter Tryd.func38, Tryd.ntmps38
  go_wp2_with fail
  go_loopw [5, 6, 7] (fun v cc ii wr => ∃ (k c : Nat) (D : List Nat), ii = .int .i64 (k : Int) ∧ cc = .int .i64 (c : Int) ∧ k ≤ s.size ∧ c ≤ 1 ∧ Hid (Dec.Subs (Dec.val (tl s)) (Dec.val (tl t)) k D c) ∧ OwnN w.heap.size wr v D ∧ Below w.heap.size w wr) (fun _ _ ii _ => s.size - (intOf ii).toNat)
  case atStart => exact ⟨0, 0, [], rfl, rfl, by omega, by omega, Lib.hid (Dec.Subs.zero _ _), OwnN.nil _ _, Below.refl _ _⟩
  case round =>
    obtain ⟨k, c, D, rfl, rfl, hk, hc1, hI, hown, hB⟩ := hrel
    by_cases c1 : k < s.size
    · have hDl : D.length = k := hI.out.len
      obtain ⟨p, hp⟩ : ∃ p, p = Dec.place (tl s) k := ⟨_, rfl⟩
      obtain ⟨q, hq⟩ : ∃ q, q = Dec.place (tl t) k := ⟨_, rfl⟩
      have hp10 : p < 10 := by rw [hp]; exact place_lt _ _
      have hq10 : q < 10 := by rw [hq]; exact place_lt _ _
      obtain ⟨n, hn⟩ : ∃ n, n = p + 10 - q - c := ⟨_, rfl⟩
      obtain ⟨d, hd⟩ : ∃ d, d = n % 10 := ⟨_, rfl⟩
      obtain ⟨x, hx⟩ : ∃ x, x = n / 10 := ⟨_, rfl⟩
      obtain ⟨e', he⟩ : ∃ e', e' = 1 - x := ⟨_, rfl⟩
      have hd10 : d < 10 := by rw [hd]; exact Nat.mod_lt _ (by omega)
      have hx1 : x ≤ 1 := by omega
      have he1 : e' ≤ 1 := by omega
      have hA := Lib.hid (Dec.Subs.next hI.out)
      have hA' : Hid (Dec.Subs (Dec.val (tl s)) (Dec.val (tl t)) (k + 1) (D ++ [d]) e') := Lib.hid (by rw [he, hx, hd, hn, hp, hq]; exact hA.out)
      have w1 : IntKind.i64.wrap ((p : Int) - (q : Int)) = (p : Int) - (q : Int) := IntWalk.i64_in _ (by omega)
      have w2 : IntKind.i64.wrap ((p : Int) - (q : Int) - (c : Int)) = (p : Int) - (q : Int) - (c : Int) := IntWalk.i64_in _ (by omega)
      have w7 : IntKind.i64.wrap ((p : Int) - (q : Int) - (c : Int) + 10) = (n : Int) := by rw [IntWalk.i64_in _ (by omega)]; omega
      have w8 : (p : Int) - (q : Int) - (c : Int) + 10 = (n : Int) := by omega
      have r1 : ((n : Int)).tmod 10 = (d : Int) := by rw [Int.tmod_eq_emod_of_nonneg (by omega)]; omega
      have r2 : ((n : Int)).tdiv 10 = (x : Int) := by rw [Int.tdiv_eq_ediv_of_nonneg (by omega)]; omega
      have w3 := u8_in hd10
      have w4 : IntKind.i64.wrap ((k : Int) + 1) = (k : Int) + 1 := IntWalk.i64_in _ (by omega)
      have w5 : IntKind.i64.wrap (d : Int) = (d : Int) := IntWalk.i64_in _ (by omega)
      have w6 : IntKind.i64.wrap (x : Int) = (x : Int) := IntWalk.i64_in _ (by omega)
      have w9 : IntKind.i64.wrap (1 - (x : Int)) = (e' : Int) := by rw [IntWalk.i64_in _ (by omega)]; omega
      have w10 : 1 - (x : Int) = (e' : Int) := by omega
      have w11 : IntKind.i64.wrap (e' : Int) = (e' : Int) := IntWalk.i64_in _ (by omega)
      have w12 : IntKind.i64.wrap (n : Int) = (n : Int) := IntWalk.i64_in _ (by omega)
      have HP := Lib.hid hp
      have HQ := Lib.hid hq
      have HDL : Hid (D.length + 1 ≤ 1099511627776) := Lib.hid (by omega)
      clear hp hq hd he hA hDl hI hx hn
      go_wp2_with fail
      refine (refat_any s k _ (by omega) HDS.out).mono ?_
      rintro e w1' ⟨rfl, rfl⟩
      rw [← HP.out]
      go_wp2_with fail
      refine (refat_any t k _ (by omega) HDT.out).mono ?_
      rintro e w1' ⟨rfl, rfl⟩
      rw [← HQ.out]
      go_wp2_with (at_builtin; refine wpList_snocN _ (by rfl) _ _ (by rfl) w.heap.size _ D d (by rfl) (by rfl) hown HDL.out hB.size ?_)
      intro v7 w7' hown7 hgrow7
      have hB7 := below_snoc hB hown hgrow7
      go_wp2_with fail
      go_roundw
      case rel => exact ⟨k + 1, e', D ++ [d], by go_num, by go_num, by omega, he1, hA', hown7, hB7⟩
      case measure => simp [intOf]; omega
    · obtain rfl : k = s.size := by omega
      have hDl : D.length = s.size := hI.out.len
      have hval : Dec.valR D = Dec.val (tl s) - Dec.val (tl t) := Dec.Subs.done hI.out (val_bound HDS.out (Nat.le_refl _)) HLE.out
      have HV := Lib.hid hval
      have HSM := Lib.hid hI.out.small
      have HD0 : Hid (0 < D.length) := Lib.hid (by omega)
      have HDL : Hid (D.length ≤ 1099511627776) := Lib.hid (by omega)
      clear hval hDl hI
      go_wp2_with fail
      refine (reftext_any _ _ D _ hown HD0.out HDL.out HSM.out).mono ?_
      rintro e w2 ⟨rfl, hb2⟩
      rw [HV.out]
      go_wp2_with fail
      go_ret
      exact ⟨rfl, hB.trans (hb2.mono hB.size)⟩
end Go.Proofs.YtfkdhkbegfbkaaaDoor
