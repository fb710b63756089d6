/-
  The reference's sums and differences of layer 3, digit by digit.
-/
import Derived.Test.YtfkdhkbegfbkaaaDoorNatText
set_option linter.unusedVariables false
namespace Go.Proofs.YtfkdhkbegfbkaaaDoor
open Go.RowKit
theorem numCells_snoc (D : List Nat) (d : Nat) : numCells (D ++ [d]) = numCells D ++ [Value.int .u8 (d : Int)] := by simp [numCells]
theorem below_lit (w : World) (o : Obj) : Below w.heap.size w (w.alloc o) := (Below.refl _ _).alloc (Nat.le_refl _) _
/-- one digit more behind a row of the call's own -/
theorem wpList_snocN (w : World) {ops : Array Oper} {rest : List Oper} {o : Oper} {a : Act} {Q : Exit → Act → World → Prop} (hgd : o.guard = none) (s x : Operand)
    (ho : o.op = .call { callee := .builtin .append, args := #[s, x], argTypes := #[56, 56] })
    (B : Nat) (u : Value) (D : List Nat) (d : Nat) (hs : a.eval s = u) (hx : a.eval x = .slice (some ⟨w.heap.size, 0, none⟩) 1 1) (h1 : OwnN B w u D) (hn : D.length + 1 ≤ 1099511627776) (hB : B ≤ w.heap.size)
    (h : ∀ v' w', OwnN B w' v' (D ++ [d]) → (w.alloc (.cells #[.int .u8 (d : Int)] 5)).grownBy w' u.ownBlock → wpList Tryd.prog ops Q rest (a.put o.dst v') w') : wpList Tryd.prog ops Q (o :: rest) a (w.alloc (.cells #[.int .u8 (d : Int)] 5)) := by
  obtain ⟨i0, hi, hz0, hz1, hz2⟩ := info_parts infoByte
  refine wpList_append_own _ hgd s x 56 ho B 5 i0 (.int .u8 0) 1 1 Tryd.underlying56 hi hz0 hz1 hz2 rfl (by decide) u D.length (numCells D) hs (World.ownsRow.alloc h1 _) ⟨w.heap.size, 0, none⟩ 1 1 [.int .u8 (d : Int)] hx rfl ?_ ?_ (by unfold maxLen; omega) (by omega) (by simp; omega) ?_
  · intro j z hj
    match j, hj with
    | 0, hj => simp at hj; subst hj; simp [Addr.add]
  · intro z hz; simp at hz; subst hz; rfl
  · intro v' w' h2 h3 _
    refine h v' w' ?_ h3
    unfold OwnN
    rw [List.length_append, numCells_snoc]
    exact h2
theorem below_snoc {w wr w' : World} {u : Value} {D : List Nat} {o : Obj} (h : Below w.heap.size w wr) (hu : OwnN w.heap.size wr u D) (hg : (wr.alloc o).grownBy w' u.ownBlock) : Below w.heap.size w w' :=
  (h.alloc h.size o).grown hg (Nat.le_trans h.size (by simp)) (fun q hq => (World.ownsRow.lt (w := wr) (base := w.heap.size) hu q hq).1)
theorem place_lt (l : List UInt8) (p : Nat) : Dec.place l p < 10 := Nat.mod_lt _ (by omega)
theorem u8_in {d : Nat} (h : d < 10) : IntKind.u8.wrap (d : Int) = (d : Int) := by simp [IntKind.wrap, IntKind.bits, IntKind.signed]; omega
theorem val_bound {s : ByteArray} {k : Nat} (h : Dec.AllD (tl s)) (hk : s.size ≤ k) : Dec.val (tl s) < 10 ^ k := Nat.lt_of_lt_of_le (Dec.val_lt h) (Nat.pow_le_pow_right (by omega) (by rw [tl_length]; exact hk))
set_option maxHeartbeats 2000000 in
theorem refadd_any (s t : ByteArray) (N : Nat) (w : World) (hs : s.size ≤ N) (ht : t.size ≤ N) (hN : N = s.size ∨ N = t.size) (h0 : 0 < N) (hl : N ≤ 549755813888) (hds : Dec.AllD (tl s)) (hdt : Dec.AllD (tl t)) :
    Calls Tryd.prog 35 #[.string s, .string t] w fun e w' => e = .returned (.string (bx (Dec.digs (Dec.val (tl s) + Dec.val (tl t))))) ∧ Below w.heap.size w w' := by
  have HDS := Lib.hid hds
  have HDT := Lib.hid hdt
  clear hds hdt
  go_enter Tryd.func35, Tryd.ntmps35
  go_wp2_with fail
  go_loopw [5, 6, 7] (fun v cc ii wr => ∃ (k c : Nat) (D : List Nat), ii = .int .i64 (k : Int) ∧ cc = .int .i64 (c : Int) ∧ k ≤ N + 1 ∧ (k = N + 1 → c = 0) ∧ c ≤ 1 ∧ Hid (Dec.Adds (Dec.val (tl s)) (Dec.val (tl t)) k D c) ∧ OwnN w.heap.size wr v D ∧ Below w.heap.size w wr) (fun _ _ ii _ => N + 2 - (intOf ii).toNat)
  case atStart => exact ⟨0, 0, [], rfl, rfl, by omega, by omega, by omega, Lib.hid (Dec.Adds.zero _ _), OwnN.nil _ _, Below.refl _ _⟩
  case round =>
    obtain ⟨k, c, D, rfl, rfl, hk, hkc, hc1, hI, hown, hB⟩ := hrel

    by_cases c1 : k < s.size
    · skip
      have t1 : decide (k < s.size) = true := decide_eq_true c1
      have hkN : k ≤ N := by omega
      have hDl : D.length = k := hI.out.len
      obtain ⟨p, hp⟩ : ∃ p, p = Dec.place (tl s) k := ⟨_, rfl⟩
      obtain ⟨q, hq⟩ : ∃ q, q = Dec.place (tl t) k := ⟨_, rfl⟩
      have hp10 : p < 10 := by rw [hp]; exact place_lt _ _
      have hq10 : q < 10 := by rw [hq]; exact place_lt _ _
      obtain ⟨d, hd⟩ : ∃ d, d = (p + q + c) % 10 := ⟨_, rfl⟩
      obtain ⟨e', he⟩ : ∃ e', e' = (p + q + c) / 10 := ⟨_, rfl⟩
      have hd10 : d < 10 := by rw [hd]; exact Nat.mod_lt _ (by omega)
      have he1 : e' ≤ 1 := by omega
      have hA := Lib.hid (Dec.Adds.next hI.out)
      have hlast : k = N → e' = 0 := fun hkN => by
        have := Dec.Adds.last hI.out (val_bound HDS.out (by omega)) (val_bound HDT.out (by omega))
        rw [he, hp, hq]; exact this
      have hA' : Hid (Dec.Adds (Dec.val (tl s)) (Dec.val (tl t)) (k + 1) (D ++ [d]) e') := Lib.hid (by rw [hd, he, hp, hq]; exact hA.out)
      have w1 : IntKind.i64.wrap ((p : Int) + (q : Int)) = (p : Int) + (q : Int) := IntWalk.i64_in _ (by omega)
      have w2 : IntKind.i64.wrap ((p : Int) + (q : Int) + (c : Int)) = (p : Int) + (q : Int) + (c : Int) := IntWalk.i64_in _ (by omega)
      have r1 : ((p : Int) + (q : Int) + (c : Int)).tmod 10 = (d : Int) := by rw [Int.tmod_eq_emod_of_nonneg (by omega)]; omega
      have r2 : ((p : Int) + (q : Int) + (c : Int)).tdiv 10 = (e' : Int) := by rw [Int.tdiv_eq_ediv_of_nonneg (by omega)]; omega
      have w3 := u8_in hd10
      have w4 : IntKind.i64.wrap ((k : Int) + 1) = (k : Int) + 1 := IntWalk.i64_in _ (by omega)
      have w5 : IntKind.i64.wrap (d : Int) = (d : Int) := IntWalk.i64_in _ (by omega)
      have w6 : IntKind.i64.wrap (e' : Int) = (e' : Int) := IntWalk.i64_in _ (by omega)
      have HP := Lib.hid hp
      have HQ := Lib.hid hq
      have HDL : Hid (D.length + 1 ≤ 1099511627776) := Lib.hid (by omega)
      clear hp hq hd he hA hDl hI
      go_wp2_with fail
      refine (refat_any s k _ (by omega) HDS.out).mono ?_
      rintro e w1' ⟨rfl, rfl⟩
      rw [← HP.out]
      go_wp2_with fail
      refine (refat_any t k _ (by omega) HDT.out).mono ?_
      rintro e w1' ⟨rfl, rfl⟩
      rw [← HQ.out]
      go_wp2_with (at_builtin; refine wpList_snocN _ (by rfl) _ _ (by rfl) w.heap.size _ D d (by rfl) (by rfl) hown HDL.out hB.size ?_)
      intro v7 w7 hown7 hgrow7
      have hB7 := below_snoc hB hown hgrow7
      go_wp2_with fail
      go_roundw
      case rel => exact ⟨k + 1, e', D ++ [d], by go_num, by go_num, by omega, fun h => hlast (by omega), he1, hA', hown7, hB7⟩
      case measure => simp [intOf]; omega
    · by_cases c2 : k < t.size
      · skip
        have t1 : decide (k < s.size) = false := decide_eq_false c1
        have t2 : decide (k < t.size) = true := decide_eq_true c2
        have hkN : k ≤ N := by omega
        have hDl : D.length = k := hI.out.len
        obtain ⟨p, hp⟩ : ∃ p, p = Dec.place (tl s) k := ⟨_, rfl⟩
        obtain ⟨q, hq⟩ : ∃ q, q = Dec.place (tl t) k := ⟨_, rfl⟩
        have hp10 : p < 10 := by rw [hp]; exact place_lt _ _
        have hq10 : q < 10 := by rw [hq]; exact place_lt _ _
        obtain ⟨d, hd⟩ : ∃ d, d = (p + q + c) % 10 := ⟨_, rfl⟩
        obtain ⟨e', he⟩ : ∃ e', e' = (p + q + c) / 10 := ⟨_, rfl⟩
        have hd10 : d < 10 := by rw [hd]; exact Nat.mod_lt _ (by omega)
        have he1 : e' ≤ 1 := by omega
        have hA := Lib.hid (Dec.Adds.next hI.out)
        have hlast : k = N → e' = 0 := fun hkN => by
          have := Dec.Adds.last hI.out (val_bound HDS.out (by omega)) (val_bound HDT.out (by omega))
          rw [he, hp, hq]; exact this
        have hA' : Hid (Dec.Adds (Dec.val (tl s)) (Dec.val (tl t)) (k + 1) (D ++ [d]) e') := Lib.hid (by rw [hd, he, hp, hq]; exact hA.out)
        have w1 : IntKind.i64.wrap ((p : Int) + (q : Int)) = (p : Int) + (q : Int) := IntWalk.i64_in _ (by omega)
        have w2 : IntKind.i64.wrap ((p : Int) + (q : Int) + (c : Int)) = (p : Int) + (q : Int) + (c : Int) := IntWalk.i64_in _ (by omega)
        have r1 : ((p : Int) + (q : Int) + (c : Int)).tmod 10 = (d : Int) := by rw [Int.tmod_eq_emod_of_nonneg (by omega)]; omega
        have r2 : ((p : Int) + (q : Int) + (c : Int)).tdiv 10 = (e' : Int) := by rw [Int.tdiv_eq_ediv_of_nonneg (by omega)]; omega
        have w3 := u8_in hd10
        have w4 : IntKind.i64.wrap ((k : Int) + 1) = (k : Int) + 1 := IntWalk.i64_in _ (by omega)
        have w5 : IntKind.i64.wrap (d : Int) = (d : Int) := IntWalk.i64_in _ (by omega)
        have w6 : IntKind.i64.wrap (e' : Int) = (e' : Int) := IntWalk.i64_in _ (by omega)
        have HP := Lib.hid hp
        have HQ := Lib.hid hq
        have HDL : Hid (D.length + 1 ≤ 1099511627776) := Lib.hid (by omega)
        clear hp hq hd he hA hDl hI
        go_wp2_with fail
        refine (refat_any s k _ (by omega) HDS.out).mono ?_
        rintro e w1' ⟨rfl, rfl⟩
        rw [← HP.out]
        go_wp2_with fail
        refine (refat_any t k _ (by omega) HDT.out).mono ?_
        rintro e w1' ⟨rfl, rfl⟩
        rw [← HQ.out]
        go_wp2_with (at_builtin; refine wpList_snocN _ (by rfl) _ _ (by rfl) w.heap.size _ D d (by rfl) (by rfl) hown HDL.out hB.size ?_)
        intro v7 w7 hown7 hgrow7
        have hB7 := below_snoc hB hown hgrow7
        go_wp2_with fail
        go_roundw
        case rel => exact ⟨k + 1, e', D ++ [d], by go_num, by go_num, by omega, fun h => hlast (by omega), he1, hA', hown7, hB7⟩
        case measure => simp [intOf]; omega
      · by_cases c3 : 0 < c
        · skip
          have t1 : decide (k < s.size) = false := decide_eq_false c1
          have t2 : decide (k < t.size) = false := decide_eq_false c2
          have t3 : decide (0 < c) = true := decide_eq_true c3
          have hkN : k ≤ N := by omega
          have hDl : D.length = k := hI.out.len
          obtain ⟨p, hp⟩ : ∃ p, p = Dec.place (tl s) k := ⟨_, rfl⟩
          obtain ⟨q, hq⟩ : ∃ q, q = Dec.place (tl t) k := ⟨_, rfl⟩
          have hp10 : p < 10 := by rw [hp]; exact place_lt _ _
          have hq10 : q < 10 := by rw [hq]; exact place_lt _ _
          obtain ⟨d, hd⟩ : ∃ d, d = (p + q + c) % 10 := ⟨_, rfl⟩
          obtain ⟨e', he⟩ : ∃ e', e' = (p + q + c) / 10 := ⟨_, rfl⟩
          have hd10 : d < 10 := by rw [hd]; exact Nat.mod_lt _ (by omega)
          have he1 : e' ≤ 1 := by omega
          have hA := Lib.hid (Dec.Adds.next hI.out)
          have hlast : k = N → e' = 0 := fun hkN => by
            have := Dec.Adds.last hI.out (val_bound HDS.out (by omega)) (val_bound HDT.out (by omega))
            rw [he, hp, hq]; exact this
          have hA' : Hid (Dec.Adds (Dec.val (tl s)) (Dec.val (tl t)) (k + 1) (D ++ [d]) e') := Lib.hid (by rw [hd, he, hp, hq]; exact hA.out)
          have w1 : IntKind.i64.wrap ((p : Int) + (q : Int)) = (p : Int) + (q : Int) := IntWalk.i64_in _ (by omega)
          have w2 : IntKind.i64.wrap ((p : Int) + (q : Int) + (c : Int)) = (p : Int) + (q : Int) + (c : Int) := IntWalk.i64_in _ (by omega)
          have r1 : ((p : Int) + (q : Int) + (c : Int)).tmod 10 = (d : Int) := by rw [Int.tmod_eq_emod_of_nonneg (by omega)]; omega
          have r2 : ((p : Int) + (q : Int) + (c : Int)).tdiv 10 = (e' : Int) := by rw [Int.tdiv_eq_ediv_of_nonneg (by omega)]; omega
          have w3 := u8_in hd10
          have w4 : IntKind.i64.wrap ((k : Int) + 1) = (k : Int) + 1 := IntWalk.i64_in _ (by omega)
          have w5 : IntKind.i64.wrap (d : Int) = (d : Int) := IntWalk.i64_in _ (by omega)
          have w6 : IntKind.i64.wrap (e' : Int) = (e' : Int) := IntWalk.i64_in _ (by omega)
          have HP := Lib.hid hp
          have HQ := Lib.hid hq
          have HDL : Hid (D.length + 1 ≤ 1099511627776) := Lib.hid (by omega)
          clear hp hq hd he hA hDl hI
          go_wp2_with fail
          refine (refat_any s k _ (by omega) HDS.out).mono ?_
          rintro e w1' ⟨rfl, rfl⟩
          rw [← HP.out]
          go_wp2_with fail
          refine (refat_any t k _ (by omega) HDT.out).mono ?_
          rintro e w1' ⟨rfl, rfl⟩
          rw [← HQ.out]
          go_wp2_with (at_builtin; refine wpList_snocN _ (by rfl) _ _ (by rfl) w.heap.size _ D d (by rfl) (by rfl) hown HDL.out hB.size ?_)
          intro v7 w7 hown7 hgrow7
          have hB7 := below_snoc hB hown hgrow7
          go_wp2_with fail
          go_roundw
          case rel => exact ⟨k + 1, e', D ++ [d], by go_num, by go_num, by omega, fun h => hlast (by omega), he1, hA', hown7, hB7⟩
          case measure => simp [intOf]; omega
        · have t1 : decide (k < s.size) = false := decide_eq_false c1
          have t2 : decide (k < t.size) = false := decide_eq_false c2
          have t3 : decide (0 < c) = false := decide_eq_false c3
          obtain rfl : c = 0 := by omega
          have hDl : D.length = k := hI.out.len
          have hval : Dec.valR D = Dec.val (tl s) + Dec.val (tl t) := Dec.Adds.done hI.out (val_bound HDS.out (by omega)) (val_bound HDT.out (by omega))
          have HV := Lib.hid hval
          have HSM := Lib.hid hI.out.small
          have HD0 : Hid (0 < D.length) := Lib.hid (by omega)
          have HDL : Hid (D.length ≤ 1099511627776) := Lib.hid (by omega)
          clear hval hDl hI
          go_wp2_with fail
          refine (reftext_any _ _ D _ hown HD0.out HDL.out HSM.out).mono ?_
          rintro e w2 ⟨rfl, hb2⟩
          rw [HV.out]
          go_wp2_with fail
          go_ret
          exact ⟨rfl, hB.trans (hb2.mono hB.size)⟩
end Go.Proofs.YtfkdhkbegfbkaaaDoor
