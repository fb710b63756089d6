/-
  The program's limbs of a text of digits: limbsOf.
-/
import Derived.Test.YtbcoblpnihdhgaaDoorLmDigits
import Derived.Lib.ConvBytes
import Derived.Lib.AtoiErrMem
set_option linter.unusedVariables false
set_option maxRecDepth 100000
namespace Go.Proofs.YtbcoblpnihdhgaaDoor
open Go.RowKit
/-- a growing row of ints of the call's own -/
def OwnI (B : Nat) (w : World) (v : Value) (D : List Nat) : Prop := w.ownsRow B 3 1 v D.length (cellsI D)
theorem OwnI.below {B : Nat} {w w' : World} {v : Value} {D : List Nat} (h : OwnI B w v D) (hb : Below w.heap.size w w') : OwnI B w' v D := by
  by_cases e : v.ownBlock = none
  · exact World.ownsRow.kept (row := none) h ⟨hb.os, hb.tape, hb.output, hb.size, fun k hk _ => hb.block k hk⟩ (.inl e)
  · exact World.ownsRow.kept (row := none) h ⟨hb.os, hb.tape, hb.output, hb.size, fun k hk _ => hb.block k hk⟩ (.inr e)
theorem cellsI_snoc (D : List Nat) (d : Nat) : cellsI (D ++ [d]) = cellsI D ++ [Value.int .i64 (d : Int)] := by simp [cellsI]
theorem OwnI.ints {B : Nat} {w : World} {v : Value} {D : List Nat} (h : OwnI B w v D) : IntsIn (fun b => B ≤ b) w v D := by
  have hl := h
  rcases h.2 with ⟨rfl, h1⟩ | ⟨g, cap, cur, rfl, h2, hg, h3, h4, h5, h6⟩
  · rw [List.length_eq_zero_iff.1 h1]; exact IntsIn.nil _ _ _ _ (by omega)
  · refine ⟨some ⟨g, 0, none⟩, cap, rfl, h3, h4, fun h0 => ⟨g, 0, rfl, h2, fun j hj => ?_⟩⟩
    rw [Nat.zero_add, World.ownsRow.cellAt hl j (by omega)]
    simp [cellsI, List.getD, hj]
theorem wpList_snocI (w : World) {ops : Array Oper} {rest : List Oper} {o : Oper} {a : Act} {Q : Exit → Act → World → Prop} (hgd : o.guard = none) (s x : Operand)
    (ho : o.op = .call { callee := .builtin .append, args := #[s, x], argTypes := #[80, 80] })
    (B : Nat) (u : Value) (D : List Nat) (d : Nat) (hs : a.eval s = u) (hx : a.eval x = .slice (some ⟨w.heap.size, 0, none⟩) 1 1) (h1 : OwnI B w u D) (hn : D.length + 1 ≤ 1099511627) (hB : B ≤ w.heap.size)
    (h : ∀ v' w', OwnI B w' v' (D ++ [d]) → (w.alloc (.cells #[.int .i64 (d : Int)] 3)).grownBy w' u.ownBlock → wpList Tryd.prog ops Q rest (a.put o.dst v') w') : wpList Tryd.prog ops Q (o :: rest) a (w.alloc (.cells #[.int .i64 (d : Int)] 3)) := by
  obtain ⟨i0, hi, hz0, hz1, hz2⟩ := info_parts infoI
  refine wpList_append_own _ hgd s x 80 ho B 3 i0 (.int .i64 0) 1 8 Tryd.underlying80 hi hz0 hz1 hz2 rfl (by decide) u D.length (cellsI D) hs (World.ownsRow.alloc h1 _) ⟨w.heap.size, 0, none⟩ 1 1 [.int .i64 (d : Int)] hx rfl ?_ ?_ (by unfold maxLen; omega) (by omega) (by simp; omega) ?_
  · intro j z hj
    match j, hj with
    | 0, hj => simp at hj; subst hj; simp [Addr.add]
  · intro z hz; simp at hz; subst hz; rfl
  · intro v' w' h2 h3 _
    refine h v' w' ?_ h3
    unfold OwnI
    rw [List.length_append, cellsI_snoc]
    exact h2
theorem below_snocI {w wr w' : World} {u : Value} {D : List Nat} {o : Obj} (h : Below w.heap.size w wr) (hu : OwnI w.heap.size wr u D) (hg : (wr.alloc o).grownBy w' u.ownBlock) : Below w.heap.size w w' :=
  (h.alloc h.size o).grown hg (Nat.le_trans h.size (by simp)) (fun q hq => (World.ownsRow.lt (w := wr) (base := w.heap.size) hu q hq).1)
theorem val_part (l : List UInt8) (k : Nat) (hk : k ≤ l.length) (hd : Dec.AllD l) : Dec.val (l.take (l.length - k)) = Dec.val l / 10 ^ k ∧ Dec.val (l.drop (l.length - k)) = Dec.val l % 10 ^ k := by
  have e := Dec.val_append (l.take (l.length - k)) (l.drop (l.length - k))
  rw [List.take_append_drop] at e
  have hl : (l.drop (l.length - k)).length = k := by rw [List.length_drop]; omega
  have hlt := Dec.val_lt (l := l.drop (l.length - k)) (fun b hb => hd b (List.mem_of_mem_drop hb))
  rw [hl] at e hlt
  constructor
  · rw [e, Nat.mul_comm, Nat.mul_add_div (Nat.pow_pos (by omega)), Nat.div_eq_of_lt hlt, Nat.add_zero]
  · rw [e, Nat.mul_comm, Nat.mul_add_mod, Nat.mod_eq_of_lt hlt]
/-- the digits of one limb -/
theorem val_limb (l : List UInt8) (i f lo : Nat) (hd : Dec.AllD l) (hf : f + 9 * i = l.length) (hlo : lo = f - 9) : Dec.val ((l.take f).drop lo) = Lim.pl (Dec.val l) i := by
  have h1 := (val_part l (9 * i) (by omega) hd).1
  rw [show l.length - 9 * i = f by omega] at h1
  have hd2 : Dec.AllD (l.take f) := fun b hb => hd b (List.mem_of_mem_take hb)
  have hfl : (l.take f).length = f := by rw [List.length_take]; omega
  rw [Lim.pl, Lim.B_ten, ← h1]
  rcases Nat.lt_or_ge f 9 with q | q
  · rw [show lo = 0 by omega, List.drop_zero, Nat.mod_eq_of_lt]
    have := Dec.val_lt hd2
    rw [hfl] at this
    refine Nat.lt_of_lt_of_le this ?_
    rw [Lim.B_eq]
    exact Nat.pow_le_pow_right (by omega) (by omega : f ≤ 9)
  · have h2 := (val_part (l.take f) 9 (by omega) hd2).2
    rw [hfl, ← hlo] at h2
    rw [h2, Lim.B_eq]
/-- the limbs up to a place -/
structure Limbs (V i : Nat) (D : List Nat) : Prop where
  len : D.length = i
  lo : Lim.Lo D
  sum : Lim.lv D = V % Lim.B ^ i
theorem Limbs.next {V i : Nat} {D : List Nat} (h : Limbs V i D) : Limbs V (i + 1) (D ++ [Lim.pl V i]) :=
  ⟨by simp [h.len], h.lo.append (Lim.Lo.one (Lim.pl_lt _ _)), by rw [Lim.lv_snoc, h.sum, h.len, Lim.mod_next]⟩
theorem tl_sub (s : ByteArray) (i j : Nat) : tl (s.extract i j) = ((tl s).take j).drop i := by
  simp only [tl, ByteArray.data_extract, Array.toList_extract]
  rw [List.extract_eq_take_drop, List.drop_take]
set_option maxHeartbeats 4000000 in
theorem limbsOf_any (s : ByteArray) (w : World) (hd : Dec.AllD (tl s)) (hs : s.size ≤ 900000) :
    Calls Tryd.prog 62 #[.string s] w fun e w' => ∃ v', e = .returned v' ∧ IntsIn (fun b => w.heap.size ≤ b) w' v' (Lim.ls (Dec.val (tl s))) ∧ Below w.heap.size w w' := by
  obtain ⟨i0, hi0, hz0, hz1, hz2⟩ := info_parts infoI
  obtain ⟨V, hV⟩ : ∃ V, V = Dec.val (tl s) := ⟨_, rfl⟩
  rw [← hV]
  have HV := Lib.hid hV
  have HD := Lib.hid hd
  obtain ⟨c, hc⟩ : ∃ c, c = s.size / 9 := ⟨_, rfl⟩
  have i1 : ((s.size : Int)).tdiv 9 = (c : Int) := by rw [Int.tdiv_eq_ediv_of_nonneg (by omega)]; omega
  have i2 : IntKind.i64.wrap (c : Int) = (c : Int) := IntWalk.i64_in _ (by omega)
  have i3 : IntKind.i64.wrap ((c : Int) + 1) = (c : Int) + 1 := IntWalk.i64_in _ (by omega)
  have hcm : c ≤ 900000 := by omega
  clear hV hd hc
  go_enter Tryd.func62, Tryd.ntmps62
  go_wp2_with (at_make; refine wpList_make_own _ rfl _ _ 80 rfl w.heap.size 3 i0 (.int .i64 0) 1 Tryd.underlying80 hi0 hz0 hz1 _ _ _ (c + 1) rfl rfl (by first | rfl | omega) (by rw [hz2]; omega) (by unfold maxLen; omega) (Nat.le_refl _) ?_)
  intro w1 hown hgrow
  have hB1 : Below w.heap.size w w1 := (Below.refl _ _).grown hgrow (Nat.le_refl _) (fun k h => by cases h)
  have hO1 : Hid (OwnI w.heap.size w1 (.slice (some ⟨w.heap.size, 0, none⟩) 0 (c + 1)) []) := Lib.hid hown
  generalize (Value.slice (some ⟨w.heap.size, 0, none⟩) 0 (c + 1)) = v0 at hO1 ⊢
  clear hown hgrow
  go_wp2_with fail
  go_loopw [3, 4] (fun v ee wr => ∃ (i : Nat) (E : Int) (D : List Nat), ee = .int .i64 E ∧ E = (s.size : Int) - 9 * (i : Int) ∧ -9 < E ∧ Hid (Limbs V i D) ∧ Hid (OwnI w.heap.size wr v D) ∧ Hid (Below w.heap.size w wr)) (fun _ ee _ => (intOf ee).toNat)
  case atStart => exact ⟨0, (s.size : Int), [], rfl, by omega, by omega, Lib.hid ⟨rfl, Lim.Lo.nil, by simp [Lim.lv, Nat.mod_one]⟩, hO1, Lib.hid hB1⟩
  case round =>
    clear hO1 hB1
    obtain ⟨i, E, D, rfl, hE, hE9, hL, hO, hB⟩ := hrel
    by_cases h0 : 0 < E
    · obtain ⟨f, rfl⟩ : ∃ f : Nat, E = (f : Int) := ⟨E.toNat, by omega⟩
      obtain ⟨lo, hlo⟩ : ∃ lo, lo = f - 9 := ⟨_, rfl⟩
      obtain ⟨sub, hsub⟩ : ∃ sub, sub = s.extract lo f := ⟨_, rfl⟩
      have hfs : f ≤ s.size := by omega
      have htl : tl sub = ((tl s).take f).drop lo := by rw [hsub, tl_sub]
      obtain ⟨k, hk⟩ : ∃ k, k = sub.size := ⟨_, rfl⟩
      have hk2 : k + lo = f := by rw [hk, ← tl_length, htl, List.length_drop, List.length_take, tl_length]; omega
      have hk9 : k ≤ 9 := by omega
      have hsd : Dec.AllD (tl sub) := fun b hb => HD.out b (by rw [htl] at hb; exact List.mem_of_mem_take (List.mem_of_mem_drop hb))
      have hsv : Dec.val (tl sub) = Lim.pl V i := by
        rw [htl, HV.out]
        exact val_limb (tl s) i f lo HD.out (by rw [tl_length]; omega) hlo
      have f1 : IntKind.i64.wrap ((f : Int) - 9) = (f : Int) - 9 := IntWalk.i64_in _ (by omega)
      have f2 : max (0 : Int) ((f : Int) - 9) = (lo : Int) := by omega
      have f3 : (lo : Int) ≤ (f : Int) := by omega
      have f4 : (f : Int) ≤ (s.size : Int) := by omega
      have hcv := Lib.run_convert_string_bytes (P := Tryd.prog) wr 22 101 5 sub Tryd.underlying22 Tryd.underlying101 Tryd.underlying5
      have hbc : ∀ j (hj : j < sub.size), (Lib.bytesWorld wr 5 sub).cell? ⟨wr.heap.size, j, none⟩ = some (.int .u8 (sub[j].toNat : Int)) := fun j hj => by
        rw [Lib.bytesWorld_cell wr _ sub j hj]
        have : j < sub.data.toList.length := by rw [← tl, tl_length]; omega
        rw [List.getD_eq_getElem?_getD, List.getElem?_eq_getElem this]
        rfl
      have hO2 := Lib.hid (hO.out.below (Lib.bytesWorld_below wr 5 sub))
      have hB2 := Lib.hid (hB.out.trans ((Lib.bytesWorld_below wr 5 sub).mono hB.out.size))
      rw [← hk] at hcv
      generalize Lib.bytesWorld wr 5 sub = W2 at hcv hbc hO2 hB2
      generalize grownCap wr k 0 5 = C2 at hcv
      obtain ⟨G, hG⟩ : ∃ G, G = wr.heap.size := ⟨_, rfl⟩
      rw [← hG] at hcv hbc
      have HBC := Lib.hid hbc
      have HSD := Lib.hid hsd
      have HSV := Lib.hid hsv
      have HK := Lib.hid hk
      have HE := Lib.hid hE
      have hext : s.extract lo f = sub := hsub.symm
      clear hbc hsd hsv hk hlo htl hsub hG hO hB hE
      go_wp2_with fail
      go_loop [27, 5] (fun jj ll => ∃ j y : Nat, j ≤ k ∧ jj = .int .i64 (j : Int) ∧ ll = .int .i64 (y : Int) ∧ Hid (y = Dec.val ((tl sub).take j)) ∧ y < 10 ^ j) (fun jj _ => k - (intOf jj).toNat)
      case atStart => exact ⟨0, 0, by omega, rfl, rfl, Lib.hid (by simp [Dec.val_nil]), by simp⟩
      case round =>
        obtain ⟨j, y, hj, rfl, rfl, hy, hyb⟩ := hrel
        by_cases hlt : j < k
        · have hjs : j < sub.size := by rw [← HK.out]; exact hlt
          have hcell := HBC.out j hjs
          have hdig := (Dec.isD_iff sub[j]).1 (HSD.out _ (by rw [← tl_get sub j hjs]; exact List.getElem_mem _))
          obtain ⟨x, hx⟩ : ∃ x, x = sub[j].toNat := ⟨_, rfl⟩
          rw [← hx] at hcell hdig
          obtain ⟨d, hd⟩ : ∃ d, d = x - 48 := ⟨_, rfl⟩
          have hY : Hid (y * 10 + d = Dec.val ((tl sub).take (j + 1))) := Lib.hid (by
            rw [List.take_succ_eq_append_getElem (by rw [tl_length]; exact hjs), Dec.val_snoc, ← hy.out, tl_get sub j hjs, hd, hx]
            rfl)
          have hyb2 : y ≤ 99999999 := by
            have : 10 ^ j ≤ 10 ^ 8 := Nat.pow_le_pow_right (by omega) (by omega)
            omega
          have hyb3 : Hid (y * 10 + d < 10 ^ (j + 1)) := Lib.hid (by rw [Nat.pow_succ]; omega)
          have g1 : IntKind.i64.wrap ((y : Int) * 10) = (y : Int) * 10 := IntWalk.i64_in _ (by omega)
          have g2 : IntKind.u8.wrap ((x : Int) - 48) = (d : Int) := by simp [IntKind.wrap, IntKind.bits, IntKind.signed]; omega
          have g3 : IntKind.i64.wrap (d : Int) = (d : Int) := IntWalk.i64_in _ (by omega)
          have g4 : IntKind.i64.wrap ((y : Int) * 10 + (d : Int)) = (y : Int) * 10 + (d : Int) := IntWalk.i64_in _ (by omega)
          have g5 : IntKind.i64.wrap ((j : Int) + 1) = (j : Int) + 1 := IntWalk.i64_in _ (by omega)
          have g6 : (j : Int) < (k : Int) := by omega
          clear hx hd hyb
          go_wp2_with fail
          go_round
          case rel => exact ⟨j + 1, y * 10 + d, by omega, by go_num, by go_num, hY, hyb3.out⟩
          case measure => simp [intOf]; omega
        · obtain rfl : k = j := by omega
          have hyv : y = Lim.pl V i := by rw [hy.out, List.take_of_length_le (by rw [tl_length, ← HK.out]; exact Nat.le_refl _), HSV.out]
          have hDl : Hid (D.length + 1 ≤ 1099511627) := Lib.hid (by rw [hL.out.len]; have := HE.out; omega)
          have hLn : Hid (Limbs V (i + 1) (D ++ [y])) := Lib.hid (by rw [hyv]; exact hL.out.next)
          have f5 : IntKind.i64.wrap ((f : Int) - 9) = (f : Int) - 9 := f1
          have hEn : Hid ((f : Int) - 9 = (s.size : Int) - 9 * ((i + 1 : Nat) : Int)) := Lib.hid (by have := HE.out; omega)
          have hE9' : -9 < (f : Int) - 9 := by omega
          clear hyv hyb
          go_wp2_with (at_builtin; refine wpList_snocI _ (by rfl) _ _ (by rfl) w.heap.size _ D y (by rfl) (by rfl) hO2.out hDl.out hB2.out.size ?_)
          intro v7 w7 hown7 hgrow7
          have hB7 := Lib.hid (below_snocI hB2.out hO2.out hgrow7)
          have hO7 := Lib.hid hown7
          clear hown7 hgrow7
          go_wp2_with fail
          go_roundw
          case rel => exact ⟨i + 1, (f : Int) - 9, D ++ [y], rfl, hEn.out, hE9', hLn, hO7, hB7⟩
          case measure => simp [intOf]; omega
    · have hfin : Lim.lv D = V := by
        rw [hL.out.sum, Nat.mod_eq_of_lt]
        have := Dec.val_lt HD.out
        rw [← HV.out, tl_length] at this
        refine Nat.lt_of_lt_of_le this ?_
        rw [Lim.B_ten]
        exact Nat.pow_le_pow_right (by omega) (by omega)
      have HF := Lib.hid hfin
      clear hfin hE
      go_wp2_with fail
      refine (trimmed_any (fun b => w.heap.size ≤ b) _ _ _ hO.out.ints hL.out.lo).mono ?_
      rintro e w7 ⟨v', rfl, hv, rfl⟩
      rw [HF.out] at hv
      have HVV := Lib.hid hv
      clear hv
      go_wp2_with fail
      go_ret
      exact ⟨v', rfl, HVV.out, hB.out⟩
end Go.Proofs.YtbcoblpnihdhgaaDoor
