/-
  Appending one list of strings of the call's own to another, empty or not: one law for both, in a region that draws and in one that doesn't.
-/
import Derived.Test.YtcdnddjoonecdaaDoorTmA
import Derived.Laws.OwnMore
import Derived.Test.YtcdnddjoonecdaaDoorTmB
import Derived.BigQuiet
set_option linter.unusedVariables false
set_option maxRecDepth 100000
namespace Go.Proofs.YtcdnddjoonecdaaDoor
open Go.RowKit
theorem OwnS.size_eq {B : Nat} {w : World} {v : Value} {ss : List ByteArray} (h : OwnS B w v ss) : v.ownBlock = none ∨ ∃ g, v.ownBlock = some g ∧ B ≤ g ∧ g < w.heap.size := by
  cases e : v.ownBlock with
  | none => exact .inl rfl
  | some g => exact .inr ⟨g, rfl, World.ownsRow.lt (w := w) (base := B) h g e⟩
theorem OwnS.not_new {B : Nat} {w : World} {v : Value} {ss : List ByteArray} (h : OwnS B w v ss) {k : Nat} (hk : w.heap.size ≤ k) : v.ownBlock ≠ some k := by
  rcases h.size_eq with e | ⟨g, e, _, h2⟩
  · rw [e]; simp
  · rw [e]; intro e'; have := Option.some.inj e'; omega
theorem OwnS.not_low {B : Nat} {w : World} {v : Value} {ss : List ByteArray} (h : OwnS B w v ss) {k : Nat} (hk : k < B) : v.ownBlock ≠ some k := by
  rcases h.size_eq with e | ⟨g, e, h1, _⟩
  · rw [e]; simp
  · rw [e]; intro e'; have := Option.some.inj e'; omega
/-- a list of one string, just laid -/
theorem own_lit (w : World) (R : ByteArray) : OwnS 0 (w.alloc (Obj.cells #[Value.string R] 9)) (.slice (some ⟨w.heap.size, 0, none⟩) 1 1) [R] :=
  World.ownsRow_lit w #[Value.string R] 1 (Nat.zero_le _) (by unfold maxLen; omega) rfl
theorem own_lit0 (w : World) : OwnS 0 (w.alloc (Obj.cells #[] 9)) (.slice (some ⟨w.heap.size, 0, none⟩) 0 0) [] :=
  World.ownsRow_lit w #[] 0 (Nat.zero_le _) (by unfold maxLen; omega) rfl
theorem OwnS.grown {B : Nat} {w w' : World} {v : Value} {ss : List ByteArray} {row : Option Nat} (h : OwnS B w v ss) (hg : w.grownBy w' row) (hne : v.ownBlock ≠ row) : OwnS B w' v ss := World.ownsRow.kept h hg (.inr hne)
theorem run_lists (w : World) (ty : TypeId) (B B2 : Nat) (u1 u2 : Value) (P1 P2 : List ByteArray) (h1 : OwnS B w u1 P1) (h2 : OwnS B2 w u2 P2) (hn : P1.length + P2.length ≤ 1099511627776) (hB : B ≤ w.heap.size) :
    ∃ v' w', (Builtin.append_ #[35, 35] ty #[u1, u2]).run Tryd.prog w = .ok v' w' ∧ OwnS B w' v' (P1 ++ P2) ∧ w.grownBy w' u1.ownBlock := by
  obtain ⟨i0, hi0, hz0, hz1, hz2⟩ := info_parts infoStr
  have conv : ∀ {w' : World} {v' : Value}, w'.ownsRow B 9 1 v' (P1.length + P2.length) (P1.map Value.string ++ P2.map Value.string) → OwnS B w' v' (P1 ++ P2) := fun h => by
    unfold OwnS
    rw [List.length_append, List.map_append]
    exact h
  rcases h2.2 with ⟨rfl, h0⟩ | ⟨g, cap, cur, rfl, _⟩
  · obtain rfl : P2 = [] := List.eq_nil_of_length_eq_zero h0
    refine ⟨u1, w, run_append_owned_none (P := Tryd.prog) w B 35 ty 9 i0 1 Tryd.underlying35 hi0 u1 P1.length _ h1, ?_, ⟨rfl, rfl, rfl, Nat.le_refl _, fun _ _ _ => rfl⟩⟩
    rw [List.append_nil]; exact h1
  · obtain ⟨v', w', e1, e2, e3, _⟩ := run_append_own (P := Tryd.prog) w B 35 ty 9 i0 (.string ⟨#[]⟩) 1 16 Tryd.underlying35 hi0 hz0 hz1 hz2 rfl (by decide) u1 P1.length _ h1 ⟨g, 0, none⟩ P2.length cap (P2.map Value.string)
      (by simp) (fun j u hj => by
        have hj' : j < P2.length := by
          have := (List.getElem?_eq_some_iff.1 hj).1
          simpa using this
        have hadd : (⟨g, 0, none⟩ : Addr).add j = ⟨g, j, none⟩ := by unfold Addr.add; split <;> simp_all
        rw [hadd, World.ownsRow.cellAt h2 j (by omega)]
        exact hj) (by intro u hu; simp only [List.mem_map] at hu; obtain ⟨s, _, rfl⟩ := hu; rfl) (by unfold maxLen; omega) (by omega) hB
    exact ⟨v', w', e1, conv e2, e3⟩
theorem wp_cat (w : World) {o : Oper} {a : Act} {K : Act → World → Prop} {Q : Exit → Act → World → Prop} (s x : Operand)
    (ho : o.op = .call { callee := .builtin .append, args := #[s, x], argTypes := #[35, 35] })
    (B B2 : Nat) (u1 u2 : Value) (P1 P2 : List ByteArray) (hs : a.eval s = u1) (hx : a.eval x = u2) (h1 : OwnS B w u1 P1) (h2 : OwnS B2 w u2 P2) (hn : P1.length + P2.length ≤ 1099511627776) (hB : B ≤ w.heap.size)
    (h : ∀ v' w', OwnS B w' v' (P1 ++ P2) → w.grownBy w' u1.ownBlock → K (a.put o.dst v') w') : o.wp Tryd.prog a w K Q := by
  obtain ⟨v', w', hr, e1, e2⟩ := run_lists w o.type B B2 u1 u2 P1 P2 h1 h2 hn hB
  unfold Oper.wp execOp
  simp only [ho, resolve, invoke, builtin, Sem.run_bind, Sem.run_pure, Result.andThen_ok, List.map_toArray, List.map_cons, List.map_nil, hs, hx, hr]
  exact h v' w' e1 e2
/-- at the list of a plain region's operations -/
theorem wpList_cat (w : World) {ops : Array Oper} {rest : List Oper} {o : Oper} {a : Act} {Q : Exit → Act → World → Prop} (hgd : o.guard = none) (s x : Operand)
    (ho : o.op = .call { callee := .builtin .append, args := #[s, x], argTypes := #[35, 35] })
    (B B2 : Nat) (u1 u2 : Value) (P1 P2 : List ByteArray) (hs : a.eval s = u1) (hx : a.eval x = u2) (h1 : OwnS B w u1 P1) (h2 : OwnS B2 w u2 P2) (hn : P1.length + P2.length ≤ 1099511627776) (hB : B ≤ w.heap.size)
    (h : ∀ v' w', OwnS B w' v' (P1 ++ P2) → w.grownBy w' u1.ownBlock → wpList Tryd.prog ops Q rest (a.put o.dst v') w') : wpList Tryd.prog ops Q (o :: rest) a w :=
  wpList_plain hgd fun _ hK => wp_cat w s x ho B B2 u1 u2 P1 P2 hs hx h1 h2 hn hB fun v' w' h3 h4 => hK _ _ (h v' w' h3 h4)
/-- at the list of a plain region's operations, where the operation is guarded and wanted -/
theorem wpList_cat_if (w : World) {ops : Array Oper} {rest : List Oper} {o : Oper} {a : Act} {Q : Exit → Act → World → Prop} (hgd : Region.wanted o (yielded ops a.tmps) = true) (s x : Operand)
    (ho : o.op = .call { callee := .builtin .append, args := #[s, x], argTypes := #[35, 35] })
    (B B2 : Nat) (u1 u2 : Value) (P1 P2 : List ByteArray) (hs : a.eval s = u1) (hx : a.eval x = u2) (h1 : OwnS B w u1 P1) (h2 : OwnS B2 w u2 P2) (hn : P1.length + P2.length ≤ 1099511627776) (hB : B ≤ w.heap.size)
    (h : ∀ v' w', OwnS B w' v' (P1 ++ P2) → w.grownBy w' u1.ownBlock → wpList Tryd.prog ops Q rest (a.put o.dst v') w') : wpList Tryd.prog ops Q (o :: rest) a w := by
  unfold wpList
  rw [if_pos hgd]
  exact .inl (wp_cat w s x ho B B2 u1 u2 P1 P2 hs hx h1 h2 hn hB h)
/-- at a step of a region that draws its order -/
theorem step_cat (w : World) {ops : Array Oper} {o : Oper} {a : Act} {K : Act → World → Prop} {Q : Exit → Act → World → Prop} {E : Prop} (hgd : o.guard = none) (s x : Operand)
    (ho : o.op = .call { callee := .builtin .append, args := #[s, x], argTypes := #[35, 35] })
    (B B2 : Nat) (u1 u2 : Value) (P1 P2 : List ByteArray) (hs : a.eval s = u1) (hx : a.eval x = u2) (h1 : OwnS B w u1 P1) (h2 : OwnS B2 w u2 P2) (hn : P1.length + P2.length ≤ 1099511627776) (hB : B ≤ w.heap.size)
    (h : ∀ v' w', OwnS B w' v' (P1 ++ P2) → w.grownBy w' u1.ownBlock → K (a.put o.dst v') w') :
    if Region.wanted o (yielded ops a.tmps) = true then Oper.wp Tryd.prog o a w K Q else E := by
  have hw : Region.wanted o (yielded ops a.tmps) = true := by simp [Region.wanted, hgd]
  rw [if_pos hw]
  exact wp_cat w s x ho B B2 u1 u2 P1 P2 hs hx h1 h2 hn hB h
end Go.Proofs.YtcdnddjoonecdaaDoor

/-
  The reference's Texts: the texts that are digested for the root of a list.
-/
set_option linter.unusedVariables false
set_option maxRecDepth 100000
namespace Go.Proofs.YtcdnddjoonecdaaDoor
open Go.RowKit
theorem textsB_nil : textsB [] = [joinB [kEmpty]] := by rw [textsB, dif_neg (by simp)]; rfl
theorem textsB_one (a : ByteArray) : textsB [a] = [] := by rw [textsB, dif_neg (by simp)]; rfl
theorem textsB_len : ∀ (n : Nat) (l : List ByteArray), l.length = n → (textsB l).length ≤ l.length + 1 ∧ (0 < l.length → (textsB l).length + 1 ≤ l.length) := by
  intro n
  induction n using Nat.strongRecOn with
  | _ n ih =>
    intro l hl
    by_cases h2 : 2 ≤ l.length
    · have k1 := half_pos h2
      have k2 := half_lt h2
      obtain ⟨_, a⟩ := ih _ (by omega) (l.take (half l.length)) (take_length h2)
      obtain ⟨_, b⟩ := ih _ (by omega) (l.drop (half l.length)) (drop_length h2)
      rw [take_length h2] at a
      rw [drop_length h2] at b
      have a := a (by omega)
      have b := b (by omega)
      rw [textsB_big h2]
      simp only [List.length_append, List.length_singleton]
      omega
    · match l, h2 with
      | [], _ => rw [textsB_nil]; simp
      | [a], _ => rw [textsB_one]; simp
      | _ :: _ :: _, h2 => simp at h2
theorem joinB_small {ss : List ByteArray} (hl : ss.length ≤ 10) (hs : ∀ s ∈ ss, s.size ≤ 2147483648) : (joinB ss).size ≤ 1099511627776 := by
  have hc : ∀ l : List ByteArray, (∀ s ∈ l, s.size ≤ 2147483648) → capN l ≤ 2147483669 * l.length := by
    intro l
    induction l with
    | nil => intro _; simp [capN]
    | cons s r ih =>
      intro h
      have h1 := h s (List.mem_cons_self ..)
      have h2 := ih (fun x hx => h x (List.mem_cons_of_mem _ hx))
      simp only [capN, List.length_cons]; omega
  have c1 := hc ss hs
  have c2 := join_le_cap (ss := ss) (fun s h => by have := hs s h; omega)
  have := joinB_size ss
  omega
theorem nodeT_small {a b : ByteArray} (ha : a.size ≤ 2147483648) (hb : b.size ≤ 2147483648) : (nodeT a b).size ≤ 1099511627776 := joinB_small (by simp) (by
    intro s h; simp only [List.mem_cons, List.not_mem_nil, or_false] at h
    rcases h with rfl | rfl | rfl
    · decide
    · exact ha
    · exact hb)
set_option maxHeartbeats 400000 in
theorem reftexts_nil (a : Option Addr) (cap : Nat) (w : World) :
    Calls Tryd.prog 14 #[.slice a 0 cap] w (Gives (textsB []) w) := by
  have HT := Lib.hid textsB_nil
  go_enter Tryd.func14, Tryd.ntmps14
  go_wp2_with fail
  refine (refjlit_any _ _ _ (one_at w kEmpty) (by simp) (by
    intro s h; simp only [List.mem_cons, List.not_mem_nil, or_false] at h
    subst h; decide)).mono ?_
  rintro e w1 ⟨rfl, hb1⟩
  have hb := (below_lit w _).trans (hb1.mono (below_lit w _).size)
  clear hb1
  go_wp2_with fail
  go_ret
  refine ⟨_, rfl, ?_, hb.alloc hb.size _⟩
  rw [HT.out]
  exact World.ownsRow_lit w1 #[Value.string (joinB [kEmpty])] 1 hb.size (by unfold maxLen; omega) rfl
set_option maxHeartbeats 400000 in
theorem reftexts_one (a : Option Addr) (cap : Nat) (w : World) :
    Calls Tryd.prog 14 #[.slice a 1 cap] w (Gives [] w) := by
  go_enter Tryd.func14, Tryd.ntmps14
  go_wp2_with fail
  go_ret
  exact ⟨_, rfl, OwnS.nil _ _, Below.refl _ _⟩
theorem refnodeT_lit (A B R : ByteArray) (w : World) (hR : Hid (R = nodeT A B)) (ha : A.size ≤ 2147483648) (hb : B.size ≤ 2147483648) :
    Calls Tryd.prog 12 #[.slice (some ⟨w.heap.size, 0, none⟩) 3 3] (w.alloc (Obj.cells #[Value.string kNode, Value.string A, Value.string B] 9)) fun e w' => e = .returned (.string R) ∧ Below (w.alloc (Obj.cells #[Value.string kNode, Value.string A, Value.string B] 9)).heap.size (w.alloc (Obj.cells #[Value.string kNode, Value.string A, Value.string B] 9)) w' := by
  rw [hR.out]
  exact refjlit_any _ _ _ (lit3_at w kNode A B) (by simp) (by
    intro s h; simp only [List.mem_cons, List.not_mem_nil, or_false] at h
    rcases h with rfl | rfl | rfl
    · decide
    · exact ha
    · exact hb)
set_option maxHeartbeats 4000000 in
theorem reftexts_step (ss : List ByteArray) (b off cap : Nat) (w : World) (h2 : 2 ≤ ss.length) (hn : ss.length ≤ 1099511627776) (hcap : ss.length ≤ cap) (hcm : cap ≤ maxLen) (A B R : ByteArray) (P1 P2 : List ByteArray) (hR : R = nodeT A B) (hA : A.size ≤ 2147483648) (hB : B.size ≤ 2147483648) (hP : P1.length + P2.length + 1 ≤ 1099511627776)
    (hra : ∀ w', Below w.heap.size w w' → Calls Tryd.prog 31 #[.slice (some ⟨b, off, none⟩) (half ss.length) cap] w' fun e w'' => e = .returned (.string A) ∧ Below w'.heap.size w' w'')
    (hrb : ∀ w', Below w.heap.size w w' → Calls Tryd.prog 31 #[.slice (some ⟨b, off + half ss.length, none⟩) (ss.length - half ss.length) (cap - half ss.length)] w' fun e w'' => e = .returned (.string B) ∧ Below w'.heap.size w' w'')
    (hta : ∀ w', Below w.heap.size w w' → Calls Tryd.prog 14 #[.slice (some ⟨b, off, none⟩) (half ss.length) cap] w' (Gives P1 w'))
    (htb : ∀ w', Below w.heap.size w w' → Calls Tryd.prog 14 #[.slice (some ⟨b, off + half ss.length, none⟩) (ss.length - half ss.length) (cap - half ss.length)] w' (Gives P2 w')) :
    Calls Tryd.prog 14 #[.slice (some ⟨b, off, none⟩) ss.length cap] w (Gives (P1 ++ P2 ++ [R]) w) := by
  have HRA := Lib.hid hra
  have HRB := Lib.hid hrb
  have HTA := Lib.hid hta
  have HTB := Lib.hid htb
  have S1 := Lib.hid hA
  have S2 := Lib.hid hB
  have HR := Lib.hid hR
  have k1 := half_pos h2
  have k2 := half_lt h2
  have i1 : (0 : Int) ≤ (half ss.length : Int) := by omega
  have i2 : (half ss.length : Int) ≤ (cap : Int) := by omega
  have i3 : (half ss.length : Int) ≤ (ss.length : Int) := by omega
  have t0 : ((ss.length : Int) == 0) = false := beq_eq_false_iff_ne.2 (by omega)
  have t1 : ((ss.length : Int) == 1) = false := beq_eq_false_iff_ne.2 (by omega)
  have t2 : ¬ cap = half ss.length := by omega
  clear hra hrb hta htb hA hB hR
  unfold maxLen at hcm
  go_enter Tryd.func14, Tryd.ntmps14
  go_wp2_with fail
  refine (half_any _ _ h2 hn).mono ?_
  rintro e w1 ⟨rfl, rfl⟩
  go_wp2_with fail
  go_region_held3 (fun w' => Below w.heap.size w w') (first | (with_reducible assumption) | exact Below.drew (Below.refl _ _) | exact (Below.trans (by assumption) (Below.mono (by assumption) (Below.size (by assumption)))) | exact (Below.alloc (by assumption) (Below.size (by assumption)) _)) (first | (go_at_call 31; first | ((with_reducible refine (HRA.out _ ?hb).mono ?_); (case hb => assumption); rintro e w2 ⟨rfl, hb2⟩) | ((with_reducible refine (HRB.out _ ?hb).mono ?_); (case hb => assumption); rintro e w3 ⟨rfl, hb3⟩)) | (go_at_call 12; refine (refnodeT_lit _ _ _ _ HR S1.out S2.out).mono ?_; rintro e w4 ⟨rfl, hb4⟩) | fail "no arm")
  have hs4 : Below w.heap.size w w4 := by assumption
  have hs4s := hs4.size
  clear hb2 hb3 hb4 HRA HRB S1 S2 HR
  go_wp2_with fail
  go_region_held3 (fun w' => Below w.heap.size w w') (first | (with_reducible assumption) | exact Below.drew (by assumption) | exact hB9 | exact hB10 | exact (Below.trans (by assumption) (Below.mono (by assumption) (Below.size (by assumption)))) | exact (Below.alloc (by assumption) (Below.size (by assumption)) _)) (first | (go_at_call 14; first | ((with_reducible refine (HTA.out _ ?hb).mono ?_); (case hb => assumption); rintro e w5 ⟨u1, rfl, hu1, hb5⟩) | ((with_reducible refine (HTB.out _ ?hb).mono ?_); (case hb => assumption); rintro e w6 ⟨u2, rfl, hu2, hb6⟩)) | (refine step_cat _ (by rfl) _ _ (by rfl) w.heap.size _ u1 u2 P1 P2 (by rfl) (by rfl) (by first | exact (hu1.mono (by first | exact hs4s | exact Nat.le_trans hs4s (by simp))).below hb6 | exact ((hu1.mono (by first | exact hs4s | exact Nat.le_trans hs4s (by simp))).below (below_lit w5 _)).below hb6 | exact ((hu1.mono (by first | exact hs4s | exact Nat.le_trans hs4s (by simp))).below hb6).below (below_lit w6 _)) (by first | exact hu2 | exact hu2.below (below_lit w6 _)) (by omega) (Below.size (by assumption)) ?_; intro v7 w7 hown7 hgrow7; have hB9 := below_append (by assumption) (hu1.mono (by first | exact hs4s | exact Nat.le_trans hs4s (by simp))) hgrow7) | (refine step_cat _ (by rfl) _ _ (by rfl) w.heap.size 0 v7 _ (P1 ++ P2) [R] (by rfl) (by rfl) (by first | exact hown7 | exact hown7.below (below_lit w7 _)) (by first | exact own_lit w7 R | exact (own_lit w6 R).grown hgrow7 (Ne.symm ((hu1.below hb6).not_new (Nat.le_refl _))) | exact ((own_lit w5 R).below hb6).grown hgrow7 (Ne.symm (hu1.not_new (Nat.le_refl _))) | exact (((own_lit w4.drew R).below hb5).below hb6).grown hgrow7 (Ne.symm (hu1.not_low (by simp)))) (by simp; omega) (Below.size (by assumption)) ?_; intro v8 w8 hown8 hgrow8; have hB10 := below_append (by assumption) hown7 hgrow8) | fail "no arm")
  all_goals go_wp2_with fail
  all_goals go_ret
  all_goals exact ⟨_, rfl, hown8, by assumption⟩
theorem reftexts_any : ∀ (n : Nat) (ss : List ByteArray) (v : Value) (w : World), ss.length = n → n ≤ 549755813888 → Small ss → StrsOk w v ss →
    Calls Tryd.prog 14 #[v] w (Gives (textsB ss) w) := by
  intro n
  induction n using Nat.strongRecOn with
  | _ n ih =>
    intro ss v w hn hle hS hok
    by_cases h2 : 2 ≤ ss.length
    · obtain ⟨b, off, cap, rfl, h1, h3, hc⟩ := hok.open_ (by omega)
      have k1 := half_pos h2
      have k2 := half_lt h2
      have hfirst : ∀ w', Below w.heap.size w w' → StrsOk w' (.slice (some ⟨b, off, none⟩) (half ss.length) cap) (ss.take (half ss.length)) := fun w' hb => (StrsOk.first h1 h3 hok.sizes hc _ k1 (by omega)).below hb
      have hrest : ∀ w', Below w.heap.size w w' → StrsOk w' (.slice (some ⟨b, off + half ss.length, none⟩) (ss.length - half ss.length) (cap - half ss.length)) (ss.drop (half ss.length)) := fun w' hb => (StrsOk.rest h1 h3 hok.sizes hc _ k2).below hb
      have p1 := (textsB_len _ (ss.take (half ss.length)) rfl).1
      have p2 := (textsB_len _ (ss.drop (half ss.length)) rfl).1
      rw [take_length h2] at p1
      rw [drop_length h2] at p2
      rw [textsB_big h2]
      refine reftexts_step ss b off cap w h2 (by omega) h1 h3 _ _ _ _ _ rfl (rootB_size (hS.take _)) (rootB_size (hS.drop _)) (by omega) ?_ ?_ ?_ ?_
      · intro w' hb
        exact refroot_any _ _ _ w' (take_length h2) (by omega) (hS.take _) (hfirst w' hb)
      · intro w' hb
        exact refroot_any _ _ _ w' (drop_length h2) (by omega) (hS.drop _) (hrest w' hb)
      · intro w' hb
        exact ih (half ss.length) (by omega) _ _ w' (take_length h2) (by omega) (hS.take _) (hfirst w' hb)
      · intro w' hb
        exact ih (ss.length - half ss.length) (by omega) _ _ w' (drop_length h2) (by omega) (hS.drop _) (hrest w' hb)
    · match ss, h2 with
      | [], _ =>
        obtain ⟨a, cap, rfl, _, _⟩ := hok.room
        exact reftexts_nil a cap w
      | [s], _ =>
        obtain ⟨a, cap, rfl, _, _⟩ := hok.room
        rw [textsB_one]
        exact reftexts_one a cap w
      | _ :: _ :: _, h2 => simp at h2
theorem textsB_size : ∀ (n : Nat) (l : List ByteArray), l.length = n → Small l → ∀ s ∈ textsB l, s.size ≤ 1099511627776 := by
  intro n
  induction n using Nat.strongRecOn with
  | _ n ih =>
    intro l hl hS s hs
    by_cases h2 : 2 ≤ l.length
    · have k1 := half_pos h2
      have k2 := half_lt h2
      rw [textsB_big h2] at hs
      rcases List.mem_append.1 hs with hs | hs
      · rcases List.mem_append.1 hs with hs | hs
        · exact ih _ (by omega) (l.take (half l.length)) (take_length h2) (hS.take _) s hs
        · exact ih _ (by omega) (l.drop (half l.length)) (drop_length h2) (hS.drop _) s hs
      · simp only [List.mem_singleton] at hs
        subst hs
        exact nodeT_small (rootB_size (hS.take _)) (rootB_size (hS.drop _))
    · match l, h2, hs with
      | [], _, hs =>
        rw [textsB_nil] at hs
        simp only [List.mem_singleton] at hs
        subst hs
        exact joinB_small (by simp) (by intro s h; simp only [List.mem_cons, List.not_mem_nil, or_false] at h; subst h; decide)
      | [a], _, hs => rw [textsB_one] at hs; cases hs
      | _ :: _ :: _, h2, _ => simp at h2
end Go.Proofs.YtcdnddjoonecdaaDoor

/-
  The reference's Shown: two different texts of a list have one digest.
-/
set_option linter.unusedVariables false
set_option maxRecDepth 100000
namespace Go.Proofs.YtcdnddjoonecdaaDoor
open Go.RowKit
def pairAt (ss : List ByteArray) (x y : Nat) : Prop := sumB (ss.getD x ByteArray.empty) = sumB (ss.getD y ByteArray.empty) ∧ ss.getD x ByteArray.empty ≠ ss.getD y ByteArray.empty
theorem getD_in {ss : List ByteArray} {k : Nat} (h : k < ss.length) : ss.getD k ByteArray.empty = ss[k] := by simp [List.getD, h]
theorem Shown.pair {ss : List ByteArray} (h : Shown ss) : ∃ x y, y < x ∧ x < ss.length ∧ pairAt ss x y := by
  obtain ⟨s, hs, t, ht, e, n⟩ := h
  obtain ⟨i, hi, rfl⟩ := List.getElem_of_mem hs
  obtain ⟨j, hj, rfl⟩ := List.getElem_of_mem ht
  rcases Nat.lt_trichotomy i j with h | h | h
  · exact ⟨j, i, h, hj, by unfold pairAt; rw [getD_in hi, getD_in hj]; exact ⟨e.symm, fun e' => n e'.symm⟩⟩
  · subst h; exact absurd rfl n
  · exact ⟨i, j, h, hi, by unfold pairAt; rw [getD_in hi, getD_in hj]; exact ⟨e, n⟩⟩
set_option maxHeartbeats 2000000 in
theorem shown_full (b off cap : Nat) (ss : List ByteArray) (w : World) (h0 : 0 < ss.length) (hl : ss.length ≤ 549755813888) (hok : StrsOk w (.slice (some ⟨b, off, none⟩) ss.length cap) ss) (hsz : ∀ s ∈ ss, s.size ≤ 140737488355328) (hc : ∀ j (hj : j < ss.length), w.cell? ⟨b, off + j, none⟩ = some (.string ss[j])) (hsh : Shown ss) :
    Calls Tryd.prog 18 #[.slice (some ⟨b, off, none⟩) ss.length cap] w fun e w' => e = .returned (.bool true) ∧ Below w.heap.size w w' := by
  have H := Lib.hid hok
  have HC := Lib.hid hc
  have HS := Lib.hid hsz
  have SH := Lib.hid hsh.pair
  have hlt0 : b < w.heap.size := by
    have := hc 0 h0
    rcases Nat.lt_or_ge b w.heap.size with h' | h'
    · exact h'
    · simp [World.cell?, Array.getElem?_eq_none h'] at this
  clear hok hc hsz hsh
  go_enter Tryd.func18, Tryd.ntmps18
  go_wp2_with fail
  go_loopw [3, 4] (fun v i wr => ∃ k : Nat, k ≤ ss.length ∧ i = .int .i64 k ∧ OwnS w.heap.size wr v ((ss.map sumB).take k) ∧ Below w.heap.size w wr) (fun _ i _ => ss.length - (intOf i).toNat)
  case atStart => exact ⟨0, by omega, rfl, OwnS.nil _ _, Below.refl _ _⟩
  case round =>
    obtain ⟨k, hk, rfl, hown, hbel⟩ := hrel
    by_cases hlt : k < ss.length
    · have hcell : wr.cell? ⟨b, off + k, none⟩ = some (.string ss[k]) := (hbel.cell (p := ⟨b, off + k, none⟩) hlt0).trans (HC.out k hlt)
      have hz : ss[k].size ≤ 140737488355328 := HS.out _ (List.getElem_mem hlt)
      have HZ := Lib.hid hz
      clear hz
      have hln : ((ss.map sumB).take k).length + [sumB ss[k]].length ≤ 1099511627776 := by simp; omega
      have HLN := Lib.hid hln
      clear hln
      have hBl : Below w.heap.size w (wr.alloc (Obj.cells #[Value.string (sumB ss[k])] 9)) := hbel.alloc hbel.size _
      go_wp2_with fail
      refine (refsum_any ss[k] _ HZ.out).mono ?_
      rintro e wz ⟨rfl, rfl⟩
      go_wp2_with (at_builtin; refine wpList_cat _ rfl _ _ rfl w.heap.size 0 _ _ ((ss.map sumB).take k) [sumB ss[k]] rfl rfl (hown.below (below_lit wr _)) (own_lit wr _) HLN.out hBl.size ?_)
      intro v7 w7 hown7 hgrow7
      have hB7 := below_append hBl hown hgrow7
      go_wp2_with fail
      go_roundw
      case rel => exact ⟨k + 1, by omega, by go_num, by rw [List.take_succ_eq_append_getElem (by simpa using hlt), List.getElem_map]; exact hown7, hB7⟩
      case measure => simp [intOf]; omega
    · obtain rfl : k = ss.length := by omega
      rw [List.take_of_length_le (by simp)] at hown
      have hso := hown.ok (by intro s hs; simp only [List.mem_map] at hs; obtain ⟨t, _, rfl⟩ := hs; rw [sumB_size]; unfold maxLen; omega)
      obtain ⟨g, go, gcap, rfl, g1, g3, gc⟩ := hso.open_ (by simpa using h0)
      simp only [List.length_map] at g1 gc ⊢
      have GC := Lib.hid gc
      clear hown hso gc
      have HC2 : Hid (∀ j (hj : j < ss.length), wr.cell? ⟨b, off + j, none⟩ = some (.string ss[j])) := Lib.hid (fun j hj => (hbel.cell (p := ⟨b, off + j, none⟩) hlt0).trans (HC.out j hj))
      obtain ⟨W, hW⟩ : ∃ W, W = wr := ⟨_, rfl⟩
      subst hW
      go_wp2_with fail
      go_loopw [5] (fun i wq => ∃ a n : Nat, a ≤ ss.length ∧ i = .int .i64 a ∧ wq = W.drewN n ∧ Hid (∀ x, x < a → ∀ y, y < x → ¬ pairAt ss x y)) (fun i _ => ss.length - (intOf i).toNat)
      case atStart => exact ⟨0, 0, by omega, rfl, rfl, Lib.hid (fun x hx => absurd hx (by omega))⟩
      case round =>
        obtain ⟨a, n, ha, rfl, rfl, hnp⟩ := hrel
        by_cases halt : a < ss.length
        · go_wp2_with fail
          go_loopw [6] (fun i wq => ∃ c m : Nat, c ≤ a ∧ i = .int .i64 c ∧ wq = W.drewN m ∧ Hid (∀ y, y < c → ¬ pairAt ss a y)) (fun i _ => a - (intOf i).toNat)
          case atStart => exact ⟨0, n, by omega, rfl, rfl, Lib.hid (fun y hy => absurd hy (by omega))⟩
          case round =>
            obtain ⟨c, m, hca, rfl, rfl, hnq⟩ := hrel
            by_cases hclt : c < a
            · have c1 := HC2.out a halt
              have c2 := HC2.out c (by omega)
              have d1 := GC.out a halt
              have d2 := GC.out c (by omega)
              simp only [List.getElem_map] at d1 d2
              have hpair : pairAt ss a c ↔ (sumB ss[a] = sumB ss[c] ∧ ss[a] ≠ ss[c]) := by unfold pairAt; rw [getD_in halt, getD_in (show c < ss.length by omega)]
              have HPR := Lib.hid hpair
              clear hpair
              obtain ⟨X, hX⟩ : ∃ X, X = sumB ss[a] := ⟨_, rfl⟩
              obtain ⟨Y, hY⟩ : ∃ Y, Y = sumB ss[c] := ⟨_, rfl⟩
              obtain ⟨S, hS⟩ : ∃ S, S = ss[a] := ⟨_, rfl⟩
              obtain ⟨T, hT⟩ : ∃ T, T = ss[c] := ⟨_, rfl⟩
              rw [← hX] at d1
              rw [← hY] at d2
              rw [← hS] at c1
              rw [← hT] at c2
              have HX := Lib.hid hX
              have HY := Lib.hid hY
              have HSS := Lib.hid hS
              have HTT := Lib.hid hT
              clear hX hY hS hT
              by_cases e : X = Y
              · have e1 : (X.toList == Y.toList) = true := by rw [str_beq]; exact decide_eq_true e
                have E := Lib.hid e
                clear e
                by_cases f : S = T
                · have e2 : (S.toList == T.toList) = true := by rw [str_beq]; exact decide_eq_true f
                  have no : ¬ pairAt ss a c := fun h => (HPR.out.1 h).2 (by rw [← HSS.out, ← HTT.out]; exact f)
                  have NO := Lib.hid no
                  clear f no
                  go_wp2_with fail
                  go_quiet (fail)
                  go_wp2_with fail
                  refine ⟨⟨c + 1, m + nq, by omega, by go_num, rfl, Lib.hid (fun y hy => ?_)⟩, by simp [intOf]; omega⟩
                  by_cases ey : y = c
                  · subst ey; exact NO.out
                  · exact hnq.out y (by omega)
                · have e2 : (S.toList == T.toList) = false := by rw [str_beq]; exact decide_eq_false f
                  clear f
                  go_wp2_with fail
                  go_quiet (fail)
                  go_wp2_with fail
                  go_ret
                  exact ⟨rfl, below_drewN (below_drewN hbel _) _⟩
              · have e1 : (X.toList == Y.toList) = false := by rw [str_beq]; exact decide_eq_false e
                have no : ¬ pairAt ss a c := fun h => e (by rw [HX.out, HY.out]; exact (HPR.out.1 h).1)
                have NO := Lib.hid no
                clear e no
                go_wp2_with fail
                go_quiet (fail)
                go_wp2_with fail
                refine ⟨⟨c + 1, m + nq, by omega, by go_num, rfl, Lib.hid (fun y hy => ?_)⟩, by simp [intOf]; omega⟩
                by_cases ey : y = c
                · subst ey; exact NO.out
                · exact hnq.out y (by omega)
            · obtain rfl : c = a := by omega
              go_wp2_with fail
              go_roundw
              case rel =>
                refine ⟨c + 1, m, by omega, by go_num, rfl, Lib.hid (fun x hx y hy => ?_)⟩
                by_cases ex : x = c
                · subst ex; exact hnq.out y hy
                · exact hnp.out x (by omega) y hy
              case measure => simp [intOf]; omega
        · exfalso
          obtain ⟨x, y, h1, h2, h3⟩ := SH.out
          exact hnp.out x (by omega) y h1 h3
theorem shown_any (v : Value) (ss : List ByteArray) (w : World) (h : StrsOk w v ss) (hl : ss.length ≤ 549755813888) (hsz : ∀ s ∈ ss, s.size ≤ 140737488355328) (hsh : Shown ss) :
    Calls Tryd.prog 18 #[v] w fun e w' => e = .returned (.bool true) ∧ Below w.heap.size w w' := by
  have h0 : 0 < ss.length := by
    obtain ⟨x, hx, _⟩ := hsh
    exact List.length_pos_of_mem hx
  obtain ⟨b, off, cap, rfl, h1, h3, hc⟩ := h.open_ h0
  exact shown_full b off cap ss w h0 hl h hsz hc hsh
end Go.Proofs.YtcdnddjoonecdaaDoor

/-
  Mathematics of the trees of layer 2: paths and links prove what they stand for, how long they are, and what they bind, or else two different texts have one digest.
-/
set_option linter.unusedVariables false
set_option maxRecDepth 100000
namespace Go.Proofs.YtcdnddjoonecdaaDoor
open Go.RowKit
theorem rootB_is {l : List ByteArray} (h : digsB l = true) : isB (rootB l) = true := by
  by_cases h2 : 2 ≤ l.length
  · rw [rootB_big h2]; exact isB_sum _
  · match l, h2 with
    | [], _ => rw [rootB_nil]; exact isB_sum _
    | [a], _ => rw [rootB_one]; exact digsB_is h a (by simp)
    | _ :: _ :: _, h2 => simp at h2
theorem digsB_take {l : List ByteArray} (h : digsB l = true) (k : Nat) : digsB (l.take k) = true := by
  unfold digsB at h ⊢
  rw [List.all_eq_true] at h ⊢
  exact fun s hs => h s (List.mem_of_mem_take hs)
theorem digsB_drop {l : List ByteArray} (h : digsB l = true) (k : Nat) : digsB (l.drop k) = true := by
  unfold digsB at h ⊢
  rw [List.all_eq_true] at h ⊢
  exact fun s hs => h s (List.mem_of_mem_drop hs)
theorem digsB_append {l m : List ByteArray} (h : digsB l = true) (g : digsB m = true) : digsB (l ++ m) = true := by
  unfold digsB at *
  rw [List.all_append, h, g]; rfl
theorem digsB_one {a : ByteArray} (h : isB a = true) : digsB [a] = true := by simp [digsB, h]
theorem pathB_len : ∀ (n : Nat) (l : List ByteArray) (i : Nat), l.length = n → (pathB l i).length = lenB n i := by
  intro n
  induction n using Nat.strongRecOn with
  | _ n ih =>
    intro l i hl
    by_cases h2 : 2 ≤ l.length
    · have k1 := half_pos h2
      have k2 := half_lt h2
      rw [pathB_big h2, lenB_big (by omega), ← hl]
      split
      · rw [List.length_append, ih _ (by omega) (l.take (half l.length)) i (take_length h2)]; simp; omega
      · rw [List.length_append, ih _ (by omega) (l.drop (half l.length)) _ (drop_length h2)]; simp; omega
    · rw [pathB_small h2, lenB_small (by omega)]; rfl
theorem pathB_digs : ∀ (n : Nat) (l : List ByteArray) (i : Nat), l.length = n → digsB l = true → digsB (pathB l i) = true := by
  intro n
  induction n using Nat.strongRecOn with
  | _ n ih =>
    intro l i hl hd
    by_cases h2 : 2 ≤ l.length
    · have k1 := half_pos h2
      have k2 := half_lt h2
      rw [pathB_big h2]
      split
      · exact digsB_append (ih _ (by omega) (l.take (half l.length)) i (take_length h2) (digsB_take hd _)) (digsB_one (rootB_is (digsB_drop hd _)))
      · exact digsB_append (ih _ (by omega) (l.drop (half l.length)) _ (drop_length h2) (digsB_drop hd _)) (digsB_one (rootB_is (digsB_take hd _)))
    · rw [pathB_small h2]; rfl
theorem getD_take {l : List ByteArray} {i k : Nat} (h : i < k) (d : ByteArray) : (l.take k).getD i d = l.getD i d := by
  simp [List.getD_eq_getElem?_getD, h]
theorem getD_drop {l : List ByteArray} {i k : Nat} (h : k ≤ i) (d : ByteArray) : (l.drop k).getD (i - k) d = l.getD i d := by
  simp only [List.getD_eq_getElem?_getD, List.getElem?_drop]
  rw [Nat.add_sub_cancel' h]
theorem upB_path : ∀ (n : Nat) (l : List ByteArray) (i : Nat), l.length = n → i < n → upB n i (l.getD i emptyB) (pathB l i) = rootB l := by
  intro n
  induction n using Nat.strongRecOn with
  | _ n ih =>
    intro l i hl hi
    by_cases h2 : 2 ≤ l.length
    · have k1 := half_pos h2
      have k2 := half_lt h2
      have h2n : 2 ≤ n := by omega
      rw [pathB_big h2, rootB_big h2]
      split
      · rename_i hlt
        have := ih (half l.length) (by omega) (l.take (half l.length)) i (take_length h2) hlt
        rw [getD_take hlt] at this
        subst hl
        rw [upB_lo h2 i hlt, this]
      · rename_i hlt
        have := ih (l.length - half l.length) (by omega) (l.drop (half l.length)) (i - half l.length) (drop_length h2) (by omega)
        rw [getD_drop (by omega)] at this
        subst hl
        rw [upB_hi h2 i hlt, this]
    · match l, h2, hl with
      | [], _, hl => simp at hl; omega
      | [a], _, hl =>
        simp at hl
        obtain rfl : i = 0 := by omega
        rw [upB_small (by omega), rootB_one]; rfl
      | _ :: _ :: _, h2, _ => simp at h2
/-- a path that proves a digest at the place of an element binds it -/
theorem path_binds : ∀ (n : Nat) (l : List ByteArray) (i : Nat) (s : ByteArray) (p : List ByteArray), l.length = n → i < n → p.length = lenB n i → upB n i s p = rootB l →
    s = l.getD i emptyB ∨ Shown (textsB l ++ pathTextsB n i s p) := by
  intro n
  induction n using Nat.strongRecOn with
  | _ n ih =>
    intro l i s p hl hi hp h
    by_cases h2 : 2 ≤ l.length
    · have k1 := half_pos h2
      have k2 := half_lt h2
      subst hl
      rw [lenB_big h2] at hp
      obtain ⟨q, x, rfl⟩ := snoc_of (p := p) (by intro e; subst e; simp at hp; split at hp <;> omega)
      simp only [List.length_append, List.length_singleton] at hp
      rw [rootB_big h2] at h
      by_cases hlt : i < half l.length
      · rw [if_pos hlt] at hp
        rw [upB_lo h2 i hlt] at h
        rw [pathTextsB_lo h2 i hlt]
        by_cases e : nodeT (upB (half l.length) i s q) x = nodeT (rootB (l.take (half l.length))) (rootB (l.drop (half l.length)))
        · obtain ⟨e1, e2⟩ := nodeT_inj e
          rcases ih (half l.length) k2 (l.take (half l.length)) i s q (take_length h2) hlt (by omega) e1 with r | r
          · left; rw [r, getD_take hlt]
          · right
            refine r.mono fun y hy => ?_
            rw [textsB_big h2]
            simp only [List.mem_append] at hy ⊢
            rcases hy with hy | hy <;> simp [hy]
        · right
          refine ⟨_, ?_, _, ?_, h, e⟩
          · rw [List.mem_append]; right; simp
          · rw [List.mem_append, textsB_big h2]; left; simp
      · rw [if_neg hlt] at hp
        rw [upB_hi h2 i hlt] at h
        rw [pathTextsB_hi h2 i hlt]
        by_cases e : nodeT x (upB (l.length - half l.length) (i - half l.length) s q) = nodeT (rootB (l.take (half l.length))) (rootB (l.drop (half l.length)))
        · obtain ⟨e1, e2⟩ := nodeT_inj e
          rcases ih (l.length - half l.length) (by omega) (l.drop (half l.length)) (i - half l.length) s q (drop_length h2) (by omega) (by omega) e2 with r | r
          · left; rw [r, getD_drop (by omega)]
          · right
            refine r.mono fun y hy => ?_
            rw [textsB_big h2]
            simp only [List.mem_append] at hy ⊢
            rcases hy with hy | hy <;> simp [hy]
        · right
          refine ⟨_, ?_, _, ?_, h, e⟩
          · rw [List.mem_append]; right; simp
          · rw [List.mem_append, textsB_big h2]; left; simp
    · left
      match l, h2, hl with
      | [], _, hl => simp at hl; omega
      | [a], _, hl =>
        simp at hl
        obtain rfl : i = 0 := by omega
        rw [upB_small (by omega), rootB_one] at h
        rw [h]; rfl
      | _ :: _ :: _, h2, _ => simp at h2
theorem linkB_len : ∀ (n : Nat) (l : List ByteArray) (m : Nat) (b : Bool), l.length = n → 0 < m → m ≤ n → (linkB l m b).length = longB n m b := by
  intro n
  induction n using Nat.strongRecOn with
  | _ n ih =>
    intro l m b hl hm0 hm
    by_cases e : m = l.length
    · subst e hl
      rw [linkB_end, longB_end]
      split <;> rfl
    · have h2 : 2 ≤ l.length := by omega
      have k1 := half_pos h2
      have k2 := half_lt h2
      subst hl
      rw [linkB_big b h2 e, longB_big b h2 e]
      split
      · rw [List.length_append, ih _ (by omega) (l.take (half l.length)) m b (take_length h2) hm0 (by omega)]; simp; omega
      · rw [List.length_append, ih _ (by omega) (l.drop (half l.length)) _ false (drop_length h2) (by omega) (by omega)]; simp; omega
theorem linkB_digs : ∀ (n : Nat) (l : List ByteArray) (m : Nat) (b : Bool), l.length = n → 0 < m → m ≤ n → digsB l = true → digsB (linkB l m b) = true := by
  intro n
  induction n using Nat.strongRecOn with
  | _ n ih =>
    intro l m b hl hm0 hm hd
    by_cases e : m = l.length
    · subst e hl
      rw [linkB_end]
      split
      · rfl
      · exact digsB_one (rootB_is hd)
    · have h2 : 2 ≤ l.length := by omega
      have k1 := half_pos h2
      have k2 := half_lt h2
      subst hl
      rw [linkB_big b h2 e]
      split
      · exact digsB_append (ih _ (by omega) (l.take (half l.length)) m b (take_length h2) hm0 (by omega) (digsB_take hd _)) (digsB_one (rootB_is (digsB_drop hd _)))
      · exact digsB_append (ih _ (by omega) (l.drop (half l.length)) _ false (drop_length h2) (by omega) (by omega) (digsB_drop hd _)) (digsB_one (rootB_is (digsB_take hd _)))
theorem take_take_lo {l : List ByteArray} {m k : Nat} (h : m ≤ k) : (l.take k).take m = l.take m := by
  rw [List.take_take, Nat.min_eq_left h]
theorem root_take_hi {l : List ByteArray} {m : Nat} (h2 : 2 ≤ l.length) (h : half l.length < m) (hm : m ≤ l.length) :
    2 ≤ (l.take m).length ∧ (l.take m).take (half (l.take m).length) = l.take (half l.length) ∧ (l.take m).drop (half (l.take m).length) = (l.drop (half l.length)).take (m - half l.length) := by
  have k1 := half_pos h2
  have e : (l.take m).length = m := by rw [List.length_take]; omega
  have em := half_mid h2 h hm
  rw [e, em]
  refine ⟨by omega, ?_, ?_⟩
  · rw [List.take_take, Nat.min_eq_left (by omega)]
  · rw [List.drop_take]
theorem bothB_link : ∀ (n : Nat) (l : List ByteArray) (m : Nat) (b : Bool) (old : ByteArray), l.length = n → 0 < m → m ≤ n → (b = true → old = rootB (l.take m)) →
    bothB n m b old (linkB l m b) = (rootB (l.take m), rootB l) := by
  intro n
  induction n using Nat.strongRecOn with
  | _ n ih =>
    intro l m b old hl hm0 hm ho
    by_cases e : m = l.length
    · subst e hl
      rw [linkB_end, bothB_end, List.take_length]
      cases b with
      | true => rw [if_pos rfl, ho rfl, List.take_length]
      | false => rfl
    · have h2 : 2 ≤ l.length := by omega
      have k1 := half_pos h2
      have k2 := half_lt h2
      subst hl
      rw [linkB_big b h2 e]
      split
      · rename_i hi
        have := ih _ k2 (l.take (half l.length)) m b old (take_length h2) hm0 hi (by intro hb; rw [take_take_lo hi]; exact ho hb)
        rw [bothB_lo b h2 e hi, this, take_take_lo hi, rootB_big h2]
      · rename_i hi
        have := ih (l.length - half l.length) (by omega) (l.drop (half l.length)) (m - half l.length) false old (drop_length h2) (by omega) (by omega) (by intro hb; simp at hb)
        obtain ⟨t1, t2, t3⟩ := root_take_hi h2 (by omega) hm
        rw [bothB_hi b h2 e hi, this, rootB_big h2, rootB_big t1, t2, t3]
/-- a link that proves the root of all proves that of the first -/
theorem link_binds : ∀ (n : Nat) (l : List ByteArray) (m : Nat) (b : Bool) (old : ByteArray) (p : List ByteArray), l.length = n → 0 < m → m ≤ n → p.length = longB n m b → (bothB n m b old p).2 = rootB l →
    (bothB n m b old p).1 = rootB (l.take m) ∨ Shown (textsB l ++ linkTextsB n m b old p) := by
  intro n
  induction n using Nat.strongRecOn with
  | _ n ih =>
    intro l m b old p hl hm0 hm hp h
    by_cases e : m = l.length
    · subst e hl
      left
      rw [bothB_end] at h ⊢
      rw [List.take_length]
      cases b with
      | true => exact h
      | false => exact h
    · have h2 : 2 ≤ l.length := by omega
      have k1 := half_pos h2
      have k2 := half_lt h2
      subst hl
      rw [longB_big b h2 e] at hp
      obtain ⟨q, x, rfl⟩ := snoc_of (p := p) (by intro e; subst e; simp at hp; split at hp <;> omega)
      simp only [List.length_append, List.length_singleton] at hp
      rw [rootB_big h2] at h
      by_cases hi : m ≤ half l.length
      · rw [if_pos hi] at hp
        rw [bothB_lo b h2 e hi] at h ⊢
        rw [linkTextsB_lo b h2 e hi]
        by_cases ee : nodeT (bothB (half l.length) m b old q).2 x = nodeT (rootB (l.take (half l.length))) (rootB (l.drop (half l.length)))
        · obtain ⟨e1, e2⟩ := nodeT_inj ee
          rcases ih (half l.length) k2 (l.take (half l.length)) m b old q (take_length h2) hm0 hi (by omega) e1 with r | r
          · left; rw [take_take_lo hi] at r; exact r
          · right
            refine r.mono fun y hy => ?_
            rw [textsB_big h2]
            simp only [List.mem_append] at hy ⊢
            rcases hy with hy | hy <;> simp [hy]
        · right
          refine ⟨_, ?_, _, ?_, h, ee⟩
          · rw [List.mem_append]; right; simp
          · rw [List.mem_append, textsB_big h2]; left; simp
      · rw [if_neg hi] at hp
        rw [bothB_hi b h2 e hi] at h ⊢
        rw [linkTextsB_hi b h2 e hi]
        by_cases ee : nodeT x (bothB (l.length - half l.length) (m - half l.length) false old q).2 = nodeT (rootB (l.take (half l.length))) (rootB (l.drop (half l.length)))
        · obtain ⟨e1, e2⟩ := nodeT_inj ee
          rcases ih (l.length - half l.length) (by omega) (l.drop (half l.length)) (m - half l.length) false old q (drop_length h2) (by omega) (by omega) (by omega) e2 with r | r
          · left
            obtain ⟨t1, t2, t3⟩ := root_take_hi h2 (by omega) hm
            rw [rootB_big t1, t2, t3, ← r, ← e1]
          · right
            refine r.mono fun y hy => ?_
            rw [textsB_big h2]
            simp only [List.mem_append] at hy ⊢
            rcases hy with hy | hy <;> simp [hy]
        · right
          refine ⟨_, ?_, _, ?_, h, ee⟩
          · rw [List.mem_append]; right; simp
          · rw [List.mem_append, textsB_big h2]; left; simp
/-- how many binary digits a number has -/
def digitsN (n : Nat) : Nat := if h : n = 0 then 0 else digitsN (n / 2) + 1
  termination_by n
  decreasing_by omega
theorem digitsN_zero : digitsN 0 = 0 := by rw [digitsN, dif_pos rfl]
theorem digitsN_pos {n : Nat} (h : 0 < n) : digitsN n = digitsN (n / 2) + 1 := by rw [digitsN, dif_neg (by omega)]
theorem digitsN_lt (n : Nat) : n < 2 ^ digitsN n := by
  induction n using Nat.strongRecOn with
  | _ n ih =>
    by_cases h : n = 0
    · subst h; rw [digitsN_zero]; decide
    · rw [digitsN_pos (by omega), Nat.pow_succ]
      have := ih (n / 2) (by omega)
      omega
theorem half_fit {n d : Nat} (h2 : 2 ≤ n) (h : n ≤ 2 ^ d) : ∃ e, d = e + 1 ∧ half n ≤ 2 ^ e ∧ n - half n ≤ 2 ^ e := by
  obtain ⟨j, hj⟩ := half_pow n
  have k2 := half_lt h2
  have k3 := half_le h2
  have hjd : j < d := by
    by_cases hc : j < d
    · exact hc
    · have : 2 ^ d ≤ 2 ^ j := Nat.pow_le_pow_right (by omega) (by omega)
      omega
  refine ⟨d - 1, by omega, ?_, ?_⟩
  · rw [hj]; exact Nat.pow_le_pow_right (by omega) (by omega)
  · have : 2 ^ j ≤ 2 ^ (d - 1) := Nat.pow_le_pow_right (by omega) (by omega)
    omega
theorem lenB_fit : ∀ (n i d : Nat), n ≤ 2 ^ d → lenB n i ≤ d := by
  intro n
  induction n using Nat.strongRecOn with
  | _ n ih =>
    intro i d h
    by_cases h2 : 2 ≤ n
    · have k1 := half_pos h2
      have k2 := half_lt h2
      obtain ⟨e, rfl, e1, e2⟩ := half_fit h2 h
      rw [lenB_big h2]
      split
      · have := ih _ k2 i e e1; omega
      · have := ih _ (by omega) (i - half n) e e2; omega
    · rw [lenB_small h2]; omega
theorem longB_fit : ∀ (n m d : Nat) (b : Bool), 0 < m → m ≤ n → n ≤ 2 ^ d → longB n m b ≤ d + 1 := by
  intro n
  induction n using Nat.strongRecOn with
  | _ n ih =>
    intro m d b hm0 hm h
    by_cases e : m = n
    · subst e; rw [longB_end]; split <;> omega
    · have h2 : 2 ≤ n := by omega
      have k1 := half_pos h2
      have k2 := half_lt h2
      obtain ⟨e', rfl, e1, e2⟩ := half_fit h2 h
      rw [longB_big b h2 e]
      split
      · have := ih _ k2 m e' b hm0 (by omega) e1; omega
      · have := ih _ (by omega) (m - half n) e' false (by omega) (by omega) e2; omega
theorem lenB_digits (n i : Nat) : lenB n i ≤ digitsN n := lenB_fit n i _ (Nat.le_of_lt (digitsN_lt n))
theorem longB_digits (n m : Nat) (b : Bool) (h0 : 0 < m) (h : m ≤ n) : longB n m b ≤ digitsN n + 1 := longB_fit n m _ b h0 h (Nat.le_of_lt (digitsN_lt n))
theorem lenB_zero_iff {n i : Nat} (h : 0 < n) : lenB n i = 0 ↔ n = 1 := by
  by_cases h2 : 2 ≤ n
  · rw [lenB_big h2]; split <;> omega
  · rw [lenB_small h2]; omega
theorem longB_zero_iff {n m : Nat} (h : 0 < m) (hm : m ≤ n) : longB n m true = 0 ↔ m = n := by
  by_cases e : m = n
  · subst e; rw [longB_end]; simp
  · rw [longB_big true (by omega) e]; split <;> omega
end Go.Proofs.YtcdnddjoonecdaaDoor
