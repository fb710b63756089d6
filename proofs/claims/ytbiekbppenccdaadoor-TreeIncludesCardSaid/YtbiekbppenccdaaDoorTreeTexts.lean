/-
  The reference's Texts: the texts that are digested for the root of a list.
-/
import Derived.Test.YtbiekbppenccdaaDoorTreePtexts
import Derived.Test.YtbiekbppenccdaaDoorTreeCat
set_option linter.unusedVariables false
namespace Go.Proofs.YtbiekbppenccdaaDoor
open Go.RowKit
theorem textsB_nil : textsB [] = [joinB [kEmpty]] := by rw [textsB, dif_neg (by simp)]; rfl
theorem textsB_one (a : ByteArray) : textsB [a] = [] := by rw [textsB, dif_neg (by simp)]; rfl
theorem textsB_len : ∀ (n : Nat) (l : List ByteArray), l.length = n → (textsB l).length ≤ l.length + 1 ∧ (0 < l.length → (textsB l).length + 1 ≤ l.length) := by
  intro n
  induction n using Nat.strongRecOn with
  | _ n ih =>
    intro l hl
    by_cases h2 : 2 ≤ l.length
    · have k1 := half_pos h2
      have k2 := half_lt h2
      obtain ⟨_, a⟩ := ih _ (by omega) (l.take (half l.length)) (take_length h2)
      obtain ⟨_, b⟩ := ih _ (by omega) (l.drop (half l.length)) (drop_length h2)
      rw [take_length h2] at a
      rw [drop_length h2] at b
      have a := a (by omega)
      have b := b (by omega)
      rw [textsB_big h2]
      simp only [List.length_append, List.length_singleton]
      omega
    · match l, h2 with
      | [], _ => rw [textsB_nil]; simp
      | [a], _ => rw [textsB_one]; simp
      | _ :: _ :: _, h2 => simp at h2
theorem joinB_small {ss : List ByteArray} (hl : ss.length ≤ 10) (hs : ∀ s ∈ ss, s.size ≤ 2147483648) : (joinB ss).size ≤ 1099511627776 := by
  have hc : ∀ l : List ByteArray, (∀ s ∈ l, s.size ≤ 2147483648) → capN l ≤ 2147483669 * l.length := by
    intro l
    induction l with
    | nil => intro _; simp [capN]
    | cons s r ih =>
      intro h
      have h1 := h s (List.mem_cons_self ..)
      have h2 := ih (fun x hx => h x (List.mem_cons_of_mem _ hx))
      simp only [capN, List.length_cons]; omega
  have c1 := hc ss hs
  have c2 := join_le_cap (ss := ss) (fun s h => by have := hs s h; omega)
  have := joinB_size ss
  omega
theorem nodeT_small {a b : ByteArray} (ha : a.size ≤ 2147483648) (hb : b.size ≤ 2147483648) : (nodeT a b).size ≤ 1099511627776 := joinB_small (by simp) (by
    intro s h; simp only [List.mem_cons, List.not_mem_nil, or_false] at h
    rcases h with rfl | rfl | rfl
    · decide
    · exact ha
    · exact hb)
set_option maxHeartbeats 400000 in
theorem reftexts_nil (a : Option Addr) (cap : Nat) (w : World) :
    Calls Tryd.prog 27 #[.slice a 0 cap] w (Gives (textsB []) w) := by
  have HT := Lib.hid textsB_nil
  go_enter Tryd.func27, Tryd.ntmps27
  go_wp2_with fail
  refine (refjlit_any _ _ _ (one_at w kEmpty) (by simp) (by
    intro s h; simp only [List.mem_cons, List.not_mem_nil, or_false] at h
    subst h; decide)).mono ?_
  rintro e w1 ⟨rfl, hb1⟩
  have hb := (below_lit w _).trans (hb1.mono (below_lit w _).size)
  clear hb1
  go_wp2_with fail
  go_ret
  refine ⟨_, rfl, ?_, hb.alloc hb.size _⟩
  rw [HT.out]
  exact World.ownsRow_lit w1 #[Value.string (joinB [kEmpty])] 1 hb.size (by unfold maxLen; omega) rfl
set_option maxHeartbeats 400000 in
theorem reftexts_one (a : Option Addr) (cap : Nat) (w : World) :
    Calls Tryd.prog 27 #[.slice a 1 cap] w (Gives [] w) := by
  go_enter Tryd.func27, Tryd.ntmps27
  go_wp2_with fail
  go_ret
  exact ⟨_, rfl, OwnS.nil _ _, Below.refl _ _⟩
theorem refnodeT_lit (A B R : ByteArray) (w : World) (hR : Hid (R = nodeT A B)) (ha : A.size ≤ 2147483648) (hb : B.size ≤ 2147483648) :
    Calls Tryd.prog 53 #[.slice (some ⟨w.heap.size, 0, none⟩) 3 3] (w.alloc (Obj.cells #[Value.string kNode, Value.string A, Value.string B] 9)) fun e w' => e = .returned (.string R) ∧ Below (w.alloc (Obj.cells #[Value.string kNode, Value.string A, Value.string B] 9)).heap.size (w.alloc (Obj.cells #[Value.string kNode, Value.string A, Value.string B] 9)) w' := by
  rw [hR.out]
  exact refjlit_any _ _ _ (lit3_at w kNode A B) (by simp) (by
    intro s h; simp only [List.mem_cons, List.not_mem_nil, or_false] at h
    rcases h with rfl | rfl | rfl
    · decide
    · exact ha
    · exact hb)
set_option maxHeartbeats 4000000 in
theorem reftexts_step (ss : List ByteArray) (b off cap : Nat) (w : World) (h2 : 2 ≤ ss.length) (hn : ss.length ≤ 1099511627776) (hcap : ss.length ≤ cap) (hcm : cap ≤ maxLen) (A B R : ByteArray) (P1 P2 : List ByteArray) (hR : R = nodeT A B) (hA : A.size ≤ 2147483648) (hB : B.size ≤ 2147483648) (hP : P1.length + P2.length + 1 ≤ 1099511627776)
    (hra : ∀ w', Below w.heap.size w w' → Calls Tryd.prog 35 #[.slice (some ⟨b, off, none⟩) (half ss.length) cap] w' fun e w'' => e = .returned (.string A) ∧ Below w'.heap.size w' w'')
    (hrb : ∀ w', Below w.heap.size w w' → Calls Tryd.prog 35 #[.slice (some ⟨b, off + half ss.length, none⟩) (ss.length - half ss.length) (cap - half ss.length)] w' fun e w'' => e = .returned (.string B) ∧ Below w'.heap.size w' w'')
    (hta : ∀ w', Below w.heap.size w w' → Calls Tryd.prog 27 #[.slice (some ⟨b, off, none⟩) (half ss.length) cap] w' (Gives P1 w'))
    (htb : ∀ w', Below w.heap.size w w' → Calls Tryd.prog 27 #[.slice (some ⟨b, off + half ss.length, none⟩) (ss.length - half ss.length) (cap - half ss.length)] w' (Gives P2 w')) :
    Calls Tryd.prog 27 #[.slice (some ⟨b, off, none⟩) ss.length cap] w (Gives (P1 ++ P2 ++ [R]) w) := by
  have HRA := Lib.hid hra
  have HRB := Lib.hid hrb
  have HTA := Lib.hid hta
  have HTB := Lib.hid htb
  have S1 := Lib.hid hA
  have S2 := Lib.hid hB
  have HR := Lib.hid hR
  have k1 := half_pos h2
  have k2 := half_lt h2
  have i1 : (0 : Int) ≤ (half ss.length : Int) := by omega
  have i2 : (half ss.length : Int) ≤ (cap : Int) := by omega
  have i3 : (half ss.length : Int) ≤ (ss.length : Int) := by omega
  have t0 : ((ss.length : Int) == 0) = false := beq_eq_false_iff_ne.2 (by omega)
  have t1 : ((ss.length : Int) == 1) = false := beq_eq_false_iff_ne.2 (by omega)
  have t2 : ¬ cap = half ss.length := by omega
  clear hra hrb hta htb hA hB hR
  unfold maxLen at hcm
  go_enter Tryd.func27, Tryd.ntmps27
  go_wp2_with fail
  refine (half_any _ _ h2 hn).mono ?_
  rintro e w1 ⟨rfl, rfl⟩
  go_wp2_with fail
  go_region_held3 (fun w' => Below w.heap.size w w') (first | (with_reducible assumption) | exact Below.drew (Below.refl _ _) | exact (Below.trans (by assumption) (Below.mono (by assumption) (Below.size (by assumption)))) | exact (Below.alloc (by assumption) (Below.size (by assumption)) _)) (first | (go_at_call 35; first | ((with_reducible refine (HRA.out _ ?hb).mono ?_); (case hb => assumption); rintro e w2 ⟨rfl, hb2⟩) | ((with_reducible refine (HRB.out _ ?hb).mono ?_); (case hb => assumption); rintro e w3 ⟨rfl, hb3⟩)) | (go_at_call 53; refine (refnodeT_lit _ _ _ _ HR S1.out S2.out).mono ?_; rintro e w4 ⟨rfl, hb4⟩) | fail "no arm")
  have hs4 : Below w.heap.size w w4 := by assumption
  have hs4s := hs4.size
  clear hb2 hb3 hb4 HRA HRB S1 S2 HR
  go_wp2_with fail
  go_region_held3 (fun w' => Below w.heap.size w w') (first | (with_reducible assumption) | exact Below.drew (by assumption) | exact hB9 | exact hB10 | exact (Below.trans (by assumption) (Below.mono (by assumption) (Below.size (by assumption)))) | exact (Below.alloc (by assumption) (Below.size (by assumption)) _)) (first | (go_at_call 27; first | ((with_reducible refine (HTA.out _ ?hb).mono ?_); (case hb => assumption); rintro e w5 ⟨u1, rfl, hu1, hb5⟩) | ((with_reducible refine (HTB.out _ ?hb).mono ?_); (case hb => assumption); rintro e w6 ⟨u2, rfl, hu2, hb6⟩)) | (refine step_cat _ (by rfl) _ _ (by rfl) w.heap.size _ u1 u2 P1 P2 (by rfl) (by rfl) (by first | exact (hu1.mono (by first | exact hs4s | exact Nat.le_trans hs4s (by simp))).below hb6 | exact ((hu1.mono (by first | exact hs4s | exact Nat.le_trans hs4s (by simp))).below (below_lit w5 _)).below hb6 | exact ((hu1.mono (by first | exact hs4s | exact Nat.le_trans hs4s (by simp))).below hb6).below (below_lit w6 _)) (by first | exact hu2 | exact hu2.below (below_lit w6 _)) (by omega) (Below.size (by assumption)) ?_; intro v7 w7 hown7 hgrow7; have hB9 := below_append (by assumption) (hu1.mono (by first | exact hs4s | exact Nat.le_trans hs4s (by simp))) hgrow7) | (refine step_cat _ (by rfl) _ _ (by rfl) w.heap.size 0 v7 _ (P1 ++ P2) [R] (by rfl) (by rfl) (by first | exact hown7 | exact hown7.below (below_lit w7 _)) (by first | exact own_lit w7 R | exact (own_lit w6 R).grown hgrow7 (Ne.symm ((hu1.below hb6).not_new (Nat.le_refl _))) | exact ((own_lit w5 R).below hb6).grown hgrow7 (Ne.symm (hu1.not_new (Nat.le_refl _))) | exact (((own_lit w4.drew R).below hb5).below hb6).grown hgrow7 (Ne.symm (hu1.not_low (by simp)))) (by simp; omega) (Below.size (by assumption)) ?_; intro v8 w8 hown8 hgrow8; have hB10 := below_append (by assumption) hown7 hgrow8) | fail "no arm")
  all_goals go_wp2_with fail
  all_goals go_ret
  all_goals exact ⟨_, rfl, hown8, by assumption⟩
theorem reftexts_any : ∀ (n : Nat) (ss : List ByteArray) (v : Value) (w : World), ss.length = n → n ≤ 549755813888 → Small ss → StrsOk w v ss →
    Calls Tryd.prog 27 #[v] w (Gives (textsB ss) w) := by
  intro n
  induction n using Nat.strongRecOn with
  | _ n ih =>
    intro ss v w hn hle hS hok
    by_cases h2 : 2 ≤ ss.length
    · obtain ⟨b, off, cap, rfl, h1, h3, hc⟩ := hok.open_ (by omega)
      have k1 := half_pos h2
      have k2 := half_lt h2
      have hfirst : ∀ w', Below w.heap.size w w' → StrsOk w' (.slice (some ⟨b, off, none⟩) (half ss.length) cap) (ss.take (half ss.length)) := fun w' hb => (StrsOk.first h1 h3 hok.sizes hc _ k1 (by omega)).below hb
      have hrest : ∀ w', Below w.heap.size w w' → StrsOk w' (.slice (some ⟨b, off + half ss.length, none⟩) (ss.length - half ss.length) (cap - half ss.length)) (ss.drop (half ss.length)) := fun w' hb => (StrsOk.rest h1 h3 hok.sizes hc _ k2).below hb
      have p1 := (textsB_len _ (ss.take (half ss.length)) rfl).1
      have p2 := (textsB_len _ (ss.drop (half ss.length)) rfl).1
      rw [take_length h2] at p1
      rw [drop_length h2] at p2
      rw [textsB_big h2]
      refine reftexts_step ss b off cap w h2 (by omega) h1 h3 _ _ _ _ _ rfl (rootB_size (hS.take _)) (rootB_size (hS.drop _)) (by omega) ?_ ?_ ?_ ?_
      · intro w' hb
        exact refroot_any _ _ _ w' (take_length h2) (by omega) (hS.take _) (hfirst w' hb)
      · intro w' hb
        exact refroot_any _ _ _ w' (drop_length h2) (by omega) (hS.drop _) (hrest w' hb)
      · intro w' hb
        exact ih (half ss.length) (by omega) _ _ w' (take_length h2) (by omega) (hS.take _) (hfirst w' hb)
      · intro w' hb
        exact ih (ss.length - half ss.length) (by omega) _ _ w' (drop_length h2) (by omega) (hS.drop _) (hrest w' hb)
    · match ss, h2 with
      | [], _ =>
        obtain ⟨a, cap, rfl, _, _⟩ := hok.room
        exact reftexts_nil a cap w
      | [s], _ =>
        obtain ⟨a, cap, rfl, _, _⟩ := hok.room
        rw [textsB_one]
        exact reftexts_one a cap w
      | _ :: _ :: _, h2 => simp at h2
theorem textsB_size : ∀ (n : Nat) (l : List ByteArray), l.length = n → Small l → ∀ s ∈ textsB l, s.size ≤ 1099511627776 := by
  intro n
  induction n using Nat.strongRecOn with
  | _ n ih =>
    intro l hl hS s hs
    by_cases h2 : 2 ≤ l.length
    · have k1 := half_pos h2
      have k2 := half_lt h2
      rw [textsB_big h2] at hs
      rcases List.mem_append.1 hs with hs | hs
      · rcases List.mem_append.1 hs with hs | hs
        · exact ih _ (by omega) (l.take (half l.length)) (take_length h2) (hS.take _) s hs
        · exact ih _ (by omega) (l.drop (half l.length)) (drop_length h2) (hS.drop _) s hs
      · simp only [List.mem_singleton] at hs
        subst hs
        exact nodeT_small (rootB_size (hS.take _)) (rootB_size (hS.drop _))
    · match l, h2, hs with
      | [], _, hs =>
        rw [textsB_nil] at hs
        simp only [List.mem_singleton] at hs
        subst hs
        exact joinB_small (by simp) (by intro s h; simp only [List.mem_cons, List.not_mem_nil, or_false] at h; subst h; decide)
      | [a], _, hs => rw [textsB_one] at hs; cases hs
      | _ :: _ :: _, h2, _ => simp at h2
end Go.Proofs.YtbiekbppenccdaaDoor
